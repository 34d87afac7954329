/-
  The document's slots (chapter 9, lavaboref4): Post, Answer, Hear.
-/
import Derived.Test.YtmealcbcphfpdaaMRef
namespace Go.Proofs.Ytmealcbcphfpdaa.MRefP
open Go.ChangeShapes Go.WideShapes Go.ChangeAt Go.RowKit Go.Conc
open Go.Proofs.Ytmealcbcphfpdaa.Mem Go.Proofs.Ytmealcbcphfpdaa.Blk Go.Proofs.Ytmealcbcphfpdaa.Cells Go.Proofs.Ytmealcbcphfpdaa.Chan Go.Proofs.Ytmealcbcphfpdaa.Prs Go.Proofs.Ytmealcbcphfpdaa.App Go.Proofs.Ytmealcbcphfpdaa.MailM Go.Proofs.Ytmealcbcphfpdaa.MRefA Go.Proofs.Ytmealcbcphfpdaa.MRefC Go.Proofs.Ytmealcbcphfpdaa.Stages

section
variable {w w' : World} {m d c : Nat} {b : Bx} {G : Nat → Prop} {A : Option Addr} {ys : List P2} {os : List Int}

/-- What stands in memory behind 'append(append([][2]int{}, l...), p)': two run equations; the new slice. -/
theorem append_two {zs : List P2} {w : World} (h : Pl w w.heap.size A zs.length zs) (p : P2) (hl : zs.length ≤ 100000) :
    ∃ v' w1 A2 k2 w2, (∀ ty, (Builtin.append_ #[26, 26] ty #[.slice (some ⟨w.heap.size, 0, none⟩) 0 0, .slice A zs.length c]).run Try.prog (w.alloc (.cells #[] 42)) = .ok v' w1) ∧
      (∀ ty, (Builtin.append_ #[26, 26] ty #[v', .slice (some ⟨w1.heap.size, 0, none⟩) 1 1]).run Try.prog (w1.alloc (.cells #[.int .i64 p.1, .int .i64 p.2] 42)) = .ok (.slice A2 (zs.length + 1) k2) w2) ∧
      Pl w2 w2.heap.size A2 (zs.length + 1) (zs ++ [p]) ∧ (zs.length + 1 ≤ k2 ∧ k2 ≤ maxLen) ∧ (∀ x, A2 = some x → w.heap.size ≤ x.block) ∧ Grow w w2 := by
  have hga : Grow w (w.alloc (.cells #[] 42)) := (Kept.refl _ _).alloc _
  have hown : (w.alloc (.cells #[] 42)).ownsRow w.heap.size 42 2 (.slice (some ⟨w.heap.size, 0, none⟩) 0 0) 0 (flat []) := World.ownsRow_lit (base := w.heap.size) (e := 42) (size := 2) w #[] 0 (Nat.le_refl _) (by unfold maxLen; omega) rfl
  obtain ⟨v', w1, hr, ho1, hb1⟩ := append_pl (m := zs.length) (A := A) (B := w.heap.size) (c := c) (ys := []) 26 hown (h.grow hga) (by omega) (by simp)
  have hg1 : Grow w w1 := grow_own hown hga hb1 (Nat.le_refl _)
  have ho1' := World.ownsRow.alloc ho1 (.cells #[.int .i64 p.1, .int .i64 p.2] 42)
  obtain ⟨v2, w2, hr2, ho2, hb2⟩ := append_pl (m := 1) (zs := [p]) (A := some ⟨w1.heap.size, 0, none⟩) (B := w1.heap.size + 1) (c := 1) 26 ho1' (pl_one w1 p) (by omega) (by have := hg1.size; simp; omega)
  have hg2 : Grow w w2 := grow_own ho1' (hg1.alloc _) hb2 (Nat.le_refl _)
  obtain ⟨A2, k2, rfl, hs, h1, h2, h3⟩ := own_pl ho2
  have e0 : 0 + zs.length = zs.length := Nat.zero_add _
  rw [e0] at hr2 hs h1
  exact ⟨v', w1, A2, k2, w2, fun ty => hr, fun ty => hr2, by simpa using hs, ⟨h1, h2⟩, h3, hg2⟩

set_option maxHeartbeats 1000000 in
theorem rpost_new (h : MRef w m d b) (g : Fit b) (f x : Int) (hf : isT f = true) (hw : f ∉ b.who) (hd : d < w.heap.size) : Calls Try.prog 9 #[.pointer (some ⟨m, 0, none⟩), .int .i64 f, .int .i64 x] w (QPost m d w (.int .i64 (b.postE f)) (b.postB f x)) := by
  have HT := Lib.hid (task_any (w := w) f)
  rw [hf] at HT
  obtain ⟨A0, A1, A2, k0, k1, k2, hr, ⟨p0, l0, o0⟩, ⟨p1, l1, o1⟩, ⟨p2, l2, o2⟩⟩ := h.hd
  obtain ⟨n0, n2, n1, _, _⟩ := g.parts
  have hl := g.lens
  have H0 := Lib.hid (at_any A0 k0 _ b.W f n0 (by omega) p0)
  have H1 := Lib.hid (at_any A1 k1 _ b.A f n1 (by omega) p1)
  have H2 := Lib.hid (place_any A2 k2 _ b.O f n2 (by omega) p2)
  have r0 := hr.cell (i := 0) (by omega)
  have r1 := hr.cell (i := 1) (by omega)
  have r2 := hr.cell (i := 2) (by omega)
  simp only [mcell, Nat.one_ne_zero, if_true, if_false, Nat.succ_ne_zero, Nat.reduceEqDiff] at r0 r1 r2
  have hI1 := idx_neg (fsts b.A) f
  have hI0 := idx_neg (fsts b.W) f
  have hI2 := idx_neg b.O f
  rw [mem_who] at hw
  have e0 : idxI (fsts b.W) f = -1 := by rcases hI0 with h | h; exact h.2; exact absurd (.inl h.1) hw
  have e1 : idxI (fsts b.A) f = -1 := by rcases hI1 with h | h; exact h.2; exact absurd (.inr (.inr h.1)) hw
  have e2 : idxI b.O f = -1 := by rcases hI2 with h | h; exact h.2; exact absurd (.inr (.inl h.1)) hw
  rw [e0] at H0
  rw [e1] at H1
  rw [e2] at H2
  have hst : b.st f = 0 := st_zero.2 (by rw [mem_who]; exact hw)
  have HM := Lib.hid h
  have hl8 := g.len
  by_cases h8 : b.W.length < 8
  · have he : b.postE f = 0 := by unfold Bx.postE; rw [hf, if_pos rfl, if_pos hst, if_pos h8]
    unfold Bx.postB
    rw [if_pos he, he]
    obtain ⟨v', w1, A3, k3, w2, q1, q2, q3, q4, q5, q6⟩ := append_two (c := k0) p0 (f, x) (by omega)
    have HQ1 := Lib.hid q1
    have HQ2 := Lib.hid q2
    have HG2 := Lib.hid q6
    have hlen : (b.W ++ [(f, x)]).length = b.W.length + 1 := by simp
    have HF : Hid (MRef (w2.setCell ⟨m, 0, none⟩ (.slice A3 (b.W ++ [(f, x)]).length k3)) m d ⟨b.W ++ [(f, x)], b.O, b.A⟩) := (h.grow q6).putW (by rw [hlen]; exact q3) (by rw [hlen]; exact q4) (off_new h.lt hd q5)
    rw [hlen] at HF
    have hga : Grow w (w.alloc (.cells #[] 42)) := (Kept.refl _ _).alloc _
    have ca := hga.cellN r0 id
    have r3 := q6.cellN r0 id
    have f3 := (hr.kept q6 id).frozen 0
    have h8z : (b.W.length : Int) < 8 := by omega
    clear h g hr p0 p1 p2 l0 l1 l2 o0 o1 o2 n0 n1 n2 hf hI0 hI1 hI2 hw e0 e1 e2 hst hl hl8 h8 hlen q1 q2 q3 q4 q5 q6 hga he
    go_enter Try.func9, Try.ntmps9
    go_wp2_with (first
      | (go_at_call 20; (with_reducible refine HT.out.mono ?_); rintro e w' ⟨rfl, rfl⟩)
      | (go_at_call 21; (with_reducible refine H0.out.mono ?_); rintro e w' ⟨rfl, rfl⟩)
      | (go_at_call 21; (with_reducible refine H1.out.mono ?_); rintro e w' ⟨rfl, rfl⟩)
      | (go_at_call 22; (with_reducible refine H2.out.mono ?_); rintro e w' ⟨rfl, rfl⟩)
      | (at_builtin; first | refine Lib.wpList_append_run _ rfl _ _ _ _ rfl _ _ rfl rfl _ _ (HQ1.out _) ?_ | refine Lib.wpList_append_run _ rfl _ _ _ _ rfl _ _ rfl rfl _ _ (HQ2.out _) ?_))
    go_ret
    exact ⟨rfl, HF.out, (Grow.kept HG2.out).trans (kept_set _ m 0 _)⟩
  · have he : b.postE f = 8 := by unfold Bx.postE; rw [hf, if_pos rfl, if_pos hst, if_neg h8]
    unfold Bx.postB
    rw [he, if_neg (by decide)]
    have h8z : 8 ≤ (b.W.length : Int) := by omega
    have hlz : (b.W.length : Int) ≤ 8 := by omega
    clear h g hr p0 p1 p2 l0 l1 l2 o0 o1 o2 n0 n1 n2 hf hI0 hI1 hI2 hw e0 e1 e2 hst hl hl8 h8 he
    go_enter Try.func9, Try.ntmps9
    go_wp2_with (first
      | (go_at_call 20; (with_reducible refine HT.out.mono ?_); rintro e w' ⟨rfl, rfl⟩)
      | (go_at_call 21; (with_reducible refine H0.out.mono ?_); rintro e w' ⟨rfl, rfl⟩)
      | (go_at_call 21; (with_reducible refine H1.out.mono ?_); rintro e w' ⟨rfl, rfl⟩)
      | (go_at_call 22; (with_reducible refine H2.out.mono ?_); rintro e w' ⟨rfl, rfl⟩))
    go_ret
    exact ⟨rfl, HM.out, Kept.refl _ _⟩
theorem rpost_any (h : MRef w m d b) (g : Fit b) (f x : Int) (hd : d < w.heap.size) : Calls Try.prog 9 #[.pointer (some ⟨m, 0, none⟩), .int .i64 f, .int .i64 x] w (QPost m d w (.int .i64 (b.postE f)) (b.postB f x)) := by
  cases hf : isT f with
  | false =>
    have he : b.postE f = 1 := by unfold Bx.postE; rw [hf]; rfl
    unfold Bx.postB
    rw [he, if_neg (by decide)]
    refine (rpost_bad h f x hf).mono ?_
    rintro e w' ⟨rfl, rfl⟩
    exact ⟨rfl, h, Kept.refl _ _⟩
  | true =>
    by_cases hw : f ∈ b.who
    · have hne : b.st f ≠ 0 := fun e => st_zero.1 e hw
      have he : b.postE f = 13 := by unfold Bx.postE; rw [hf, if_pos rfl, if_neg hne]
      unfold Bx.postB
      rw [he, if_neg (by decide)]
      refine (rpost_held h g f x hf hw).mono ?_
      rintro e w' ⟨rfl, rfl⟩
      exact ⟨rfl, h, Kept.refl _ _⟩
    · exact rpost_new h g f x hf hw hd

/-! ### Answer -/
theorem ranswer_no (h : MRef w m d b) (g : Fit b) (t x : Int) (ht : t ∉ b.O) : Calls Try.prog 14 #[.pointer (some ⟨m, 0, none⟩), .int .i64 t, .int .i64 x] w fun e w' => e = .returned (.int .i64 2) ∧ w = w' := by
  obtain ⟨A0, A1, A2, k0, k1, k2, hr, ⟨p0, l0, o0⟩, ⟨p1, l1, o1⟩, ⟨p2, l2, o2⟩⟩ := h.hd
  obtain ⟨n0, n2, n1, _, _⟩ := g.parts
  have hl := g.lens
  have H2 := Lib.hid (place_any A2 k2 _ b.O t n2 (by omega) p2)
  have e2 : idxI b.O t = -1 := by rcases idx_neg b.O t with h | h; exact h.2; exact absurd h.1 ht
  rw [e2] at H2
  have r2 := hr.cell (i := 2) (by omega)
  simp only [mcell, if_false, Nat.succ_ne_zero, Nat.reduceEqDiff] at r2
  clear h g hr p0 p1 p2 l0 l1 l2 o0 o1 o2 n0 n1 n2 hl e2 ht
  go_enter Try.func14, Try.ntmps14
  go_wp2_with (go_at_call 22; (with_reducible refine H2.out.mono ?_); rintro e w' ⟨rfl, rfl⟩)
  go_ret
  exact ⟨rfl, rfl⟩
set_option maxHeartbeats 1000000 in
theorem ranswer_yes (h : MRef w m d b) (g : Fit b) (t x : Int) (ht : t ∈ b.O) (hd : d < w.heap.size) : Calls Try.prog 14 #[.pointer (some ⟨m, 0, none⟩), .int .i64 t, .int .i64 x] w (QPost m d w (.int .i64 0) ⟨b.W, b.O.filter (fun k => !decide (k = t)), b.A ++ [(t, x)]⟩) := by
  have HM := Lib.hid h
  have HD := Lib.hid hd
  obtain ⟨A0, A1, A2, k0, k1, k2, hr, ⟨p0, l0, o0⟩, ⟨p1, l1, o1⟩, ⟨p2, l2, o2⟩⟩ := h.hd
  obtain ⟨n0, n2, n1, _, _⟩ := g.parts
  have hl := g.lens
  have H2 := Lib.hid (place_any A2 k2 _ b.O t n2 (by omega) p2)
  obtain ⟨i, hi, e2, e3⟩ : ∃ i : Nat, i < b.O.length ∧ idxI b.O t = (i : Int) ∧ b.O.getD i 0 = t := by
    rcases idx_neg b.O t with h | h
    · exact absurd ht h.1
    · exact h.2
  rw [e2] at H2
  have r2 := hr.cell (i := 2) (by omega)
  simp only [mcell, if_false, Nat.succ_ne_zero, Nat.reduceEqDiff] at r2
  have HW := Lib.hid (without_any A2 k2 _ i hi (by omega) l2 p2 (Nat.le_refl _))
  have HDEL := Lib.hid (del_at b.O i n2 hi)
  rw [e3] at HDEL
  have hll : b.O.length - 1 = (b.O.filter (fun k => !decide (k = t))).length := by
    rw [← HDEL.out, List.length_append, List.length_take, List.length_drop]
    omega
  have HLL := Lib.hid hll
  have HLT := Lib.hid h.lt
  have HL := Lib.hid hl
  have hiz : (i : Int) ≤ 64 := by omega
  clear h g hr p0 p1 p2 l0 l1 l2 o0 o1 o2 n0 n1 n2 hl e2 ht hll e3 hi hd
  go_enter Try.func14, Try.ntmps14
  go_upto_region 4 with (go_at_call 22; (with_reducible refine H2.out.mono ?_); rintro e w' ⟨rfl, rfl⟩)
  have f1 : Hid (∀ wx, Grow w wx → wx.cell? ⟨m, 2, none⟩ = some (.slice A2 b.O.length k2) ∧ wx.frozen? ⟨m, 2, none⟩ = false) := fun wx hg => by
    obtain ⟨_, _, _, _, _, _, hrow, _⟩ := (HM.out.grow hg).hd
    exact ⟨hg.cellN r2 id, hrow.frozen 2⟩
  go_upto_region 5 with (go_at_call 24; (with_reducible refine HW.out.mono ?_); rintro e w1 ⟨A3, k3, rfl, hs1, hc1, hm1, hx1, hg1⟩; have HS1 := Lib.hid (And.intro hs1 (And.intro hc1 (And.intro hm1 hx1))); have HG1 := Lib.hid hg1; obtain ⟨q1, q2⟩ := f1.out _ hg1; clear hs1 hc1 hm1 hx1 hg1)
  have HM1 : Hid (MRef (w1.setCell ⟨m, 2, none⟩ (.slice A3 (b.O.filter (fun k => !decide (k = t))).length k3)) m d ⟨b.W, b.O.filter (fun k => !decide (k = t)), b.A⟩) := by
    have hs := HS1.out
    rw [HLL.out, HDEL.out] at hs
    exact (HM.out.grow HG1.out).putO hs.1 ⟨hs.2.1, hs.2.2.1⟩ (off_new HLT.out HD.out hs.2.2.2)
  have HK1 : Hid (Kept (· = m) w (w1.setCell ⟨m, 2, none⟩ (.slice A3 (b.O.filter (fun k => !decide (k = t))).length k3))) := (Grow.kept HG1.out).trans (kept_set _ m 2 _)
  rw [← HLL.out] at HM1 HK1
  generalize w1.setCell ⟨m, 2, none⟩ (.slice A3 (b.O.length - 1) k3) = w2 at HM1 HK1 ⊢
  clear q1 q2 f1 HS1 HG1 HW H2 r2
  obtain ⟨B0, B1, B2, j0, j1, j2, hr, _, ⟨p1, l1, o1⟩, _⟩ := HM1.out.hd
  have r1 := hr.cell (i := 1) (by omega)
  simp only [mcell, if_true, if_false, Nat.one_ne_zero] at r1
  obtain ⟨v', w3, A5, k5, w4, q1, q2, q3, q4, q5, q6⟩ := append_two (c := j1) p1 (t, x) (by have := HL.out; show b.A.length ≤ _; omega)
  simp only at q1 q2 q3 q4
  have HQ1 := Lib.hid q1
  have HQ2 := Lib.hid q2
  have HG2 := Lib.hid q6
  have hlen : (b.A ++ [(t, x)]).length = b.A.length + 1 := by simp
  have HF : Hid (MRef (w4.setCell ⟨m, 1, none⟩ (.slice A5 (b.A ++ [(t, x)]).length k5)) m d ⟨b.W, b.O.filter (fun k => !decide (k = t)), b.A ++ [(t, x)]⟩) := (HM1.out.grow q6).putA (by rw [hlen]; exact q3) (by rw [hlen]; exact q4) (off_new HM1.out.lt (by have h1 := HD.out; have h2 := HK1.out.size; omega) q5)
  rw [hlen] at HF
  have hga : Grow w2 (w2.alloc (.cells #[] 42)) := (Kept.refl _ _).alloc _
  have ca := hga.cellN r1 id
  have r3 := q6.cellN r1 id
  have f3 := (hr.kept q6 id).frozen 1
  clear hr p1 l1 o1 q1 q2 q3 q4 q5 q6 hga hlen
  go_wp2_with (at_builtin; first | refine Lib.wpList_append_run _ rfl _ _ _ _ rfl _ _ rfl rfl _ _ (HQ1.out _) ?_ | refine Lib.wpList_append_run _ rfl _ _ _ _ rfl _ _ rfl rfl _ _ (HQ2.out _) ?_)
  go_ret
  exact ⟨rfl, HF.out, HK1.out.trans ((Grow.kept HG2.out).trans (kept_set _ m 1 _))⟩
theorem ranswer_any (h : MRef w m d b) (g : Fit b) (t x : Int) (hd : d < w.heap.size) : Calls Try.prog 14 #[.pointer (some ⟨m, 0, none⟩), .int .i64 t, .int .i64 x] w (QPost m d w (.int .i64 (b.ansE t)) (b.ansB t x)) := by
  unfold Bx.ansE Bx.ansB
  by_cases ht : b.st t = 2
  · rw [if_pos ht, if_pos ht]
    exact ranswer_yes h g t x ((st_two g).1 ht) hd
  · rw [if_neg ht, if_neg ht]
    refine (ranswer_no h g t x fun e => ht ((st_two g).2 e)).mono ?_
    rintro e w' ⟨rfl, rfl⟩
    exact ⟨rfl, h, Kept.refl _ _⟩
end
end Go.Proofs.Ytmealcbcphfpdaa.MRefP
