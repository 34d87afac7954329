/-
  The document's slots (chapter 9, lavaboref4): Hear.
-/
import Derived.Test.YtmealcbcphfpdaaMRefPost
import Derived.Test.YtmealcbcphfpdaaTrees
namespace Go.Proofs.Ytmealcbcphfpdaa.MRefH
open Go.ChangeShapes Go.WideShapes Go.ChangeAt Go.RowKit Go.Conc
open Go.Proofs.Ytmealcbcphfpdaa.Mem Go.Proofs.Ytmealcbcphfpdaa.Blk Go.Proofs.Ytmealcbcphfpdaa.Cells Go.Proofs.Ytmealcbcphfpdaa.Chan Go.Proofs.Ytmealcbcphfpdaa.Prs Go.Proofs.Ytmealcbcphfpdaa.App Go.Proofs.Ytmealcbcphfpdaa.MailM Go.Proofs.Ytmealcbcphfpdaa.MRefA Go.Proofs.Ytmealcbcphfpdaa.MRefC Go.Proofs.Ytmealcbcphfpdaa.Stages Go.Proofs.Ytmealcbcphfpdaa.Trees

section
variable {w w' : World} {m d c : Nat} {b : Bx} {G : Nat → Prop} {A : Option Addr} {ys : List P2} {os : List Int}

theorem rhear_no (h : MRef w m d b) (g : Fit b) (t : Int) (ht : t ∉ fsts b.A) : Calls Try.prog 16 #[.pointer (some ⟨m, 0, none⟩), .int .i64 t] w fun e w' => e = .returned (.tuple #[.int .i64 0, .bool false]) ∧ w = w' := by
  obtain ⟨A0, A1, A2, k0, k1, k2, hr, ⟨p0, l0, o0⟩, ⟨p1, l1, o1⟩, ⟨p2, l2, o2⟩⟩ := h.hd
  obtain ⟨n0, n2, n1, _, _⟩ := g.parts
  have hl := g.lens
  have H2 := Lib.hid (at_any A1 k1 _ b.A t n1 (by omega) p1)
  have e2 : idxI (fsts b.A) t = -1 := by rcases idx_neg (fsts b.A) t with h | h; exact h.2; exact absurd h.1 ht
  rw [e2] at H2
  have r2 := hr.cell (i := 1) (by omega)
  simp only [mcell, if_false, if_true, Nat.one_ne_zero] at r2
  clear h g hr p0 p1 p2 l0 l1 l2 o0 o1 o2 n0 n1 n2 hl e2 ht
  go_enter Try.func16, Try.ntmps16
  go_wp2_with (go_at_call 21; (with_reducible refine H2.out.mono ?_); rintro e w' ⟨rfl, rfl⟩)
  go_ret2
  exact ⟨rfl, rfl⟩
set_option maxHeartbeats 1000000 in
theorem rhear_yes (h : MRef w m d b) (g : Fit b) (t : Int) (ht : t ∈ fsts b.A) (hd : d < w.heap.size) : Calls Try.prog 16 #[.pointer (some ⟨m, 0, none⟩), .int .i64 t] w (QPost m d w (.tuple #[.int .i64 (lookA b.A t), .bool true]) ⟨b.W, b.O, without b.A t⟩) := by
  have HM := Lib.hid h
  have HD := Lib.hid hd
  obtain ⟨A0, A1, A2, k0, k1, k2, hr, ⟨p0, l0, o0⟩, ⟨p1, l1, o1⟩, ⟨p2, l2, o2⟩⟩ := h.hd
  obtain ⟨n0, n2, n1, _, _⟩ := g.parts
  have hl := g.lens
  have H2 := Lib.hid (at_any A1 k1 _ b.A t n1 (by omega) p1)
  obtain ⟨i, hi, e2, e3⟩ : ∃ i : Nat, i < b.A.length ∧ idxI (fsts b.A) t = (i : Int) ∧ (fsts b.A).getD i 0 = t := by
    rcases idx_neg (fsts b.A) t with h | h
    · exact absurd ht h.1
    · rw [fsts_len] at h; exact h.2
  rw [e2] at H2
  rw [fsts_get hi] at e3
  have r1 := hr.cell (i := 1) (by omega)
  simp only [mcell, if_false, if_true, Nat.one_ne_zero] at r1
  obtain ⟨hdel, hlook⟩ := without_at b.A i n1 hi
  rw [e3] at hdel hlook
  have HDEL := Lib.hid hdel
  have HLOOK := Lib.hid hlook
  have hll : b.A.length - 1 = (without b.A t).length := by
    rw [← HDEL.out, List.length_append, List.length_take, List.length_drop]
    omega
  have HLL := Lib.hid hll
  have HLT := Lib.hid h.lt
  obtain ⟨bb, off, rfl, hbb, hcc⟩ := p1.at_ (by omega)
  have q2 := (hcc i hi).2
  obtain ⟨h1, h2⟩ := l1
  unfold maxLen at h2
  have hcz : (b.A.length : Int) ≤ (k1 : Int) := by omega
  have hcm : (k1 : Int) ≤ 9223372036854775807 := by omega
  have hiz : (i : Int) < (b.A.length : Int) := by omega
  have hlz : (b.A.length : Int) ≤ 64 := by omega
  have HP := Lib.hid p1
  have HCUT : Hid (Pl w w.heap.size (if k1 = i + 1 then (some ⟨bb, off, none⟩ : Option Addr) else some ⟨bb, off + (i + 1) * 2, none⟩) (b.A.length - (i + 1)) (b.A.drop (i + 1))) := by
    have := Pl.cut p1 (m := i + 1) (cap := k1) (by omega) h1
    rwa [show Option.map (fun x : Addr => x.add ((i + 1) * 2)) (some (⟨bb, off, none⟩ : Addr)) = some ⟨bb, off + (i + 1) * 2, none⟩ by simp only [Option.map_some, add_off]] at this
  have hga : Grow w (w.alloc (.cells #[] 42)).drew := ((Kept.refl _ _).alloc _).drew
  have hown : (w.alloc (.cells #[] 42)).drew.ownsRow w.heap.size 42 2 (.slice (some ⟨w.heap.size, 0, none⟩) 0 0) 0 (flat []) := World.ownsRow_lit (base := w.heap.size) (e := 42) (size := 2) w #[] 0 (Nat.le_refl _) (by unfold maxLen; omega) rfl
  obtain ⟨v', w1, hr1, ho1, hb1⟩ := append_pl (m := i) (A := some ⟨bb, off, none⟩) (B := w.heap.size) (c := k1) (ys := []) 26 hown (Pl.grow (Pl.take p1 (m := i) (by omega)) hga) (by omega) (by simp)
  have HG1 : Hid (Grow w w1) := grow_own hown hga hb1 (Nat.le_refl _)
  have HB1 : Hid (Kept (w.heap.size ≤ ·) (w.alloc (.cells #[] 42)).drew w1) := kept_own hown hb1
  have HR := Lib.hid hr1
  have HO1 := Lib.hid ho1
  have rd : w.drew.cell? ⟨m, 1, none⟩ = some (.slice (some ⟨bb, off, none⟩) b.A.length k1) := r1
  have hml : ¬ (w.heap.size ≤ m) := by have := h.lt; omega
  clear h g hr p0 p1 p2 l0 l2 o0 o1 o2 n0 n1 n2 hl e2 ht hll e3 hd hr1 ho1 hb1 hown hga hcc hdel hlook
  generalize (b.A.getD i (0, 0)).2 = y at q2 HLOOK
  go_enter Try.func16, Try.ntmps16
  go_upto_region 5 with (go_at_call 21; (with_reducible refine H2.out.mono ?_); rintro e w' ⟨rfl, rfl⟩)
  refine wp_region_tree (Kept (w.heap.size ≤ ·)) (Kept fun k => w.heap.size ≤ k ∨ k = m) (kept_refl _) (kept_trans _) (kept_refl _) (kept_trans _) (fun _ _ h => h.mono fun _ _ x => .inl x) [19]
    (.one true [0, 2, 3, 4, 5, 6, 7, 9, 10, 11, 12, 13, 14, 15] 1 (.one true [] 8 (.one true [] 16 (.one false [17, 18] 19 (.last false []))))) (by kernel_rfl) (by kernel_rfl) ?_
  refine tr_oneE fun K hK => ?_
  simp only [sel, List.map_cons, List.map_nil, List.getD_cons_succ, List.getD_cons_zero]
  have u0 := up_cell (F := (w.heap.size ≤ ·)) (w := w.drew) (p := ⟨m, 1, none⟩) rd hml
  repeat (go_big_quiet_step (fail))
  refine wpQuiet_nil ?_
  clear u0
  generalize (if k1 = i + 1 then (some ⟨bb, off, none⟩ : Option Addr) else some ⟨bb, off + (i + 1) * 2, none⟩) = AC at HCUT ⊢
  go_wp2
  refine norm_up (hK _ _ (Lr_early (by decide) ((Kept.refl _ _).alloc _)) ?_)
  clear hK K
  refine tr_oneE fun K hK => ?_
  simp only [sel, List.map_cons, List.map_nil, List.getD_cons_succ, List.getD_cons_zero]
  refine wpQuiet_nil ?_
  go_wp2_with (at_builtin; refine Lib.wpList_append_run _ rfl _ _ _ _ rfl _ _ rfl rfl _ _ HR.out ?_)
  refine norm_up (hK _ _ (Lr_early (by decide) HB1.out) ?_)
  clear hK K
  obtain ⟨v2, w2, hr2, ho2, hb2⟩ := append_pl (m := b.A.length - (i + 1)) (A := AC) (B := w.heap.size) (c := k1 - (i + 1)) 26 HO1.out (Pl.grow HCUT.out HG1.out) (by omega) HG1.out.size
  have HG2 : Hid (Grow w w2) := grow_own HO1.out HG1.out hb2 (Nat.le_refl _)
  have HB2 : Hid (Kept (w.heap.size ≤ ·) w1 w2) := kept_own HO1.out hb2
  obtain ⟨A3, c3, rfl, hs3, hc3, hm3, hx3⟩ := own_pl ho2
  have hlen : 0 + i + (b.A.length - (i + 1)) = b.A.length - 1 := by omega
  have hz : [] ++ b.A.take i ++ b.A.drop (i + 1) = without b.A t := by rw [List.nil_append]; exact HDEL.out
  rw [hlen] at hr2 hs3 hc3
  rw [hz] at hs3
  have HR2 := Lib.hid hr2
  have HS3 := Lib.hid (And.intro hs3 (And.intro hc3 (And.intro hm3 hx3)))
  clear hr2 hs3 hc3 hm3 hx3 ho2 hb2 hlen hz
  refine tr_oneE fun K hK => ?_
  simp only [sel, List.map_cons, List.map_nil, List.getD_cons_succ, List.getD_cons_zero]
  refine wpQuiet_nil ?_
  go_wp2_with (at_builtin; refine Lib.wpList_append_run _ rfl _ _ _ _ rfl _ _ rfl rfl _ _ HR2.out ?_)
  refine norm_up (hK _ _ (Lr_early (by decide) HB2.out) ?_)
  clear hK K
  have HM2 := Lib.hid (HM.out.grow HG2.out)
  obtain ⟨_, _, _, _, _, _, hrow, _⟩ := HM2.out.hd
  have f2 := hrow.frozen 1
  have r2 := HG2.out.cellN r1 id
  clear hrow
  refine tr_oneL fun K hK => ?_
  simp only [sel, List.map_cons, List.map_nil, List.getD_cons_succ, List.getD_cons_zero]
  repeat (go_big_quiet_step (fail))
  refine wpQuiet_nil ?_
  go_wp2
  refine norm_up (hK _ _ (Lr_late (by decide) ((kept_set _ m 1 _).mono fun _ _ e => .inr e)) ?_)
  clear hK K r2 f2
  have HF : Hid (MRef (w2.setCell ⟨m, 1, none⟩ (.slice A3 (b.A.length - 1) c3)) m d ⟨b.W, b.O, without b.A t⟩) := by
    have hs := HS3.out
    rw [HLL.out] at hs ⊢
    exact HM2.out.putA hs.1 ⟨hs.2.1, hs.2.2.1⟩ (off_new HLT.out HD.out hs.2.2.2)
  have HK : Hid (Kept (· = m) w (w2.setCell ⟨m, 1, none⟩ (.slice A3 (b.A.length - 1) c3))) := (Grow.kept HG2.out).trans (kept_set _ m 1 _)
  generalize w2.setCell ⟨m, 1, none⟩ (.slice A3 (b.A.length - 1) c3) = w3 at HF HK ⊢
  refine tr_lastL fun K hK => ?_
  simp only [sel, List.map_cons, List.map_nil, List.getD_cons_succ, List.getD_cons_zero]
  refine wpQuiet_nil (hK _ ?_)
  clear hK K
  go_wp2
  go_ret2
  rw [HLOOK.out]
  exact ⟨rfl, HF.out, HK.out⟩
theorem rhear_any (h : MRef w m d b) (g : Fit b) (t : Int) (hd : d < w.heap.size) : Calls Try.prog 16 #[.pointer (some ⟨m, 0, none⟩), .int .i64 t] w (QPost m d w (.tuple #[.int .i64 (b.hearV t), .bool (decide (b.st t = 3))]) (b.hearB t)) := by
  unfold Bx.hearV Bx.hearB
  by_cases ht : b.st t = 3
  · rw [if_pos ht, if_pos ht, decide_eq_true ht]
    exact rhear_yes h g t ((st_three g).1 ht) hd
  · rw [if_neg ht, if_neg ht, decide_eq_false ht]
    refine (rhear_no h g t fun e => ht ((st_three g).2 e)).mono ?_
    rintro e w' ⟨rfl, rfl⟩
    exact ⟨rfl, h, Kept.refl _ _⟩
end
end Go.Proofs.Ytmealcbcphfpdaa.MRefH
