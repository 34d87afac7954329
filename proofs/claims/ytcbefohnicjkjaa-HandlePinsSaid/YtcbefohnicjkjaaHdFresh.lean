/-
  Package handle (chapter 12): New.
-/
import Derived.Test.YtcbefohnicjkjaaHdAll
namespace Go.Proofs.Ytcbefohnicjkjaa.HdF
open Go.ChangeShapes Go.WideShapes Go.ChangeAt Go.RowKit
open Go.Proofs.Ytcbefohnicjkjaa.Mem Go.Proofs.Ytcbefohnicjkjaa.Blk Go.Proofs.Ytcbefohnicjkjaa.Cells Go.Proofs.Ytcbefohnicjkjaa.Orow Go.Proofs.Ytcbefohnicjkjaa.HdM Go.Proofs.Ytcbefohnicjkjaa.HdC Go.Proofs.Ytcbefohnicjkjaa.HdO Go.Proofs.Ytcbefohnicjkjaa.HdN Go.Proofs.Ytcbefohnicjkjaa.HdA Go.Proofs.Ytcbefohnicjkjaa.Stages Go.Proofs.Ytcbefohnicjkjaa.Trees

section
variable {w w' w2 w3 : World} {G F X : Nat → Prop} {v : Value} {n d b cb c r g cap vb j : Nat} {q cp : Nat → Nat} {H : Nat → Nat → Int} {a : Hs}
/-- Handles of j clients, their parts told. -/
structure Nu (w : World) (G : Nat → Prop) (d j : Nat) (v : Value) (q cp : Nat → Nat) : Prop where
  hd : Row w d 1 (fun _ => v)
  gr : Gr w G v j q cp (fun _ _ => -1)
  inG : G d
  off : v.ownBlock ≠ some d
  ne : ∀ i, i < j → q i ≠ d
theorem Nu.at_ (h : Nu w G d j v q cp) (hj : j ≤ 6) : HAt w G d (fresh j) := ⟨good_fresh hj, v, q, cp, h.hd, h.gr, h.inG, h.off, h.ne⟩
theorem Nu.kept (h : Nu w G d j v q cp) (hk : Kept F w w') (hF : ∀ k, G k → ¬ F k) : Nu w' G d j v q cp := ⟨h.hd.kept hk (hF _ h.inG), h.gr.kept hk hF, h.inG, h.off, h.ne⟩
theorem Nu.grow (h : Nu w G d j v q cp) (hk : Grow w w') : Nu w' G d j v q cp := h.kept hk fun _ _ x => x
/-- The struct's one slice has another row. -/
theorem Nu.push (h : Nu w G d j v q cp) (hr : OR w r 3 1 c 6 (hcell fun _ => -1)) (hG : G r) (hnr : ∀ i, i < j → q i ≠ r) (hvr : v.ownBlock ≠ some r) (hdr : d ≠ r)
    (ho : OR w' g 28 1 cap (j + 1) (joined (scell q cp) (rcell r c) (j * 1))) (hk : Kept (fun k => v.ownBlock = some k) w w') (hg : v.ownBlock = some g ∨ g = w.heap.size) (hnew : ∀ k, w.heap.size ≤ k → G k) :
    Nu (w'.setCell ⟨d, 0, none⟩ (.slice (some ⟨g, 0, none⟩) (j + 1) cap)) G d (j + 1) (.slice (some ⟨g, 0, none⟩) (j + 1) cap) (up q j r) (up cp j c) := by
  have hgr := Gr.push h.gr (r := r) (c := c) hr hG hnr hvr ho hk hg hnew
  have hgd : g ≠ d := by
    rcases hg with e | e
    · rintro rfl; exact h.off e
    · have := h.hd.lt; omega
  refine ⟨((h.hd.kept hk h.off).set 0 _).congr fun i hi => by rw [if_pos (by omega)], ?_, h.inG, fun e => ?_, fun i hi => ?_⟩
  · have hne : ∀ i, i < j + 1 → up q j r i ≠ d := fun i hi => by
      by_cases e : i < j
      · rw [up_other e]; exact h.ne i e
      · have : i = j := by omega
        subst this
        rw [up_same]; exact hdr.symm
    refine ⟨?_, fun i hi => (hgr.row i hi).other (p := ⟨d, 0, none⟩) (hne i hi) _, hgr.inG, hgr.off, hgr.ne⟩
    rcases hgr.out with ⟨e, _⟩ | ⟨g', cap', e, ho', hg'⟩
    · cases e
    · injection e with e1 e2 e3
      injection e1 with e1
      injection e1 with e1
      subst e1 e3
      exact .inr ⟨g, cap, rfl, ho'.other (p := ⟨d, 0, none⟩) hgd _, hg'⟩
  · have e : some g = some d := e
    injection e with e
    exact hgd e
  · by_cases e : i < j
    · rw [up_other e]; exact h.ne i e
    · have : i = j := by omega
      subst this
      rw [up_same]; exact hdr.symm

/-- What New makes. -/
def NewPost (n : Nat) (w : World) (e : Ending) (w' : World) : Prop := e = .returned (.pointer (some ⟨w.heap.size, 0, none⟩)) ∧ HAt w' (w.heap.size ≤ ·) w.heap.size (fresh n) ∧ Grow w w'
theorem new_bad (k : Int) (hk : ¬ (1 ≤ k ∧ k ≤ 6)) : Calls Try.prog 7 #[.int .i64 k] w fun e w' => e = .returned (.pointer none) ∧ w = w' := by
  by_cases h0 : k < 1
  · clear hk
    go_enter Try.func7, Try.ntmps7
    go_wp2
    go_ret
    exact ⟨rfl, rfl⟩
  · have h1 : 6 < k := by omega
    have h2 : 1 ≤ k := by omega
    clear hk h0
    go_enter Try.func7, Try.ntmps7
    go_wp2
    go_ret
    exact ⟨rfl, rfl⟩
/-- What one round does. -/
def Nx (w : World) (B j : Nat) (wx : World) : Prop := ∃ v q cp, Nu wx (B ≤ ·) B j v q cp ∧ Grow w wx
set_option maxHeartbeats 2000000 in
theorem new_good (n : Nat) (hn1 : 1 ≤ n) (hn : n ≤ 6) : Calls Try.prog 7 #[.int .i64 (n : Int)] w (NewPost n w) := by
  have hnz : (n : Int) ≤ 6 := by omega
  have hnz1 : 1 ≤ (n : Int) := by omega
  have HN := Lib.hid hn
  clear hn hn1
  go_enter Try.func7, Try.ntmps7
  go_wp2
  have hb0 : Blk (w.alloc (.cells #[.slice none 0 0] 44)) w.heap.size 44 [.slice none 0 0] := Blk.new w 44 [.slice none 0 0]
  have HG0 : Hid (Grow w (w.alloc (.cells #[.slice none 0 0] 44))) := (Kept.refl _ _).alloc _
  have HA0 : Hid (Nu (w.alloc (.cells #[.slice none 0 0] 44)) (w.heap.size ≤ ·) w.heap.size 0 (.slice none 0 0) id id) :=
    ⟨Row.of_blk hb0 rfl fun i hi => (by have : i = 0 := by omega
                                        subst this; rfl), gr_nil _ _ _ _ _, Nat.le_refl _, fun e => (by cases e), fun i hi => absurd hi (Nat.not_lt_zero i)⟩
  clear hb0
  generalize w.alloc (.cells #[.slice none 0 0] 44) = w1 at HA0 HG0 ⊢
  obtain ⟨B, hB⟩ : ∃ B, B = w.heap.size := ⟨_, rfl⟩
  have HB := Lib.hid hB
  unfold NewPost
  rw [← hB] at HA0 ⊢
  clear hB
  go_loopg [13] n (fun gx i wr => ∃ j : Nat, j + gx = n ∧ i = .int .i64 (j : Int) ∧ Nx w B j wr)
  case atStart => exact ⟨0, by omega, rfl, _, _, _, HA0.out, HG0.out⟩
  case round =>
    obtain ⟨j, hg, rfl, v, q, cp, hnu, hgr⟩ := hrel
    have HG := Lib.hid hg
    have HNU := Lib.hid hnu
    have HGR := Lib.hid hgr
    clear hg hnu hgr
    by_cases hj : j < n
    · have hjz : (j : Int) < (n : Int) := by omega
      have HJ := Lib.hid hj
      have c0 := HNU.out.hd.cell (i := 0) (by omega)
      have q0 := up_cell (F := fun k => v.ownBlock = some k) (w := wr.drew) (p := ⟨B, 0, none⟩) c0 HNU.out.off
      clear c0 hj
      go_upto_region 6 with (fail)
      refine wp_region_tree (Kept fun k => v.ownBlock = some k) (Kept fun k => v.ownBlock = some k ∨ k = B) (kept_refl _) (kept_trans _) (kept_refl _) (kept_trans _) (fun _ _ h => h.mono fun _ _ x => .inl x) [11]
        (.one true [0, 1, 2, 3, 4] 5 (.one true [] 6 (.one true [] 7 (.one true [] 8 (.one false [9, 10] 11 (.last false [])))))) (by kernel_rfl) (by kernel_rfl) ?_
      refine tr_oneE fun K hK => ?_
      simp only [sel, List.map_cons, List.map_nil, List.getD_cons_succ, List.getD_cons_zero]
      repeat (go_big_quiet_step (fail))
      refine wpQuiet_nil ?_
      clear q0
      go_wp2
      refine norm_up (hK _ _ (Lr_early (by decide) (show Kept _ wr.drew (wr.alloc (.cells #[.int .i64 (-1)] 3)).drew from (Kept.refl _ wr.drew).alloc (.cells #[.int .i64 (-1)] 3))) ?_)
      clear hK K
      have HX : Hid (NBlk (wr.alloc (.cells #[.int .i64 (-1)] 3)).drew wr.heap.size 3 .i64 [-1]) := Blk.drew (NBlk.new wr 3 .i64 [-1])
      have HG1 : Hid (Grow wr (wr.alloc (.cells #[.int .i64 (-1)] 3)).drew) := ((Kept.refl _ wr).alloc _).drew
      generalize (wr.alloc (.cells #[.int .i64 (-1)] 3)).drew = x1 at HX HG1 ⊢
      have CR := Lib.hid (repeat_any (w := x1) (b := wr.heap.size) (Sl.of_blk0 (B := x1.heap.size) HX.out rfl HX.out.lt) (Nat.le_refl _))
      refine tr_oneE fun K hK => ?_
      simp only [sel, List.map_cons, List.map_nil, List.getD_cons_succ, List.getD_cons_zero]
      refine wpQuiet_nil ?_
      go_wp2_with (go_at_call 22; (with_reducible refine CR.out.mono ?_); rintro e x2 ⟨r, rfl, hlt, hrow, hgr⟩; have HLT := Lib.hid hlt; have HRO := Lib.hid hrow; have HG2 := Lib.hid hgr; clear hlt hrow hgr)
      refine norm_up (hK _ _ (Lr_early (by decide) HG2.out.kept) ?_)
      clear hK K CR
      refine tr_oneE fun K hK => ?_
      simp only [sel, List.map_cons, List.map_nil, List.getD_cons_succ, List.getD_cons_zero]
      refine wpQuiet_nil ?_
      go_wp2
      refine norm_up (hK _ _ (Lr_early (by decide) ((Kept.refl _ _).alloc _)) ?_)
      clear hK K
      have HX3 : Hid ((x2.alloc (.cells #[.slice (some ⟨r, 0, none⟩) 6 6] 28)).cell? ⟨x2.heap.size, 0, none⟩ = some (.slice (some ⟨r, 0, none⟩) 6 6)) := cell_new1 _ _ _
      have HG3 : Hid (Grow x2 (x2.alloc (.cells #[.slice (some ⟨r, 0, none⟩) 6 6] 28))) := (Kept.refl _ x2).alloc _
      generalize x2.alloc (.cells #[.slice (some ⟨r, 0, none⟩) 6 6] 28) = x3 at HX3 HG3 ⊢
      have HN3 := Lib.hid (((HNU.out.grow HG1.out).grow HG2.out).grow HG3.out)
      have HR3 := Lib.hid (HRO.out.kept HG3.out id)
      obtain ⟨g4, cap4, x4, hr4, ho4, hk4, hb4⟩ := Gr.app HN3.out.gr (by have := HJ.out; have := HN.out; omega) HX3.out
      have HR4 := Lib.hid hr4
      have HO4 := Lib.hid ho4
      have HK4 := Lib.hid hk4
      have HB4 := Lib.hid hb4
      clear hr4 ho4 hk4 hb4
      refine tr_oneE fun K hK => ?_
      simp only [sel, List.map_cons, List.map_nil, List.getD_cons_succ, List.getD_cons_zero]
      refine wpQuiet_nil ?_
      go_wp2_with (at_builtin; refine Lib.wpList_append_run _ rfl _ _ _ _ rfl _ _ rfl rfl _ _ (HR4.out _) ?_)
      refine norm_up (hK _ _ (Lr_early (by decide) HK4.out) ?_)
      clear hK K
      have HN5 : Hid (Nu (x4.setCell ⟨B, 0, none⟩ (.slice (some ⟨g4, 0, none⟩) (j + 1) cap4)) (B ≤ ·) B (j + 1) (.slice (some ⟨g4, 0, none⟩) (j + 1) cap4) (up q j r) (up cp j 6)) := by
        have z1 := HG1.out.size
        have z2 := HG2.out.size
        have z3 := HG3.out.size
        have z0 := HGR.out.size
        have zb := HB.out
        have zl := HLT.out
        have zd := HNU.out.hd.lt
        refine HN3.out.push HR3.out ?_ ?_ ?_ ?_ HO4.out HK4.out HB4.out ?_
        · show B ≤ r; omega
        · intro i hi e; have := (HNU.out.gr.row i hi).lt; omega
        · intro e; have := (os_in HNU.out.gr.out e).2; omega
        · omega
        · intro k hk; show B ≤ k; omega
      have HK5 : Hid (Grow w (x4.setCell ⟨B, 0, none⟩ (.slice (some ⟨g4, 0, none⟩) (j + 1) cap4))) := by
        have zb := HB.out
        refine ((((HGR.out.trans HG1.out).trans HG2.out).trans HG3.out).then HK4.out fun k hk e => ?_).setCell (fun h => ?_) _
        · have := (os_in HNU.out.gr.out e).1; omega
        · have h : B < w.heap.size := h
          omega
      have cd := HN3.out.hd.kept HK4.out HN3.out.off
      have c0 := cd.cell (i := 0) (by omega)
      have f0 := cd.frozen 0
      clear cd
      refine tr_oneL fun K hK => ?_
      simp only [sel, List.map_cons, List.map_nil, List.getD_cons_succ, List.getD_cons_zero]
      repeat (go_big_quiet_step (fail))
      refine wpQuiet_nil ?_
      go_wp2
      refine norm_up (hK _ _ (Lr_late (by decide) ((kept_set _ _ _ _).mono fun k _ e => .inr e)) ?_)
      clear hK K c0 f0
      refine tr_lastL fun K hK => ?_
      simp only [sel, List.map_nil]
      refine wpQuiet_nil (hK _ ?_)
      clear hK K
      go_wp2
      go_roundg (gk - 1)
      case measure => have := HG.out; omega
      case rel => exact ⟨j + 1, by have := HG.out; have := HJ.out; omega, by go_num, _, _, _, HN5.out, HK5.out⟩
    · obtain rfl : j = n := by have := HG.out; omega
      go_wp2
      go_ret
      unfold NewPost
      rw [← HB.out]
      exact ⟨rfl, HNU.out.at_ HN.out, HGR.out⟩
end
end Go.Proofs.Ytcbefohnicjkjaa.HdF
