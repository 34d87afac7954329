/-
  Texts behind the statements of this seat: part 11.
-/
import Derived.Test.YtbnkpnllgoghnaaGreatQh
import Derived.Test.YtbnkpnllgoghnaaGreatQc
import Derived.Test.YtbnkpnllgoghnaaGreatQi
import Derived.Test.YtbnkpnllgoghnaaGreatQj
import Derived.Test.YtbnkpnllgoghnaaGreatQf
import Derived.Test.YtbnkpnllgoghnaaGreatQe
import Derived.Test.YtbnkpnllgoghnaaGreatRows
import Derived.Test.YtbnkpnllgoghnaaGreatQb
import Derived.Test.YtbnkpnllgoghnaaGreatQa
import Derived.Deep.Slices
import Derived.Deep.Fields
import Derived.ChangeSame
import Derived.ProofKit
set_option linter.unusedVariables false

namespace Go.Proofs.YtbnkpnllgoghnaaGreat.RgL
open Go.ChangeShapes Go.WideShapes Go.ChangeAt Go.RowKit
open Go.Proofs.YtbnkpnllgoghnaaGreat.Mem Go.Proofs.YtbnkpnllgoghnaaGreat.Blk Go.Proofs.YtbnkpnllgoghnaaGreat.Cells Go.Proofs.YtbnkpnllgoghnaaGreat.Orow Go.Proofs.YtbnkpnllgoghnaaGreat.RfP Go.Proofs.YtbnkpnllgoghnaaGreat.RgP Go.Proofs.YtbnkpnllgoghnaaGreat.RgS Go.Proofs.YtbnkpnllgoghnaaGreat.RgA Go.Proofs.YtbnkpnllgoghnaaGreat.RgB Go.Proofs.YtbnkpnllgoghnaaGreat.RgC Go.Proofs.YtbnkpnllgoghnaaGreat.RgO Go.Proofs.YtbnkpnllgoghnaaGreat.RgD Go.Proofs.YtbnkpnllgoghnaaGreat.RgE Go.Proofs.YtbnkpnllgoghnaaGreat.RgF Go.Proofs.YtbnkpnllgoghnaaGreat.Trees Go.Proofs.YtbnkpnllgoghnaaGreat.Stages
open Go.Proofs.YtbnkpnllgoghnaaGreat.ArM (Ar Fr fUsed fFree)
open Go.Proofs.YtbnkpnllgoghnaaGreat.ArC (ArAt FR)
open Go.Proofs.YtbnkpnllgoghnaaGreat.Dev (Dv DevAt)
open Go.Proofs.YtbnkpnllgoghnaaGreat.ListM (outL frontL okO okF)
open Go.Proofs.YtbnkpnllgoghnaaGreat.HdM (Hs)
open Go.Proofs.YtbnkpnllgoghnaaGreat.RgH (hs)
open Go.Proofs.YtbnkpnllgoghnaaGreat.MdM (Md MdOp Re)
open Go.Proofs.YtbnkpnllgoghnaaGreat.RfM (Pl)
open Go.Proofs.YtbnkpnllgoghnaaGreat.RfI (InvE Inv)
open Go.Proofs.YtbnkpnllgoghnaaGreat.RgM (Bnd saveC saveS)
section
variable {w w' : World} {col : Nat → Nat} {d D W a b B h t : Nat} {n N k : Nat}
theorem among_any (x m : Int) (w : World) : Calls Tryz.prog 34 #[.int .i64 x, .int .i64 m] w fun e w' => e = .returned (.bool (decide (1 ≤ x) && decide (x ≤ m))) ∧ w = w' := by
  by_cases h1 : 1 ≤ x
  · by_cases h2 : x ≤ m
    · have HE : Hid ((decide (1 ≤ x) && decide (x ≤ m)) = true) := by unfold Hid; simp [h1, h2]
      go_enter Tryz.func34, Tryz.ntmps34
      go_wp2
      go_ret
      exact ⟨by first | (rw [HE.out]; rfl) | simp [show x ≤ m by omega], rfl⟩
    · have HE : Hid ((decide (1 ≤ x) && decide (x ≤ m)) = false) := by unfold Hid; simp [h2]
      go_enter Tryz.func34, Tryz.ntmps34
      go_wp2
      go_ret
      exact ⟨by first | (rw [HE.out]; rfl) | simp [show ¬ x ≤ m by omega], rfl⟩
  · have HE : Hid ((decide (1 ≤ x) && decide (x ≤ m)) = false) := by unfold Hid; simp [h1]
    go_enter Tryz.func34, Tryz.ntmps34
    go_wp2
    go_ret
    exact ⟨by first | (rw [HE.out]; rfl) | simp [show ¬ 1 ≤ x by omega], rfl⟩
theorem among_yes {x m : Int} (h1 : 1 ≤ x) (h2 : x ≤ m) (w : World) : Calls Tryz.prog 34 #[.int .i64 x, .int .i64 m] w fun e w' => e = .returned (.bool true) ∧ w = w' :=
  (among_any x m w).mono fun e w' ⟨he, hw⟩ => ⟨by rw [he]; simp [h1, h2], hw⟩
theorem among_no {x m : Int} (h : ¬ (1 ≤ x ∧ x ≤ m)) (w : World) : Calls Tryz.prog 34 #[.int .i64 x, .int .i64 m] w fun e w' => e = .returned (.bool false) ∧ w = w' :=
  (among_any x m w).mono fun e w' ⟨he, hw⟩ => ⟨by
    rw [he]
    have : (decide (1 ≤ x) && decide (x ≤ m)) = false := by
      cases e : (decide (1 ≤ x) && decide (x ≤ m)) with
      | false => rfl
      | true => simp only [Bool.and_eq_true, decide_eq_true_eq] at e; exact absurd e h
    rw [this], hw⟩
/-- No pool is made of numbers that may not be. -/
theorem new_bad (n N k : Int) (h : ¬ ((1 ≤ n ∧ n ≤ 48) ∧ (1 ≤ N ∧ N ≤ 6) ∧ 1 ≤ k ∧ k ≤ 32)) (w : World) : Calls Tryz.prog 12 #[.int .i64 n, .int .i64 N, .int .i64 k] w fun e w' => e = .returned (.pointer none) ∧ w = w' := by
  by_cases h1 : 1 ≤ n ∧ n ≤ 48
  · have A1 := fun w => Lib.hid (among_yes h1.1 h1.2 w)
    by_cases h2 : 1 ≤ N ∧ N ≤ 6
    · have A2 := fun w => Lib.hid (among_yes h2.1 h2.2 w)
      have A3 := fun w => Lib.hid (among_no (x := k) (m := 32) (fun e => h ⟨h1, h2, e⟩) w)
      clear h h1 h2
      go_enter Tryz.func12, Tryz.ntmps12
      go_wp2_with (first
        | (go_at_call 34; (with_reducible refine (A1 _).out.mono ?_); rintro e w1 ⟨rfl, rfl⟩)
        | (go_at_call 34; (with_reducible refine (A2 _).out.mono ?_); rintro e w1 ⟨rfl, rfl⟩)
        | (go_at_call 34; (with_reducible refine (A3 _).out.mono ?_); rintro e w1 ⟨rfl, rfl⟩))
      go_ret
      exact ⟨rfl, rfl⟩
    · have A2 := fun w => Lib.hid (among_no h2 w)
      clear h h1 h2
      go_enter Tryz.func12, Tryz.ntmps12
      go_wp2_with (first
        | (go_at_call 34; (with_reducible refine (A1 _).out.mono ?_); rintro e w1 ⟨rfl, rfl⟩)
        | (go_at_call 34; (with_reducible refine (A2 _).out.mono ?_); rintro e w1 ⟨rfl, rfl⟩))
      go_ret
      exact ⟨rfl, rfl⟩
  · have A1 := fun w => Lib.hid (among_no h1 w)
    clear h h1
    go_enter Tryz.func12, Tryz.ntmps12
    go_wp2_with (go_at_call 34; (with_reducible refine (A1 _).out.mono ?_); rintro e w1 ⟨rfl, rfl⟩)
    go_ret
    exact ⟨rfl, rfl⟩
/-! ### A pool in the making -/
/-- Who is there, in a block of its colour. -/
structure PT (w : World) (col : Nat → Nat) (t n : Nat) : Prop where
  at_ : Row w t n (tcell fun _ => false)
  ct : col t = 11
theorem PT.keep (x : PT w col t n) (hk : Grow w w') (c : Nat) : PT w' (paint w.heap.size c col) t n := ⟨x.at_.kept hk id, (paint_old x.at_.lt).trans x.ct⟩
theorem pd_new {S : Dv} (h : DevAt w' d D W (DevN.newG w d D W) S) (hd : w.heap.size ≤ d ∧ w.heap.size ≤ D ∧ w.heap.size ≤ W) : PD w' (paint w.heap.size 7 col) d D W S := by
  have hl : ∀ k, Dev.Own d D W k → k < w'.heap.size := fun k y => by
    obtain ⟨dv, h1, _⟩ := h.dur
    obtain ⟨wv, h3, _⟩ := h.wr
    rcases y with rfl | rfl | rfl
    · exact h.disk.lt
    · exact h1.lt
    · exact h3.lt
  refine ⟨h.turn (fun k _ y => y.elim (fun y => ?_) .inr) fun k y => .inr y, fun k y => ⟨hl k y, paint_new ?_⟩⟩
  · by_cases e : k < w.heap.size
    · exact .inl e
    · exact absurd (paint_new (by omega)) y.2
  · rcases y with rfl | rfl | rfl
    · exact hd.1
    · exact hd.2.1
    · exact hd.2.2
theorem pa_new {A : Ar} (h : ArAt w' (w.heap.size ≤ ·) a A) : PA w' (paint w.heap.size 8 col) a A := h.mono fun _ h1 h2 => ⟨h1, paint_new h2⟩
theorem ph_new {H : Hs} (x : HdC.HAt w' (w.heap.size ≤ ·) h H) : PH w' (paint w.heap.size 10 col) h H := x.mono fun _ h1 h2 => ⟨h1, paint_new h2⟩
theorem pl_new {L : List Nat} (x : Rowed.ListAt w' b B n L) (h1 : w.heap.size ≤ b) (h2 : w.heap.size ≤ B) (l1 : b < w'.heap.size) (l2 : B < w'.heap.size) : PL w' (paint w.heap.size 9 col) b B n L :=
  ⟨x, fun k y => by
    rcases y with rfl | rfl
    · exact ⟨l1, paint_new h1⟩
    · exact ⟨l2, paint_new h2⟩⟩
theorem pt_new (w : World) (n : Nat) (hn : n ≤ 48) : PT (w.alloc (.cells (madeCells #[.bool false] n) 4)) (paint w.heap.size 11 col) w.heap.size n := by
  have := (PmN.or_bools w n hn).row
  rw [Nat.mul_one] at this
  exact ⟨this, paint_new (Nat.le_refl _)⟩
theorem PD.k0 {S : Dv} (x : PD w col d D W S) (hk : Grow w w') (c : Nat) : PD w' (paint w.heap.size c col) d D W S := x.keep hk (fun _ _ f => f.elim) c
theorem PA.k0 {A : Ar} (x : PA w col a A) (hk : Grow w w') (c : Nat) : PA w' (paint w.heap.size c col) a A := PA.keep x hk (fun _ _ f => f.elim) c
theorem PL.k0 {L : List Nat} (x : PL w col b B n L) (hk : Grow w w') (c : Nat) : PL w' (paint w.heap.size c col) b B n L := x.keep hk (fun _ _ f => f.elim) c
theorem PH.k0 {H : Hs} (x : PH w col h H) (hk : Grow w w') (c : Nat) : PH w' (paint w.heap.size c col) h H := PH.keep x hk (fun _ _ f => f.elim) c
/-- What New tells of numbers that may be. -/
def NewPost (n N k : Nat) (w : World) (e : Ending) (w' : World) : Prop :=
  ∃ ν col', e = .returned (.pointer (some ⟨ν.r, 0, none⟩)) ∧ MP w' col' ν (RfM.fresh n N k) ∧ Fit ν (RfM.fresh n N k) ∧ Grow w w' ∧ ∀ i, i < w.heap.size → col' i = 0
/-- Old blocks are none of the new pool's. -/
def Zero (s : Nat) (col : Nat → Nat) : Prop := ∀ i, i < s → col i = 0
theorem Zero.paint {s u : Nat} (h : Zero s col) (hu : s ≤ u) (c : Nat) : Zero s (paint u c col) := fun i hi => by rw [paint_old (by omega)]; exact h i hi
theorem new_end {s : Nat} (xd : PD w' col d D W (Dev.newS n)) (xa : PA w' col a (ArM.fresh k)) (xl : PL w' col b B k []) (xh : PH w' col h (HdM.fresh N)) (xt : PT w' col t n) (hg : Grow w w') (hz : Zero w.heap.size col) :
    NewPost n N k w (.returned (.pointer (some ⟨w'.heap.size, 0, none⟩))) (w'.alloc (.cells #[.pointer (some ⟨d, 0, none⟩), .pointer (some ⟨a, 0, none⟩), .pointer (some ⟨h, 0, none⟩), .pointer (some ⟨b, 0, none⟩), .slice (some ⟨t, 0, none⟩) n n, .int .i64 (N : Int)] 86)) := by
  have hk : Grow w' (w'.alloc (.cells #[.pointer (some ⟨d, 0, none⟩), .pointer (some ⟨a, 0, none⟩), .pointer (some ⟨h, 0, none⟩), .pointer (some ⟨b, 0, none⟩), .slice (some ⟨t, 0, none⟩) n n, .int .i64 (N : Int)] 86)) := (Kept.refl _ _).alloc _
  have hb := Blk.new w' 86 [.pointer (some ⟨d, 0, none⟩), .pointer (some ⟨a, 0, none⟩), .pointer (some ⟨h, 0, none⟩), .pointer (some ⟨b, 0, none⟩), .slice (some ⟨t, 0, none⟩) n n, .int .i64 (N : Int)]
  have ht := xt.keep hk 6
  refine ⟨⟨w'.heap.size, d, D, W, a, b, B, h, t, n, N, k⟩, paint w'.heap.size 6 col, rfl, ⟨Row.of_blk hb rfl fun i hi => ?_, ht.at_, ⟨PD.k0 xd hk 6, PA.k0 xa hk 6, PL.k0 xl hk 6, PH.k0 xh hk 6⟩, paint_new (Nat.le_refl _), ht.ct⟩, ⟨rfl, rfl, rfl⟩, hg.trans hk, hz.paint hg.size 6⟩
  have : i = 0 ∨ i = 1 ∨ i = 2 ∨ i = 3 ∨ i = 4 ∨ i = 5 := by omega
  rcases this with rfl | rfl | rfl | rfl | rfl | rfl <;> rfl
theorem list_lt {L : List Nat} (x : Rowed.ListAt w b B n L) : b < w.heap.size ∧ B < w.heap.size := x.lt
set_option maxRecDepth 100000 in
set_option maxHeartbeats 4000000 in
theorem new_good (n N k : Nat) (h1 : 1 ≤ n) (h2 : n ≤ 48) (h3 : 1 ≤ N) (h4 : N ≤ 6) (h5 : 1 ≤ k) (h6 : k ≤ 32) (w : World) : Calls Tryz.prog 12 #[.int .i64 (n : Int), .int .i64 (N : Int), .int .i64 (k : Int)] w (NewPost n N k w) := by
  have A1 := fun w => Lib.hid (among_yes (x := (n : Int)) (m := 48) (by omega) (by omega) w)
  have A2 := fun w => Lib.hid (among_yes (x := (N : Int)) (m := 6) (by omega) (by omega) w)
  have A3 := fun w => Lib.hid (among_yes (x := (k : Int)) (m := 32) (by omega) (by omega) w)
  have hmk := PmN.made_bools n h2
  have HCD : Hid (∀ w, Calls Tryz.prog 35 #[.int .i64 (n : Int)] w (DevN.NewPost w n)) := fun w => DevN.new_good (w := w) n h1 h2
  have HCA : Hid (∀ w, Calls Tryz.prog 36 #[.int .i64 (k : Int)] w (ArN.NewPost k w)) := fun w => ArN.new_good (w := w) k h6
  have HCH : Hid (∀ w, Calls Tryz.prog 37 #[.int .i64 (N : Int)] w (HdF.NewPost N w)) := fun w => HdF.new_good (w := w) N h3 h4
  have HCL : Hid (∀ w, Calls Tryz.prog 38 #[.int .i64 (k : Int)] w (ListD.NewPost k w)) := fun w => ListD.new_good (w := w) k (by omega)
  have HN := Lib.hid h2
  clear h1 h2 h3 h4 h5 h6
  go_enter Tryz.func12, Tryz.ntmps12
  go_upto_region 3 with (first
    | (go_at_call 34; (with_reducible refine (A1 _).out.mono ?_); rintro e w1 ⟨rfl, rfl⟩)
    | (go_at_call 34; (with_reducible refine (A2 _).out.mono ?_); rintro e w1 ⟨rfl, rfl⟩)
    | (go_at_call 34; (with_reducible refine (A3 _).out.mono ?_); rintro e w1 ⟨rfl, rfl⟩))
  refine wp_region_tree Grow Grow (kept_refl _) (kept_trans _) (kept_refl _) (kept_trans _) (fun _ _ h => h) [] (.two true [0, 2, 4, 6, 8, 10] 1 (.two true [] 3 (.two true [] 5 (.two true [] 7 (.one true [] 9 (.one true [11] 12 (.last true [13]))) 9 (.one true [] 7 (.one true [11] 12 (.last true [13])))) 9 (.one true [] 5 (.one true [] 7 (.one true [11] 12 (.last true [13]))))) 9 (.one true [] 3 (.one true [] 5 (.one true [] 7 (.one true [11] 12 (.last true [13])))))) 9 (.one true [] 1 (.one true [] 3 (.one true [] 5 (.one true [] 7 (.one true [11] 12 (.last true [13]))))))) (by kernel_rfl) (by kernel_rfl) ?_
  have HG0 : Hid (Grow w w.drew) := Kept.drew' w
  have HZ0 : Hid (Zero w.heap.size fun _ => 0) := fun _ _ => rfl
  obtain ⟨c0, hc0⟩ : ∃ c0 : Nat → Nat, c0 = fun _ => 0 := ⟨_, rfl⟩
  rw [← hc0] at HZ0
  clear A1 A2 A3 hc0
  generalize w.drew = u0 at *
  refine tr_twoE fun K1 hK1 K2 hK2 => ?_
  simp only [sel, List.map_cons, List.map_nil, List.getD_cons_succ, List.getD_cons_zero]
  repeat (go_big_quiet_step (fail))
  refine wpQuiet_nil ?_
  refine ⟨?_, ?_⟩
  · go_wp2_with (go_at_call 35; (with_reducible refine (HCD.out u0).mono ?_); rintro e u1 ⟨d, D, W, rfl, hd, hlo, hgx⟩; have HGX := Lib.hid hgx; have HD1 := Lib.hid (pd_new (col := c0) hd hlo); clear hd hlo hgx)
    refine norm_up (hK1 _ _ (Lr_early (by decide) HGX.out) ?_)
    clear hK1 hK2 K1 K2
    have HG1 := Lib.hid (HG0.out.trans HGX.out)
    have HZ1 := Lib.hid (HZ0.out.paint HG0.out.size 7)
    generalize paint u0.heap.size 7 c0 = c1 at *
    clear HGX
    refine tr_twoE fun K1 hK1 K2 hK2 => ?_
    simp only [sel, List.map_cons, List.map_nil, List.getD_cons_succ, List.getD_cons_zero]
    repeat (go_big_quiet_step (fail))
    refine wpQuiet_nil ?_
    refine ⟨?_, ?_⟩
    · go_wp2_with (go_at_call 36; (with_reducible refine (HCA.out u1).mono ?_); rintro e u2 ⟨rfl, ha, hgx⟩; have HGX := Lib.hid hgx; have HA2 := Lib.hid (pa_new (col := c1) ha); clear ha hgx)
      refine norm_up (hK1 _ _ (Lr_early (by decide) HGX.out) ?_)
      clear hK1 hK2 K1 K2
      have HD2 := Lib.hid (PD.k0 HD1.out HGX.out 8)
      have HG2 := Lib.hid (HG1.out.trans HGX.out)
      have HZ2 := Lib.hid (HZ1.out.paint HG1.out.size 8)
      generalize paint u1.heap.size 8 c1 = c2 at *
      generalize u1.heap.size = a at *
      clear HGX
      refine tr_twoE fun K1 hK1 K2 hK2 => ?_
      simp only [sel, List.map_cons, List.map_nil, List.getD_cons_succ, List.getD_cons_zero]
      repeat (go_big_quiet_step (fail))
      refine wpQuiet_nil ?_
      refine ⟨?_, ?_⟩
      · go_wp2_with (go_at_call 37; (with_reducible refine (HCH.out u2).mono ?_); rintro e u3 ⟨rfl, ha, hgx⟩; have HGX := Lib.hid hgx; have HH3 := Lib.hid (ph_new (col := c2) ha); clear ha hgx)
        refine norm_up (hK1 _ _ (Lr_early (by decide) HGX.out) ?_)
        clear hK1 hK2 K1 K2
        have HD3 := Lib.hid (PD.k0 HD2.out HGX.out 10)
        have HA3 := Lib.hid (PA.k0 HA2.out HGX.out 10)
        have HG3 := Lib.hid (HG2.out.trans HGX.out)
        have HZ3 := Lib.hid (HZ2.out.paint HG2.out.size 10)
        generalize paint u2.heap.size 10 c2 = c3 at *
        generalize u2.heap.size = h at *
        clear HGX
        refine tr_twoE fun K1 hK1 K2 hK2 => ?_
        simp only [sel, List.map_cons, List.map_nil, List.getD_cons_succ, List.getD_cons_zero]
        repeat (go_big_quiet_step (fail))
        refine wpQuiet_nil ?_
        refine ⟨?_, ?_⟩
        · go_wp2_with (go_at_call 38; (with_reducible refine (HCL.out u3).mono ?_); rintro e u4 ⟨b, B, rfl, hli, hb1, hb2, hgx⟩; have HGX := Lib.hid hgx; have HL4 := Lib.hid (pl_new (col := c3) hli hb1 hb2 (list_lt hli).1 (list_lt hli).2); clear hli hb1 hb2 hgx)
          refine norm_up (hK1 _ _ (Lr_early (by decide) HGX.out) ?_)
          clear hK1 hK2 K1 K2
          have HD4 := Lib.hid (PD.k0 HD3.out HGX.out 9)
          have HA4 := Lib.hid (PA.k0 HA3.out HGX.out 9)
          have HH4 := Lib.hid (PH.k0 HH3.out HGX.out 9)
          have HG4 := Lib.hid (HG3.out.trans HGX.out)
          have HZ4 := Lib.hid (HZ3.out.paint HG3.out.size 9)
          generalize paint u3.heap.size 9 c3 = c4 at *
          clear HGX
          refine tr_oneE fun K hK => ?_
          simp only [sel, List.map_cons, List.map_nil, List.getD_cons_succ, List.getD_cons_zero]
          repeat (go_big_quiet_step (fail))
          refine wpQuiet_nil ?_
          go_wp2_with (simp only [hmk])
          have hgx : Grow u4 (u4.alloc (.cells (madeCells #[.bool false] n) 4)) := (Kept.refl _ _).alloc _
          have HGX := Lib.hid hgx
          have HT5 := Lib.hid (pt_new (col := c4) u4 n HN.out)
          refine norm_up (hK _ _ (Lr_early (by decide) HGX.out) ?_)
          clear hK K
          have HD5 := Lib.hid (PD.k0 HD4.out HGX.out 11)
          have HA5 := Lib.hid (PA.k0 HA4.out HGX.out 11)
          have HH5 := Lib.hid (PH.k0 HH4.out HGX.out 11)
          have HL5 := Lib.hid (PL.k0 HL4.out HGX.out 11)
          have HG5 := Lib.hid (HG4.out.trans HGX.out)
          have HZ5 := Lib.hid (HZ4.out.paint HG4.out.size 11)
          generalize hv5 : u4.alloc (.cells (madeCells #[.bool false] n) 4) = u5 at *
          generalize paint u4.heap.size 11 c4 = c5 at *
          generalize u4.heap.size = t at *
          clear HGX
          refine tr_oneE fun K hK => ?_
          simp only [sel, List.map_cons, List.map_nil, List.getD_cons_succ, List.getD_cons_zero]
          repeat (go_big_quiet_step (fail))
          refine wpQuiet_nil ?_
          go_wp2
          refine norm_up (hK _ _ (Lr_early (by decide) ((Kept.refl _ _).alloc _)) ?_)
          clear hK K
          refine tr_last fun K hK => ?_
          simp only [sel, List.map_cons, List.map_nil, List.getD_cons_succ, List.getD_cons_zero]
          repeat (go_big_quiet_step (fail))
          refine wpQuiet_nil (hK _ ?_)
          clear hK K
          go_wp2
          go_ret
          exact new_end (s := 0) HD5.out HA5.out HL5.out HH5.out HT5.out HG5.out HZ5.out
        · go_wp2_with (simp only [hmk])
          have hgx : Grow u3 (u3.alloc (.cells (madeCells #[.bool false] n) 4)) := (Kept.refl _ _).alloc _
          have HGX := Lib.hid hgx
          have HT4 := Lib.hid (pt_new (col := c3) u3 n HN.out)
          refine norm_up (hK2 _ _ (Lr_early (by decide) HGX.out) ?_)
          clear hK1 hK2 K1 K2
          have HD4 := Lib.hid (PD.k0 HD3.out HGX.out 11)
          have HA4 := Lib.hid (PA.k0 HA3.out HGX.out 11)
          have HH4 := Lib.hid (PH.k0 HH3.out HGX.out 11)
          have HG4 := Lib.hid (HG3.out.trans HGX.out)
          have HZ4 := Lib.hid (HZ3.out.paint HG3.out.size 11)
          generalize hv4 : u3.alloc (.cells (madeCells #[.bool false] n) 4) = u4 at *
          generalize paint u3.heap.size 11 c3 = c4 at *
          generalize u3.heap.size = t at *
          clear HGX
          refine tr_oneE fun K hK => ?_
          simp only [sel, List.map_cons, List.map_nil, List.getD_cons_succ, List.getD_cons_zero]
          repeat (go_big_quiet_step (fail))
          refine wpQuiet_nil ?_
          go_wp2_with (go_at_call 38; (with_reducible refine (HCL.out u4).mono ?_); rintro e u5 ⟨b, B, rfl, hli, hb1, hb2, hgx⟩; have HGX := Lib.hid hgx; have HL5 := Lib.hid (pl_new (col := c4) hli hb1 hb2 (list_lt hli).1 (list_lt hli).2); clear hli hb1 hb2 hgx)
          refine norm_up (hK _ _ (Lr_early (by decide) HGX.out) ?_)
          clear hK K
          have HD5 := Lib.hid (PD.k0 HD4.out HGX.out 9)
          have HA5 := Lib.hid (PA.k0 HA4.out HGX.out 9)
          have HH5 := Lib.hid (PH.k0 HH4.out HGX.out 9)
          have HT5 := Lib.hid (HT4.out.keep HGX.out 9)
          have HG5 := Lib.hid (HG4.out.trans HGX.out)
          have HZ5 := Lib.hid (HZ4.out.paint HG4.out.size 9)
          generalize paint u4.heap.size 9 c4 = c5 at *
          clear HGX
          refine tr_oneE fun K hK => ?_
          simp only [sel, List.map_cons, List.map_nil, List.getD_cons_succ, List.getD_cons_zero]
          repeat (go_big_quiet_step (fail))
          refine wpQuiet_nil ?_
          go_wp2
          refine norm_up (hK _ _ (Lr_early (by decide) ((Kept.refl _ _).alloc _)) ?_)
          clear hK K
          refine tr_last fun K hK => ?_
          simp only [sel, List.map_cons, List.map_nil, List.getD_cons_succ, List.getD_cons_zero]
          repeat (go_big_quiet_step (fail))
          refine wpQuiet_nil (hK _ ?_)
          clear hK K
          go_wp2
          go_ret
          exact new_end (s := 0) HD5.out HA5.out HL5.out HH5.out HT5.out HG5.out HZ5.out
      · go_wp2_with (simp only [hmk])
        have hgx : Grow u2 (u2.alloc (.cells (madeCells #[.bool false] n) 4)) := (Kept.refl _ _).alloc _
        have HGX := Lib.hid hgx
        have HT3 := Lib.hid (pt_new (col := c2) u2 n HN.out)
        refine norm_up (hK2 _ _ (Lr_early (by decide) HGX.out) ?_)
        clear hK1 hK2 K1 K2
        have HD3 := Lib.hid (PD.k0 HD2.out HGX.out 11)
        have HA3 := Lib.hid (PA.k0 HA2.out HGX.out 11)
        have HG3 := Lib.hid (HG2.out.trans HGX.out)
        have HZ3 := Lib.hid (HZ2.out.paint HG2.out.size 11)
        generalize hv3 : u2.alloc (.cells (madeCells #[.bool false] n) 4) = u3 at *
        generalize paint u2.heap.size 11 c2 = c3 at *
        generalize u2.heap.size = t at *
        clear HGX
        refine tr_oneE fun K hK => ?_
        simp only [sel, List.map_cons, List.map_nil, List.getD_cons_succ, List.getD_cons_zero]
        repeat (go_big_quiet_step (fail))
        refine wpQuiet_nil ?_
        go_wp2_with (go_at_call 37; (with_reducible refine (HCH.out u3).mono ?_); rintro e u4 ⟨rfl, ha, hgx⟩; have HGX := Lib.hid hgx; have HH4 := Lib.hid (ph_new (col := c3) ha); clear ha hgx)
        refine norm_up (hK _ _ (Lr_early (by decide) HGX.out) ?_)
        clear hK K
        have HD4 := Lib.hid (PD.k0 HD3.out HGX.out 10)
        have HA4 := Lib.hid (PA.k0 HA3.out HGX.out 10)
        have HT4 := Lib.hid (HT3.out.keep HGX.out 10)
        have HG4 := Lib.hid (HG3.out.trans HGX.out)
        have HZ4 := Lib.hid (HZ3.out.paint HG3.out.size 10)
        generalize paint u3.heap.size 10 c3 = c4 at *
        generalize u3.heap.size = h at *
        clear HGX
        refine tr_oneE fun K hK => ?_
        simp only [sel, List.map_cons, List.map_nil, List.getD_cons_succ, List.getD_cons_zero]
        repeat (go_big_quiet_step (fail))
        refine wpQuiet_nil ?_
        go_wp2_with (go_at_call 38; (with_reducible refine (HCL.out u4).mono ?_); rintro e u5 ⟨b, B, rfl, hli, hb1, hb2, hgx⟩; have HGX := Lib.hid hgx; have HL5 := Lib.hid (pl_new (col := c4) hli hb1 hb2 (list_lt hli).1 (list_lt hli).2); clear hli hb1 hb2 hgx)
        refine norm_up (hK _ _ (Lr_early (by decide) HGX.out) ?_)
        clear hK K
        have HD5 := Lib.hid (PD.k0 HD4.out HGX.out 9)
        have HA5 := Lib.hid (PA.k0 HA4.out HGX.out 9)
        have HH5 := Lib.hid (PH.k0 HH4.out HGX.out 9)
        have HT5 := Lib.hid (HT4.out.keep HGX.out 9)
        have HG5 := Lib.hid (HG4.out.trans HGX.out)
        have HZ5 := Lib.hid (HZ4.out.paint HG4.out.size 9)
        generalize paint u4.heap.size 9 c4 = c5 at *
        clear HGX
        refine tr_oneE fun K hK => ?_
        simp only [sel, List.map_cons, List.map_nil, List.getD_cons_succ, List.getD_cons_zero]
        repeat (go_big_quiet_step (fail))
        refine wpQuiet_nil ?_
        go_wp2
        refine norm_up (hK _ _ (Lr_early (by decide) ((Kept.refl _ _).alloc _)) ?_)
        clear hK K
        refine tr_last fun K hK => ?_
        simp only [sel, List.map_cons, List.map_nil, List.getD_cons_succ, List.getD_cons_zero]
        repeat (go_big_quiet_step (fail))
        refine wpQuiet_nil (hK _ ?_)
        clear hK K
        go_wp2
        go_ret
        exact new_end (s := 0) HD5.out HA5.out HL5.out HH5.out HT5.out HG5.out HZ5.out
    · go_wp2_with (simp only [hmk])
      have hgx : Grow u1 (u1.alloc (.cells (madeCells #[.bool false] n) 4)) := (Kept.refl _ _).alloc _
      have HGX := Lib.hid hgx
      have HT2 := Lib.hid (pt_new (col := c1) u1 n HN.out)
      refine norm_up (hK2 _ _ (Lr_early (by decide) HGX.out) ?_)
      clear hK1 hK2 K1 K2
      have HD2 := Lib.hid (PD.k0 HD1.out HGX.out 11)
      have HG2 := Lib.hid (HG1.out.trans HGX.out)
      have HZ2 := Lib.hid (HZ1.out.paint HG1.out.size 11)
      generalize hv2 : u1.alloc (.cells (madeCells #[.bool false] n) 4) = u2 at *
      generalize paint u1.heap.size 11 c1 = c2 at *
      generalize u1.heap.size = t at *
      clear HGX
      refine tr_oneE fun K hK => ?_
      simp only [sel, List.map_cons, List.map_nil, List.getD_cons_succ, List.getD_cons_zero]
      repeat (go_big_quiet_step (fail))
      refine wpQuiet_nil ?_
      go_wp2_with (go_at_call 36; (with_reducible refine (HCA.out u2).mono ?_); rintro e u3 ⟨rfl, ha, hgx⟩; have HGX := Lib.hid hgx; have HA3 := Lib.hid (pa_new (col := c2) ha); clear ha hgx)
      refine norm_up (hK _ _ (Lr_early (by decide) HGX.out) ?_)
      clear hK K
      have HD3 := Lib.hid (PD.k0 HD2.out HGX.out 8)
      have HT3 := Lib.hid (HT2.out.keep HGX.out 8)
      have HG3 := Lib.hid (HG2.out.trans HGX.out)
      have HZ3 := Lib.hid (HZ2.out.paint HG2.out.size 8)
      generalize paint u2.heap.size 8 c2 = c3 at *
      generalize u2.heap.size = a at *
      clear HGX
      refine tr_oneE fun K hK => ?_
      simp only [sel, List.map_cons, List.map_nil, List.getD_cons_succ, List.getD_cons_zero]
      repeat (go_big_quiet_step (fail))
      refine wpQuiet_nil ?_
      go_wp2_with (go_at_call 37; (with_reducible refine (HCH.out u3).mono ?_); rintro e u4 ⟨rfl, ha, hgx⟩; have HGX := Lib.hid hgx; have HH4 := Lib.hid (ph_new (col := c3) ha); clear ha hgx)
      refine norm_up (hK _ _ (Lr_early (by decide) HGX.out) ?_)
      clear hK K
      have HD4 := Lib.hid (PD.k0 HD3.out HGX.out 10)
      have HA4 := Lib.hid (PA.k0 HA3.out HGX.out 10)
      have HT4 := Lib.hid (HT3.out.keep HGX.out 10)
      have HG4 := Lib.hid (HG3.out.trans HGX.out)
      have HZ4 := Lib.hid (HZ3.out.paint HG3.out.size 10)
      generalize paint u3.heap.size 10 c3 = c4 at *
      generalize u3.heap.size = h at *
      clear HGX
      refine tr_oneE fun K hK => ?_
      simp only [sel, List.map_cons, List.map_nil, List.getD_cons_succ, List.getD_cons_zero]
      repeat (go_big_quiet_step (fail))
      refine wpQuiet_nil ?_
      go_wp2_with (go_at_call 38; (with_reducible refine (HCL.out u4).mono ?_); rintro e u5 ⟨b, B, rfl, hli, hb1, hb2, hgx⟩; have HGX := Lib.hid hgx; have HL5 := Lib.hid (pl_new (col := c4) hli hb1 hb2 (list_lt hli).1 (list_lt hli).2); clear hli hb1 hb2 hgx)
      refine norm_up (hK _ _ (Lr_early (by decide) HGX.out) ?_)
      clear hK K
      have HD5 := Lib.hid (PD.k0 HD4.out HGX.out 9)
      have HA5 := Lib.hid (PA.k0 HA4.out HGX.out 9)
      have HH5 := Lib.hid (PH.k0 HH4.out HGX.out 9)
      have HT5 := Lib.hid (HT4.out.keep HGX.out 9)
      have HG5 := Lib.hid (HG4.out.trans HGX.out)
      have HZ5 := Lib.hid (HZ4.out.paint HG4.out.size 9)
      generalize paint u4.heap.size 9 c4 = c5 at *
      clear HGX
      refine tr_oneE fun K hK => ?_
      simp only [sel, List.map_cons, List.map_nil, List.getD_cons_succ, List.getD_cons_zero]
      repeat (go_big_quiet_step (fail))
      refine wpQuiet_nil ?_
      go_wp2
      refine norm_up (hK _ _ (Lr_early (by decide) ((Kept.refl _ _).alloc _)) ?_)
      clear hK K
      refine tr_last fun K hK => ?_
      simp only [sel, List.map_cons, List.map_nil, List.getD_cons_succ, List.getD_cons_zero]
      repeat (go_big_quiet_step (fail))
      refine wpQuiet_nil (hK _ ?_)
      clear hK K
      go_wp2
      go_ret
      exact new_end (s := 0) HD5.out HA5.out HL5.out HH5.out HT5.out HG5.out HZ5.out
  · go_wp2_with (simp only [hmk])
    have hgx : Grow u0 (u0.alloc (.cells (madeCells #[.bool false] n) 4)) := (Kept.refl _ _).alloc _
    have HGX := Lib.hid hgx
    have HT1 := Lib.hid (pt_new (col := c0) u0 n HN.out)
    refine norm_up (hK2 _ _ (Lr_early (by decide) HGX.out) ?_)
    clear hK1 hK2 K1 K2
    have HG1 := Lib.hid (HG0.out.trans HGX.out)
    have HZ1 := Lib.hid (HZ0.out.paint HG0.out.size 11)
    generalize hv1 : u0.alloc (.cells (madeCells #[.bool false] n) 4) = u1 at *
    generalize paint u0.heap.size 11 c0 = c1 at *
    generalize u0.heap.size = t at *
    clear HGX
    refine tr_oneE fun K hK => ?_
    simp only [sel, List.map_cons, List.map_nil, List.getD_cons_succ, List.getD_cons_zero]
    repeat (go_big_quiet_step (fail))
    refine wpQuiet_nil ?_
    go_wp2_with (go_at_call 35; (with_reducible refine (HCD.out u1).mono ?_); rintro e u2 ⟨d, D, W, rfl, hd, hlo, hgx⟩; have HGX := Lib.hid hgx; have HD2 := Lib.hid (pd_new (col := c1) hd hlo); clear hd hlo hgx)
    refine norm_up (hK _ _ (Lr_early (by decide) HGX.out) ?_)
    clear hK K
    have HT2 := Lib.hid (HT1.out.keep HGX.out 7)
    have HG2 := Lib.hid (HG1.out.trans HGX.out)
    have HZ2 := Lib.hid (HZ1.out.paint HG1.out.size 7)
    generalize paint u1.heap.size 7 c1 = c2 at *
    clear HGX
    refine tr_oneE fun K hK => ?_
    simp only [sel, List.map_cons, List.map_nil, List.getD_cons_succ, List.getD_cons_zero]
    repeat (go_big_quiet_step (fail))
    refine wpQuiet_nil ?_
    go_wp2_with (go_at_call 36; (with_reducible refine (HCA.out u2).mono ?_); rintro e u3 ⟨rfl, ha, hgx⟩; have HGX := Lib.hid hgx; have HA3 := Lib.hid (pa_new (col := c2) ha); clear ha hgx)
    refine norm_up (hK _ _ (Lr_early (by decide) HGX.out) ?_)
    clear hK K
    have HD3 := Lib.hid (PD.k0 HD2.out HGX.out 8)
    have HT3 := Lib.hid (HT2.out.keep HGX.out 8)
    have HG3 := Lib.hid (HG2.out.trans HGX.out)
    have HZ3 := Lib.hid (HZ2.out.paint HG2.out.size 8)
    generalize paint u2.heap.size 8 c2 = c3 at *
    generalize u2.heap.size = a at *
    clear HGX
    refine tr_oneE fun K hK => ?_
    simp only [sel, List.map_cons, List.map_nil, List.getD_cons_succ, List.getD_cons_zero]
    repeat (go_big_quiet_step (fail))
    refine wpQuiet_nil ?_
    go_wp2_with (go_at_call 37; (with_reducible refine (HCH.out u3).mono ?_); rintro e u4 ⟨rfl, ha, hgx⟩; have HGX := Lib.hid hgx; have HH4 := Lib.hid (ph_new (col := c3) ha); clear ha hgx)
    refine norm_up (hK _ _ (Lr_early (by decide) HGX.out) ?_)
    clear hK K
    have HD4 := Lib.hid (PD.k0 HD3.out HGX.out 10)
    have HA4 := Lib.hid (PA.k0 HA3.out HGX.out 10)
    have HT4 := Lib.hid (HT3.out.keep HGX.out 10)
    have HG4 := Lib.hid (HG3.out.trans HGX.out)
    have HZ4 := Lib.hid (HZ3.out.paint HG3.out.size 10)
    generalize paint u3.heap.size 10 c3 = c4 at *
    generalize u3.heap.size = h at *
    clear HGX
    refine tr_oneE fun K hK => ?_
    simp only [sel, List.map_cons, List.map_nil, List.getD_cons_succ, List.getD_cons_zero]
    repeat (go_big_quiet_step (fail))
    refine wpQuiet_nil ?_
    go_wp2_with (go_at_call 38; (with_reducible refine (HCL.out u4).mono ?_); rintro e u5 ⟨b, B, rfl, hli, hb1, hb2, hgx⟩; have HGX := Lib.hid hgx; have HL5 := Lib.hid (pl_new (col := c4) hli hb1 hb2 (list_lt hli).1 (list_lt hli).2); clear hli hb1 hb2 hgx)
    refine norm_up (hK _ _ (Lr_early (by decide) HGX.out) ?_)
    clear hK K
    have HD5 := Lib.hid (PD.k0 HD4.out HGX.out 9)
    have HA5 := Lib.hid (PA.k0 HA4.out HGX.out 9)
    have HH5 := Lib.hid (PH.k0 HH4.out HGX.out 9)
    have HT5 := Lib.hid (HT4.out.keep HGX.out 9)
    have HG5 := Lib.hid (HG4.out.trans HGX.out)
    have HZ5 := Lib.hid (HZ4.out.paint HG4.out.size 9)
    generalize paint u4.heap.size 9 c4 = c5 at *
    clear HGX
    refine tr_oneE fun K hK => ?_
    simp only [sel, List.map_cons, List.map_nil, List.getD_cons_succ, List.getD_cons_zero]
    repeat (go_big_quiet_step (fail))
    refine wpQuiet_nil ?_
    go_wp2
    refine norm_up (hK _ _ (Lr_early (by decide) ((Kept.refl _ _).alloc _)) ?_)
    clear hK K
    refine tr_last fun K hK => ?_
    simp only [sel, List.map_cons, List.map_nil, List.getD_cons_succ, List.getD_cons_zero]
    repeat (go_big_quiet_step (fail))
    refine wpQuiet_nil (hK _ ?_)
    clear hK K
    go_wp2
    go_ret
    exact new_end (s := 0) HD5.out HA5.out HL5.out HH5.out HT5.out HG5.out HZ5.out
end
end Go.Proofs.YtbnkpnllgoghnaaGreat.RgL

namespace Go.Proofs.YtbnkpnllgoghnaaGreat.RgV
open Go.ChangeShapes Go.WideShapes Go.ChangeAt Go.RowKit
open Go.Proofs.YtbnkpnllgoghnaaGreat.Mem Go.Proofs.YtbnkpnllgoghnaaGreat.Blk Go.Proofs.YtbnkpnllgoghnaaGreat.Cells Go.Proofs.YtbnkpnllgoghnaaGreat.Orow Go.Proofs.YtbnkpnllgoghnaaGreat.RfP Go.Proofs.YtbnkpnllgoghnaaGreat.RgP Go.Proofs.YtbnkpnllgoghnaaGreat.RgS Go.Proofs.YtbnkpnllgoghnaaGreat.RgA Go.Proofs.YtbnkpnllgoghnaaGreat.RgB Go.Proofs.YtbnkpnllgoghnaaGreat.RgF Go.Proofs.YtbnkpnllgoghnaaGreat.RgH Go.Proofs.YtbnkpnllgoghnaaGreat.Stages
open Go.Proofs.YtbnkpnllgoghnaaGreat.ArM (Ar Fr)
open Go.Proofs.YtbnkpnllgoghnaaGreat.ArC (ArAt FR)
open Go.Proofs.YtbnkpnllgoghnaaGreat.Dev (Dv DevAt)
open Go.Proofs.YtbnkpnllgoghnaaGreat.HdM (Hs)
/-- Numbers in memory of the caller's own, that may be written. -/
def OwnInts (w : World) (zs : List Int) (e : Ending) (w' : World) : Prop :=
  ∃ v, e = .returned v ∧ w'.ownsRow w.heap.size 3 1 v zs.length (zs.map (Value.int .i64)) ∧ Grow w w'
/-- The pages of the order. -/
def orderL (F : Nat → Fr) (L : List Nat) : List Int := L.map fun f => (F f).pg
theorem orderL_take {F : Nat → Fr} {L : List Nat} {j : Nat} (hj : j < L.length) : orderL F (L.take (j + 1)) = orderL F (L.take j) ++ [(F (L.getD j 0)).pg] := by
  unfold orderL
  rw [List.take_add_one, List.getElem?_eq_getElem hj, List.map_append, List.getD_eq_getElem?_getD, List.getElem?_eq_getElem hj]
  rfl
theorem orderL_len (F : Nat → Fr) (L : List Nat) : (orderL F L).length = L.length := by unfold orderL; simp
/-- The pages that are there, rising. -/
def thereL (T : Nat → Bool) : Nat → List Int
  | 0 => []
  | j + 1 => if T j = true then thereL T j ++ [(j : Int)] else thereL T j
theorem thereL_le (T : Nat → Bool) : ∀ j, (thereL T j).length ≤ j
  | 0 => Nat.le_refl _
  | j + 1 => by
    have := thereL_le T j
    unfold thereL
    split
    · simp; omega
    · omega
section
variable {w w' : World} {col col' : Nat → Nat} {ν : Nm} {S : Dv} {A : Ar} {L : List Nat} {H : Hs} {T : Nat → Bool}
theorem disk_any (x : MAt w col ν S A L H T) : Calls Tryz.prog 17 #[.pointer (some ⟨ν.r, 0, none⟩)] w fun e w' => e = .returned (.pointer (some ⟨ν.d, 0, none⟩)) ∧ w = w' := by
  have c0 := x.c0
  clear x
  go_enter Tryz.func17, Tryz.ntmps17
  go_wp2
  go_ret
  exact ⟨rfl, rfl⟩
theorem disk_nil (w : World) : Calls Tryz.prog 17 #[.pointer none] w fun e w' => e = .returned (.pointer none) ∧ w = w' := by
  go_enter Tryz.func17, Tryz.ntmps17
  go_wp2
  go_ret
  exact ⟨rfl, rfl⟩
/-- All frames, the caller's own. -/
def OwnFrames (w : World) (a : Ar) (e : Ending) (w' : World) : Prop :=
  ∃ g c, e = .returned (.slice (some ⟨g, 0, none⟩) a.n c) ∧ FR w' g c a.n a.F ∧ w.heap.size ≤ g ∧ Grow w w'
theorem frames_any (x : MAt w col ν S A L H T) (h0 : 0 < A.n) : Calls Tryz.prog 14 #[.pointer (some ⟨ν.r, 0, none⟩)] w (OwnFrames w A) := by
  have c1 := x.c1
  have HF := Lib.hid (frames_at x.arena h0)
  clear x
  go_enter Tryz.func14, Tryz.ntmps14
  go_wp2_with (go_at_call 48; (with_reducible refine HF.out.mono ?_); rintro e w1 ⟨g, c, rfl, h⟩; have HH := Lib.hid h; clear h)
  go_ret
  exact ⟨g, c, rfl, HH.out⟩
set_option maxRecDepth 100000 in
set_option maxHeartbeats 1000000 in
theorem there_any (x : MAt w col ν S A L H T) (hn : ν.n ≤ 48) : Calls Tryz.prog 15 #[.pointer (some ⟨ν.r, 0, none⟩)] w (OwnInts w (thereL T ν.n)) := by
  have c4 := x.c4
  have HT := Lib.hid x.th
  clear x
  go_enter Tryz.func15, Tryz.ntmps15
  go_wp2
  clear c4
  go_loopg [3, 13] ν.n (fun gx v i wr => ∃ j : Nat, j + gx = ν.n ∧ i = .int .i64 (j : Int) ∧ wr.ownsRow w.heap.size 3 1 v (thereL T j).length ((thereL T j).map (Value.int .i64)) ∧ Below w.heap.size w wr)
  case atStart => exact ⟨0, by omega, rfl, World.ownsRow_nil _ _ _ _, Below.refl _ _⟩
  case round =>
    obtain ⟨j, hg, rfl, hown, hbel⟩ := hrel
    have HOW := Lib.hid hown
    have HB := Lib.hid hbel
    have HG := Lib.hid hg
    have HWR : Hid (Grow w wr) := Kept.of_below hbel
    by_cases hj : j < ν.n
    · have hjz : (j : Int) < (ν.n : Int) := by omega
      have hnz : (ν.n : Int) ≤ 48 := by omega
      have t3 := (HT.out.kept HWR.out id).cell hj
      unfold tcell at t3
      have hle := thereL_le T j
      have hws : w.heap.size ≤ wr.heap.size := hbel.size
      clear hown hbel hg
      cases ht : T j with
      | false =>
        have HE : Hid (thereL T (j + 1) = thereL T j) := by unfold Hid; rw [thereL, ht]; rfl
        rw [ht] at t3
        clear ht
        go_wp2
        go_roundg (gk - 1)
        case measure => have := HG.out; omega
        case rel => exact ⟨j + 1, by have := HG.out; omega, by go_num, by rw [HE.out]; exact HOW.out, HB.out⟩
      | true =>
        have HE : Hid (thereL T (j + 1) = thereL T j ++ [(j : Int)]) := by unfold Hid; rw [thereL, ht]; rfl
        rw [ht] at t3
        clear ht
        generalize thereL T j = l at *
        go_wp2_with (at_builtin; refine wpList_append_one rfl (.tmp 19) (.tmp 21) 33 rfl w.heap.size 3 (.int .i64 0) 8 Tryz.underlying33 infoI rfl _ l.length _ rfl (World.ownsRow.alloc HOW.out _) wr.heap.size (.int .i64 (j : Int)) rfl (cell_new1 _ _ _) rfl (by unfold maxLen; omega) (by omega) (by simp; omega) ?_; intro g cap w3 hown hbel; have HOW3 := Lib.hid hown; have HBW3 := Lib.hid hbel; clear hown hbel)
        go_roundg (gk - 1)
        case measure => have := HG.out; omega
        case rel => exact ⟨j + 1, by have := HG.out; omega, by go_num, by rw [HE.out]; simpa using HOW3.out, HB.out.trans (((Below.refl _ wr).alloc hws _).trans HBW3.out)⟩
    · have hjN : j = ν.n := by omega
      subst hjN
      obtain ⟨P, c, rfl, _⟩ := Sl.of_row1 hown
      clear hown hbel hg
      go_wp2
      try rw [Exit.noGoto_ret]
      go_ret
      exact ⟨_, rfl, HOW.out, HWR.out⟩
set_option maxRecDepth 100000 in
set_option maxHeartbeats 1000000 in
theorem order_any (x : MAt w col ν S A L H T) (h0 : 0 < A.n) (hn : A.n ≤ 32) (hu : ∀ f ∈ L, f < A.n) (hL : L.length ≤ 32) : Calls Tryz.prog 33 #[.pointer (some ⟨ν.r, 0, none⟩)] w (OwnInts w (orderL A.F L)) := by
  have c1 := x.c1
  have c3 := x.c3
  have HF := Lib.hid (frames_at x.arena h0)
  have CA : Hid (∀ wx, Grow w wx → Calls Tryz.prog 86 #[.pointer (some ⟨ν.b, 0, none⟩)] wx fun e w' => ∃ A cp, e = .returned (.slice A L.length cp) ∧ Sl w' w'.heap.size .i64 A L.length (ListM.ints L) ∧ (∀ x, A = some x → wx.heap.size ≤ x.block) ∧ Grow wx w') := fun wx hg => ListD.all_any (x.grow hg).order
  have HU := Lib.hid hu
  clear x hu
  go_enter Tryz.func33, Tryz.ntmps33
  go_wp2_with (first
    | (go_at_call 48; (with_reducible refine HF.out.mono ?_); rintro e w1 ⟨g, c, rfl, ho, hg, hgr⟩; have HO := Lib.hid ho; have HG1 := Lib.hid hgr; have d3 := hgr.cellN c3 id; have HAL := Lib.hid (CA.out w1 hgr); clear ho hg hgr c3)
    | (go_at_call 86; (with_reducible refine HAL.out.mono ?_); rintro e w2 ⟨P, cp, rfl, hs, hA, hg⟩; have HSL := Lib.hid hs; have HG2 := Lib.hid hg; clear hs hA hg d3))
  have HG12 : Hid (Grow w w2) := HG1.out.trans HG2.out
  clear c1
  go_loopg [3, 20] L.length (fun gx v i wr => ∃ j : Nat, j + gx = L.length ∧ i = .int .i64 (j : Int) ∧ wr.ownsRow w2.heap.size 3 1 v (orderL A.F (L.take j)).length ((orderL A.F (L.take j)).map (Value.int .i64)) ∧ Below w2.heap.size w2 wr)
  case atStart => exact ⟨0, by omega, rfl, World.ownsRow_nil _ _ _ _, Below.refl _ _⟩
  case round =>
    obtain ⟨j, hg, rfl, hown, hbel⟩ := hrel
    have HOW := Lib.hid hown
    have HB := Lib.hid hbel
    have HG := Lib.hid hg
    have HWR : Hid (Grow w2 wr) := Kept.of_below hbel
    by_cases hj : j < L.length
    · have hjz : (j : Int) < (L.length : Int) := by omega
      have hlz : (L.length : Int) ≤ 32 := by omega
      have hsl := Sl.kept HSL.out HWR.out (Nat.le_refl _) (fun _ _ e => e)
      obtain ⟨b, off, rfl, _, hcs⟩ := hsl.at_ (by omega)
      have r1 := hcs j hj
      rw [ListM.ints_get] at r1
      have hm : L.getD j 0 ∈ L := by
        rw [List.getD_eq_getElem?_getD, List.getElem?_eq_getElem hj]
        exact List.getElem_mem _
      have hfn := HU.out _ hm
      have k1 := FR.c1 (OR.kept HO.out (HG2.out.trans HWR.out) id) hfn
      have HE := Lib.hid (orderL_take (F := A.F) hj)
      have hle : (orderL A.F (L.take j)).length ≤ 32 := by rw [orderL_len, List.length_take]; omega
      have hws : w2.heap.size ≤ wr.heap.size := hbel.size
      clear hown hbel hg hsl hcs hm
      generalize L.getD j 0 = f at *
      have hfz : (f : Int) < (A.n : Int) := by omega
      have hnz : (A.n : Int) ≤ 32 := by omega
      generalize orderL A.F (L.take j) = l at *
      generalize (A.F f).pg = pg at *
      go_wp2_with (at_builtin; refine wpList_append_one rfl (.tmp 24) (.tmp 30) 33 rfl w2.heap.size 3 (.int .i64 0) 8 Tryz.underlying33 infoI rfl _ l.length _ rfl (World.ownsRow.alloc HOW.out _) wr.heap.size (.int .i64 pg) rfl (cell_new1 _ _ _) rfl (by unfold maxLen; omega) (by omega) (by simp; omega) ?_; intro g cap w3 hown hbel; have HOW3 := Lib.hid hown; have HBW3 := Lib.hid hbel; clear hown hbel)
      go_roundg (gk - 1)
      case measure => have := HG.out; omega
      case rel => exact ⟨j + 1, by have := HG.out; omega, by go_num, by rw [HE.out]; simpa using HOW3.out, HB.out.trans (((Below.refl _ wr).alloc hws _).trans HBW3.out)⟩
    · have hjN : j = L.length := by have := HG.out; omega
      subst hjN
      rw [List.take_of_length_le (Nat.le_refl _)] at hown
      obtain ⟨P, c, rfl, _⟩ := Sl.of_row1 hown
      have HOW2 := Lib.hid (own_mono hown HG12.out.size)
      clear hown hbel hg HOW
      go_wp2
      try rw [Exit.noGoto_ret]
      go_ret
      exact ⟨_, rfl, HOW2.out, HG12.out.trans HWR.out⟩
end
end Go.Proofs.YtbnkpnllgoghnaaGreat.RgV

namespace Go.Proofs.YtbnkpnllgoghnaaGreat.RfS
open Go.Proofs.YtbnkpnllgoghnaaGreat.MdM (Md MdOp Re)
open Go.Proofs.YtbnkpnllgoghnaaGreat.ArM (Ar Fr fFree fUsed)
open Go.Proofs.YtbnkpnllgoghnaaGreat.TabM (upd upd_same upd_other)
open Go.Proofs.YtbnkpnllgoghnaaGreat.Dev (Dv)
open Go.Proofs.YtbnkpnllgoghnaaGreat.RfM Go.Proofs.YtbnkpnllgoghnaaGreat.RfI Go.Proofs.YtbnkpnllgoghnaaGreat.RfR Go.Proofs.YtbnkpnllgoghnaaGreat.RfF Go.Proofs.YtbnkpnllgoghnaaGreat.RfX
/-- The device has page q as z, durably; nothing waits to be written there; no frame of it is dirty. -/
structure Still (D : Dv) (A : Ar) (q : Nat) (z : List Int) : Prop where
  dur : D.dur q = z
  wr : D.wr q = none
  cl : ∀ f, f < A.n → (A.F f).pg = (q : Int) → (A.F f).di = false
section
variable {p : Pl} {D : Dv} {A : Ar} {q r : Nat} {z : List Int} {c x : Int} {o : MdOp} {f v : Nat}
theorem acc_dur (D : Dv) : (Dev.accS D).dur = D.dur ∧ (Dev.accS D).wr = D.wr := by
  unfold Dev.accS
  split
  · exact ⟨rfl, rfl⟩
  · exact ⟨rfl, rfl⟩
theorem Still.acc (s : Still D A q z) : Still (Dev.accS D) A q z := ⟨by rw [(acc_dur D).1]; exact s.dur, by rw [(acc_dur D).2]; exact s.wr, s.cl⟩
theorem Still.read (s : Still D A q z) (x : Int) : Still (Dev.readS D x) A q z := by
  unfold Dev.readS
  split
  · exact s.acc
  · exact s
theorem Still.write (s : Still D A q z) {x : Int} (hx : x ≠ (q : Int)) (zs : List Int) : Still (Dev.writeS D x zs) A q z := by
  unfold Dev.writeS
  split
  · rename_i h
    have h0 : 0 ≤ x := by
      have h1 := (Bool.and_eq_true_iff.1 h).1
      unfold Dev.hasI at h1
      exact of_decide_eq_true (Bool.and_eq_true_iff.1 h1).1
    split
    · refine ⟨s.acc.dur, ?_, s.cl⟩
      show (if q = x.toNat then some zs else (Dev.accS D).wr q) = none
      rw [if_neg (by omega)]
      exact s.acc.wr
    · exact s.acc
  · exact s
theorem Still.sync (s : Still D A q z) : Still (Dev.syncS D) A q z := by
  unfold Dev.syncS
  split
  · refine ⟨?_, rfl, s.cl⟩
    show ((Dev.accS D).wr q).getD ((Dev.accS D).dur q) = z
    rw [s.acc.wr]
    exact s.acc.dur
  · exact s.acc
/-- Behind a crash it is there. -/
theorem Still.crash (s : Still D A q z) (bits : List Int) : (Dev.crashS D bits).dur q = z := by
  unfold Dev.crashS
  split
  · exact s.dur
  · show Dev.fallen D bits q = z
    unfold Dev.fallen
    rw [s.wr]
    exact s.dur
/-- One frame is another, of another page, or clean. -/
theorem Still.turn (s : Still D A q z) {A' : Ar} {f : Nat} {v : Fr} (hn : A'.n = A.n) (hF : A'.F = upd A.F f v) (hv : f < A.n → v.pg = (q : Int) → v.di = false) : Still D A' q z := ⟨s.dur, s.wr, fun g hg => by
  rw [hn] at hg
  rw [hF]
  by_cases e : g = f
  · subst e; rw [upd_same]; exact hv hg
  · rw [upd_other _ _ e]; exact s.cl g hg⟩
theorem Still.same (s : Still D A q z) {A' : Ar} (hn : A'.n = A.n) (hF : A'.F = A.F) : Still D A' q z := ⟨s.dur, s.wr, fun g hg => by rw [hn] at hg; rw [hF]; exact s.cl g hg⟩
theorem Still.mark (s : Still D A q z) (x : Int) (d : Bool) (hd : d = true → A.used x = true → (A.F x.toNat).pg ≠ (q : Int)) : Still D (A.mark x d) q z := by
  unfold Ar.mark
  split
  · rename_i h
    refine s.turn rfl rfl fun _ e => ?_
    cases d with
    | false => rfl
    | true => exact absurd e (hd rfl h)
  · exact s
theorem Still.drop (s : Still D A q z) (x : Int) : Still D (A.drop x) q z := by
  unfold Ar.drop
  split
  · exact s.turn rfl rfl fun _ _ => rfl
  · exact s
theorem Still.take (s : Still D A q z) (x : Int) : Still D (A.take x) q z := by
  unfold Ar.take
  split
  · cases A.Q with
    | nil => exact s
    | cons f t => exact s.turn rfl rfl fun _ _ => rfl
  · exact s
theorem Still.pin (s : Still D A q z) (x : Int) : Still D (A.pin x) q z := by
  unfold Ar.pin
  split
  · exact s.turn rfl rfl (s.cl _)
  · exact s
theorem Still.unpin (s : Still D A q z) (x : Int) : Still D (A.unpin x) q z := by
  unfold Ar.unpin
  split
  · exact s.turn rfl rfl (s.cl _)
  · exact s
/-! ### A pool's -/
def Safe (p : Pl) (q : Nat) (z : List Int) : Prop := Still p.D p.A q z
theorem Safe.wr (s : Safe p q z) (hf : f < p.A.n) (hd : (p.A.F f).di = true) : Safe (p.wr f) q z := by
  have hp : (p.A.F f).pg ≠ (q : Int) := fun e => by have := s.cl f hf e; rw [hd] at this; cases this
  have h := s.write hp (p.img f)
  unfold Pl.wr Safe
  dsimp only
  split
  · exact h.mark _ _ fun e => by cases e
  · exact h
theorem Safe.drop (s : Safe p q z) (f : Nat) : Safe (p.drop f) q z := Still.drop s _
theorem Safe.front (s : Safe p q z) (x : Int) : Safe (p.front x) q z := s
theorem Safe.take (s : Safe p q z) (x : Int) : Safe (p.take x).2 q z := Still.take s x
/-- The frame that was taken for another page is not this one's. -/
theorem take_pg (p : Pl) {x : Int} (hx : x ≠ (q : Int)) : (p.take x).2.A.used (p.take x).1.1 = true → ((p.take x).2.A.F (p.take x).1.1.toNat).pg ≠ (q : Int) := by
  show (p.A.take x).used (p.A.takeC x) = true → ((p.A.take x).F (p.A.takeC x).toNat).pg ≠ (q : Int)
  unfold Ar.takeC Ar.take
  by_cases h : p.A.can x = true
  · rw [if_pos h, if_pos h]
    cases p.A.Q with
    | nil =>
      intro hu
      obtain ⟨f, e, _⟩ := ArM.used_iff.1 hu
      have e : (-1 : Int) = (f : Int) := e
      omega
    | cons f t =>
      intro _
      show (upd p.A.F f (fUsed x) (ListM.first (f :: t)).toNat).pg ≠ _
      have : (ListM.first (f :: t)).toNat = f := Int.toNat_natCast f
      rw [this, upd_same]
      exact hx
  · rw [if_neg h, if_neg h]
    intro hu
    obtain ⟨f, e, _⟩ := ArM.used_iff.1 hu
    omega
theorem Safe.evict (s : Safe p q z) (x : Int) (hv : v < p.A.n) : Safe (p.evict x v).2 q z ∧ (x ≠ (q : Int) → (p.evict x v).2.A.used (p.evict x v).1.1 = true → ((p.evict x v).2.A.F (p.evict x v).1.1.toNat).pg ≠ (q : Int)) := by
  unfold Pl.evict
  split
  · rename_i hd
    split
    · exact ⟨((s.wr hv hd).drop v).take x, take_pg _⟩
    · refine ⟨s.wr hv hd, fun _ hu => ?_⟩
      obtain ⟨f, e, _⟩ := ArM.used_iff.1 hu
      have e : (-1 : Int) = (f : Int) := e
      omega
  · exact ⟨(s.drop v).take x, take_pg _⟩
theorem Safe.room (s : Safe p q z) (hL : ∀ f ∈ p.L, f < p.A.n) (x : Int) : Safe (p.room x).2 q z ∧ (x ≠ (q : Int) → (p.room x).2.A.used (p.room x).1.1 = true → ((p.room x).2.A.F (p.room x).1.1.toNat).pg ≠ (q : Int)) := by
  unfold Pl.room
  split
  · split
    · refine ⟨s, fun _ hu => ?_⟩
      obtain ⟨f, e, _⟩ := ArM.used_iff.1 hu
      have e : (-1 : Int) = (f : Int) := e
      omega
    · rename_i v e
      exact s.evict x (hL v (vic_some e).1)
  · exact ⟨s.take x, take_pg _⟩
theorem Safe.load (s : Safe p q z) (x : Int) (f : Nat) : Safe (p.load x f).2 q z := by
  have h : Safe (⟨p.X, Dev.readS p.D x, p.A, p.L⟩ : Pl) q z := Still.read s x
  unfold Pl.load
  split
  · exact h.drop f
  · split
    · exact Still.same h rfl rfl
    · split
      · exact h
      · exact h.drop f
theorem Safe.fetch (s : Safe p q z) (hL : ∀ f ∈ p.L, f < p.A.n) (x : Int) : Safe (p.fetch x).2 q z := by
  unfold Pl.fetch
  split
  · exact s
  · split
    · exact (s.room hL x).1
    · exact (s.room hL x).1.load x _
theorem Safe.flush (s : Safe p q z) (x : Int) : Safe (p.flush x).2 q z := by
  unfold Pl.flush
  split
  · rename_i h
    rcases ArM.find_cases p.A x with ⟨e, _⟩ | ⟨f, hf, _, _, e⟩
    · omega
    · rw [e, Int.toNat_natCast] at h ⊢
      exact s.wr hf h.2
  · exact s
theorem Safe.flushTo (s : Safe p q z) (k : Nat) : Safe (p.flushTo k).2 q z := by
  induction k with
  | zero => exact s
  | succ k ih =>
    show Safe (if (p.flushTo k).1 = 0 then (p.flushTo k).2.flush (k : Int) else p.flushTo k).2 q z
    split
    · exact ih.flush _
    · exact ih
theorem Safe.sync (s : Safe p q z) : Safe p.sync.2 q z := Still.sync s
theorem Safe.synced {y : Int × Pl} (s : Safe y.2 q z) : Safe (Pl.synced y).2 q z := by
  unfold Pl.synced
  split
  · exact s.sync
  · exact s
/-- A page that is there is not the one that is made. -/
theorem new_other {a : Md} {k : Nat} (hT : a.T q = true) (hc : (a.new k).1.c = 0) : (a.new k).1.p ≠ (q : Int) ∧ (a.new k).2.T q = true := by
  unfold Md.new at hc ⊢
  split at hc
  · exact absurd hc (by show (4 : Int) ≠ 0; decide)
  · split at hc
    · exact absurd hc (by show (3 : Int) ≠ 0; decide)
    · rename_i hf hg
      rw [if_neg hf, if_neg hg]
      have hlt : a.gap < a.n := by have := HdM.lst_le (fun i => if a.T i then (0 : Int) else -1) a.n; unfold Md.gap at hg ⊢; omega
      have h1 := HdM.lst_at (fun i => if a.T i then (0 : Int) else -1) a.n hlt
      change (if a.T a.gap then (0 : Int) else -1) = -1 at h1
      have hne : q ≠ a.gap := fun e => by rw [← e, hT] at h1; exact absurd h1 (by decide)
      refine ⟨fun e => ?_, ?_⟩
      · have e : (a.gap : Int) = (q : Int) := e
        omega
      · show MdM.upd a.T a.gap true q = true
        rw [MdM.upd_other _ _ hne]
        exact hT
/-- A page stays there in the model, as long as it is not deleted. -/
theorem run_there {a : Md} (hT : a.T q = true) (ho : ¬ (o.k = 8 ∧ o.p = (q : Int))) : (a.run c o).2.T q = true := by
  have it : ∀ {P : Prop} [Decidable P] {x y : Re × Md}, (P → x.2.T q = true) → (¬ P → y.2.T q = true) → (if P then x else y).2.T q = true := fun h h' => by
    split
    · next e => exact h e
    · next e => exact h' e
  unfold Md.run
  refine it (fun _ => hT) fun hb => it (fun h1 => ?_) fun h1 => it (fun h2 => ?_) fun h2 => it (fun h3 => ?_) fun h3 => it (fun h4 => ?_) fun h4 => it (fun h5 => ?_) fun h5 => it (fun h6 => ?_) fun h6 => it (fun h7 => hT) fun h7 => ?_
  · by_cases hc : (a.new c.toNat).1.c = 0
    · exact (new_other hT hc).2
    · unfold Md.new at hc ⊢
      split
      · exact hT
      · rename_i hf
        rw [if_neg hf] at hc
        split
        · exact hT
        · rename_i hg
          rw [if_neg hg] at hc
          exact absurd rfl hc
  · exact it (fun _ => hT) fun _ => it (fun _ => hT) fun _ => it (fun _ => hT) fun _ => hT
  · exact it (fun _ => hT) fun _ => it (fun _ => hT) fun _ => hT
  · exact it (fun _ => hT) fun _ => it (fun _ => hT) fun _ => hT
  · exact it (fun _ => hT) fun _ => hT
  · exact it (fun _ => hT) fun _ => it (fun _ => hT) fun _ => hT
  · refine it (fun _ => hT) fun hp => it (fun _ => hT) fun _ => it (fun _ => hT) fun _ => ?_
    show MdM.upd a.T o.p.toNat false q = true
    rw [MdM.upd_other _ _ fun e => ho ⟨by omega, by omega⟩]
    exact hT
theorem Safe.act (s : Safe p q z) (hL : ∀ f ∈ p.L, f < p.A.n) (hT : p.X.T q = true) (h4 : o.k ≠ 4) (hc : (p.X.run c o).1.c = 0) (hb : 0 ≤ c ∧ c < (p.X.N : Int)) : Safe (p.act c o (p.X.run c o).1).2 q z := by
  unfold Pl.act
  split
  · rename_i h1
    have e : p.X.run c o = p.X.new c.toNat := by
      unfold Md.run
      rw [if_neg (by omega), if_pos h1]
    rw [e] at hc ⊢
    have hne := (new_other hT hc).1
    have hr := s.room hL (p.X.new c.toNat).1.p
    split
    · exact hr.1.mark _ _ fun _ => hr.2 hne
    · exact hr.1
  · split
    · exact s.fetch hL _
    · split
      · exact s
      · split
        · exact Still.unpin s _
        · split
          · exact (s.flush _).synced
          · split
            · exact (s.flushTo _).synced
            · split
              · exact s.drop _
              · exact s
/-- Calls that do not write, nor delete this page, leave it as it is. -/
theorem Safe.run (s : Safe p q z) (i : Inv p) (hT : p.X.T q = true) (h4 : o.k ≠ 4) (ho : ¬ (o.k = 8 ∧ o.p = (q : Int))) (hX : (p.run c o).2.X = p.X ∨ (p.run c o).2.X = (p.X.run c o).2) : Safe (p.run c o).2 q z ∧ (p.run c o).2.X.T q = true := by
  refine ⟨?_, ?_⟩
  · unfold Pl.run
    split
    · exact s
    · rename_i hc
      have hc : (p.X.run c o).1.c = 0 := by simpa using hc
      have hb : 0 ≤ c ∧ c < (p.X.N : Int) := by
        by_cases hb : ¬ (0 ≤ c ∧ c < (p.X.N : Int)) ∨ o.k < 1 ∨ 8 < o.k
        · have e : p.X.run c o = (MdM.err 1, p.X) := by unfold Md.run; rw [if_pos hb]
          rw [e] at hc
          exact absurd hc (by show (1 : Int) ≠ 0; decide)
        · omega
      have h := s.act (fun f hf => ((i.mem f).1 hf).1) hT h4 hc hb
      unfold Pl.fin
      split
      · exact h
      · show Still _ (if 0 ≤ (p.act c o (p.X.run c o).1).1.1 then _ else _) q z
        split
        · exact Still.pin h _
        · exact h
  · rcases hX with e | e
    · rw [e]; exact hT
    · rw [e]; exact run_there hT ho
/-- What the device says of a page whose frame, if it has one, is clean. -/
theorem said (i : Inv p) (hq : q < p.X.n) (hT : p.X.T q = true) (hcl : ∀ f, f < p.A.n → (p.A.F f).pg = (q : Int) → (p.A.F f).di = false) : says p.D q (p.X.B q) := by
  rcases ArM.find_cases p.A (q : Int) with ⟨_, hno⟩ | ⟨f, hf, hs, hp, _⟩
  · exact i.rest q hq (by simp) hT hno
  · exact (i.use f q hf hs hp (by simp)).2.2.2 (hcl f hf hp)
/-- A page that was flushed is so, and the device says what the model has. -/
theorem flush_safe (i : Inv p) (hb : p.D.bad = 0) (ho : o.k = 6) (hp : o.p = (q : Int)) (hq : q < p.X.n) (hT : p.X.T q = true) (hc : 0 ≤ c ∧ c < (p.X.N : Int)) :
    (p.run c o).1 = MdM.err 0 ∧ Inv (p.run c o).2 ∧ (p.run c o).2.X = p.X ∧ (p.run c o).2.A.n = p.A.n ∧ (p.run c o).2.D.bad = 0 ∧ ∃ z, Safe (p.run c o).2 q z ∧ PageM.openC (q : Int) z = 0 ∧ PageM.openB (q : Int) z = p.X.B q := by
  have er : p.X.run c o = (MdM.err 0, p.X) := by
    unfold Md.run
    rw [if_neg (by omega), if_neg (by omega), if_neg (by omega), if_neg (by omega), if_neg (by omega), if_neg (by omega), if_pos ho]
    unfold Md.onPage
    rw [if_neg (by omega), hp, Int.toNat_natCast, hT, if_neg (by decide)]
  obtain ⟨g1, i1, _, hF1, hcase⟩ := flush_spec i q
  have hb1 := g1.bad hb
  rcases hcase with ⟨h0, hcl⟩ | ⟨_, h⟩
  · obtain ⟨g2, i2, hA2, h2⟩ := sync_spec i1
    have s0 : (p.flush (q : Int)).2.sync.1 = 0 := by
      rcases h2 with h2 | ⟨_, h⟩
      · exact h2
      · omega
    have e : p.run c o = (MdM.err 0, (p.flush (q : Int)).2.sync.2) := by
      have hact : p.act c o (p.X.run c o).1 = Pl.synced (p.flush (q : Int)) := by
        unfold Pl.act
        rw [if_neg (by omega), if_neg (by omega), if_neg (by omega), if_neg (by omega), if_neg (by omega), if_pos ho, hp]
      rw [run_ok (by rw [er]; rfl), hact, er]
      unfold Pl.synced
      rw [if_pos h0, fin_ok s0]
      dsimp only
      rw [if_neg (by decide)]
      have hX : (p.flush (q : Int)).2.sync.2.X = p.X := g2.X.trans g1.X
      rw [← hX]
    rw [e]
    have hcl' : ∀ f, f < (p.flush (q : Int)).2.A.n → ((p.flush (q : Int)).2.A.F f).pg = (q : Int) → ((p.flush (q : Int)).2.A.F f).di = false := fun f hf hpg => by
      rw [g1.n] at hf
      rw [(hF1 f).2.1] at hpg
      by_cases hs : (p.A.F f).st = 1
      · exact hcl f hf hs hpg
      · have := (i.ga.rest f hf hs).1
        omega
    have hsay := said i1 (by rw [g1.X]; exact hq) (by rw [g1.X]; exact hT) hcl'
    rw [g1.X] at hsay
    refine ⟨rfl, i2, g2.X.trans g1.X, g2.n.trans g1.n, g2.bad hb1, Dev.cur (p.flush (q : Int)).2.D q, ?_, hsay.1, hsay.2⟩
    have hc0 : Dev.accC (p.flush (q : Int)).2.D = 0 := s0
    have e2 : (p.flush (q : Int)).2.sync.2 = ⟨(p.flush (q : Int)).2.X, Dev.flushS (Dev.accS (p.flush (q : Int)).2.D), (p.flush (q : Int)).2.A, (p.flush (q : Int)).2.L⟩ := by
      show (⟨(p.flush (q : Int)).2.X, Dev.syncS (p.flush (q : Int)).2.D, (p.flush (q : Int)).2.A, (p.flush (q : Int)).2.L⟩ : Pl) = _
      unfold Dev.syncS
      rw [if_pos hc0]
    rw [e2]
    refine ⟨?_, rfl, hcl'⟩
    show Dev.cur (Dev.accS (p.flush (q : Int)).2.D) q = _
    exact cur_acc _ _
  · omega
end
end Go.Proofs.YtbnkpnllgoghnaaGreat.RfS

namespace Go.Proofs.YtbnkpnllgoghnaaGreat.RfE
open Go.Proofs.YtbnkpnllgoghnaaGreat.MdM (Md MdOp Re)
open Go.Proofs.YtbnkpnllgoghnaaGreat.ArM (Ar Fr fFree fUsed)
open Go.Proofs.YtbnkpnllgoghnaaGreat.Dev (Dv)
open Go.Proofs.YtbnkpnllgoghnaaGreat.RfM Go.Proofs.YtbnkpnllgoghnaaGreat.RfI Go.Proofs.YtbnkpnllgoghnaaGreat.RfR Go.Proofs.YtbnkpnllgoghnaaGreat.RfF Go.Proofs.YtbnkpnllgoghnaaGreat.RfX Go.Proofs.YtbnkpnllgoghnaaGreat.RfS
section
variable {p : Pl} {a : Md} {c : Int} {o : MdOp} {q k n N : Nat} {z : List Int}
theorem each {P : Re × Md → Prop} {Q : Prop} [Decidable Q] {x y : Re × Md} (h : P x) (h' : P y) : P (if Q then x else y) := by
  split
  · exact h
  · exact h'
/-- What the model never tells; what stays of it. -/
theorem model_tells (a : Md) (c : Int) (o : MdOp) : ((a.run c o).1.c ≠ 8 ∧ (a.run c o).1.c ≠ 9) ∧ (a.run c o).2.n = a.n ∧ (a.run c o).2.N = a.N := by
  let P : Re × Md → Prop := fun x => (x.1.c ≠ 8 ∧ x.1.c ≠ 9) ∧ x.2.n = a.n ∧ x.2.N = a.N
  show P (a.run c o)
  have e : ∀ (n : Int), n ≠ 8 → n ≠ 9 → P (MdM.err n, a) := fun _ h h' => ⟨⟨h, h'⟩, rfl, rfl⟩
  have pg : ∀ (x : Int) (g : Nat → Re × Md), (∀ q, P (g q)) → P (a.onPage x g) := fun x g h => each (P := P) (e 1 (by decide) (by decide)) (each (P := P) (e 2 (by decide) (by decide)) (h _))
  have hh : ∀ (x : Int) (g : Nat → Re × Md), (∀ q, P (g q)) → P (a.onHand c x g) := fun x g h => each (P := P) (e 5 (by decide) (by decide)) (h _)
  have z : ∀ (r : Re) (m : Md), r.c = 0 → m.n = a.n → m.N = a.N → P (r, m) := fun r m h h1 h2 => ⟨⟨by show r.c ≠ 8; omega, by show r.c ≠ 9; omega⟩, h1, h2⟩
  unfold Md.run
  refine each (P := P) (e 1 (by decide) (by decide)) (each (P := P) ?_ (each (P := P) (pg _ _ fun q => ?_) (each (P := P) (hh _ _ fun q => ?_) (each (P := P) (hh _ _ fun q => ?_) (each (P := P) (hh _ _ fun q => z _ _ rfl rfl rfl) (each (P := P) (pg _ _ fun q => z _ _ rfl rfl rfl) (each (P := P) (z _ _ rfl rfl rfl) (pg _ _ fun q => ?_))))))))
  · exact each (P := P) (e 4 (by decide) (by decide)) (each (P := P) (e 3 (by decide) (by decide)) (z _ _ rfl rfl rfl))
  · exact each (P := P) (e 4 (by decide) (by decide)) (z _ _ rfl rfl rfl)
  · exact each (P := P) (e 6 (by decide) (by decide)) (z _ _ rfl rfl rfl)
  · exact each (P := P) (e 6 (by decide) (by decide)) (z _ _ rfl rfl rfl)
  · exact each (P := P) (e 7 (by decide) (by decide)) (z _ _ rfl rfl rfl)
/-- Without failing accesses: what the model tells and makes; or that there is no frame, and nothing is made. -/
def CalmP (p : Pl) (c : Int) (o : MdOp) (y : Re × Pl) : Prop :=
  (y.1 = (p.X.run c o).1 ∧ y.1.c ≠ 8 ∧ Inv y.2 ∧ y.2.X = (p.X.run c o).2 ∧ y.2.A.n = p.A.n ∧ y.2.D.bad = 0) ∨ (y = (MdM.err 8, p) ∧ Full p ∧ (o.k = 1 ∨ o.k = 2))
theorem calm (i : Inv p) (hb : p.D.bad = 0) (hd : MdM.Bytes o.d) (c : Int) : CalmP p c o (p.run c o) := by
  rcases run_spec i c o hd with ⟨p', e, i', hX, hA, hbad, _⟩ | ⟨e, hF, _, hk⟩ | ⟨p', e, _, _, _, hb'⟩
  · rw [e]
    exact .inl ⟨rfl, (model_tells p.X c o).1.1, i', hX, hA, hbad hb⟩
  · rw [e]
    exact .inr ⟨rfl, hF, hk.elim .inl fun h => .inr h.1⟩
  · exact absurd hb hb'
/-- As the model, where there is no question of a frame. -/
theorem plain (i : Inv p) (hb : p.D.bad = 0) (hd : MdM.Bytes o.d) (c : Int) (h : (o.k ≠ 1 ∧ o.k ≠ 2) ∨ ¬ Full p) : (p.run c o).1 = (p.X.run c o).1 ∧ Inv (p.run c o).2 ∧ (p.run c o).2.X = (p.X.run c o).2 ∧ (p.run c o).2.A.n = p.A.n ∧ (p.run c o).2.D.bad = 0 := by
  rcases calm i hb hd c with ⟨h1, _, h2, h3, h4, h5⟩ | ⟨_, hF, hk⟩
  · exact ⟨h1, h2, h3, h4, h5⟩
  · rcases h with h | h
    · omega
    · exact absurd hF h
/-- The pins of a page's frame are the model's. -/
theorem seen (i : Inv p) (hq : q < p.X.n) : (∃ f, f < p.A.n ∧ (p.A.F f).st = 1 ∧ (p.A.F f).pg = (q : Int) ∧ (p.A.F f).pn = (p.X.pins (q : Int) : Int) ∧ ∀ g, g < p.A.n → (p.A.F g).st = 1 → (p.A.F g).pg = (q : Int) → g = f) ∨ ((∀ f, f < p.A.n → (p.A.F f).st = 1 → (p.A.F f).pg ≠ (q : Int)) ∧ p.X.pins (q : Int) = 0) := by
  rcases ArM.find_cases p.A (q : Int) with ⟨_, hno⟩ | ⟨f, hf, hs, hp, _⟩
  · exact .inr ⟨hno, pins_out i hq hno⟩
  · exact .inl ⟨f, hf, hs, hp, (i.use f q hf hs hp (by simp)).2.1, fun g hg gs gp => i.ga.uq g f hg hf gs hs (by omega)⟩
/-- A call that leaves a page alone. -/
theorem safe_calm (s : RfS.Safe p q z) (i : Inv p) (hb : p.D.bad = 0) (hT : p.X.T q = true) (hd : MdM.Bytes o.d) (h4 : o.k ≠ 4) (ho : ¬ (o.k = 8 ∧ o.p = (q : Int))) (c : Int) :
    RfS.Safe (p.run c o).2 q z ∧ Inv (p.run c o).2 ∧ (p.run c o).2.D.bad = 0 ∧ (p.run c o).2.X.T q = true ∧ (p.run c o).2.X.n = p.X.n ∧ (p.run c o).2.X.N = p.X.N ∧ (p.run c o).2.A.n = p.A.n := by
  rcases RfE.calm i hb hd c with ⟨_, _, h2, h3, h4', h5⟩ | ⟨e, _, _⟩
  · obtain ⟨h6, h7⟩ := RfS.Safe.run s i hT h4 ho (.inr h3)
    refine ⟨h6, h2, h5, h7, ?_, ?_, h4'⟩
    · rw [h3]; exact (model_tells p.X c o).2.1
    · rw [h3]; exact (model_tells p.X c o).2.2
  · rw [e]
    exact ⟨s, i, hb, hT, rfl, rfl, rfl⟩
/-! ### The model, by the first client's first handle -/
theorem model_first (hN : 0 < N) (hn : 0 < n) (ho : o.k = 1) : (MdM.fresh n N).run 0 o = (⟨0, 0, 0, []⟩, ((MdM.fresh n N).putT 0 true).putH 0 0 0) := by
  have e : (MdM.fresh n N).run 0 o = (MdM.fresh n N).new 0 := by
    unfold Md.run
    rw [if_neg (by show ¬ (¬ ((0 : Int) ≤ 0 ∧ (0 : Int) < (N : Int)) ∨ _ ∨ _); omega), if_pos ho]
    rfl
  have hg : (MdM.fresh n N).gap = 0 := HdM.lst_eq (fun j h => absurd h (Nat.not_lt_zero j)) (.inr ⟨hn, rfl⟩)
  have hf : (MdM.fresh n N).free 0 = 0 := rfl
  rw [e]
  unfold Md.new
  rw [hf, if_neg (by decide), hg, if_neg (by show ¬ (0 = n); omega)]
  rfl
theorem held_first (hN : 0 < a.N) (hH : a.H 0 0 = (q : Int)) : a.held 0 0 = (q : Int) := by
  unfold Md.held
  rw [if_pos ⟨by omega, by omega⟩]
  exact hH
theorem model_write (hN : 0 < a.N) (hH : a.H 0 0 = (q : Int)) (ho : o.k = 4) (hh : o.h = 0) (h0 : o.o = 0) (hd : o.d.length ≤ 16) : a.run 0 o = (MdM.err 0, a.putB q (MdM.splice (a.B q) 0 o.d)) := by
  unfold Md.run
  rw [if_neg (by omega), if_neg (by omega), if_neg (by omega), if_neg (by omega), if_pos ho]
  unfold Md.onHand
  rw [hh, held_first hN hH, if_neg (by omega), Int.toNat_natCast]
  unfold Md.write
  rw [h0, if_neg (by omega)]
  rfl
theorem model_read (hN : 0 < a.N) (hH : a.H 0 0 = (q : Int)) (ho : o.k = 3) (hh : o.h = 0) (h0 : o.o = 0) (hn : 0 ≤ o.n ∧ o.n ≤ 16) : a.run 0 o = (⟨0, 0, 0, (a.B q).take o.n.toNat⟩, a) := by
  unfold Md.run
  rw [if_neg (by omega), if_neg (by omega), if_neg (by omega), if_pos ho]
  unfold Md.onHand
  rw [hh, held_first hN hH, if_neg (by omega), Int.toNat_natCast]
  unfold Md.read
  rw [h0, if_neg (by omega)]
  rfl
theorem model_unpin (hN : 0 < a.N) (hH : a.H 0 0 = (q : Int)) (ho : o.k = 5) (hh : o.h = 0) : a.run 0 o = (MdM.err 0, a.putH 0 0 (-1)) := by
  unfold Md.run
  rw [if_neg (by omega), if_neg (by omega), if_neg (by omega), if_neg (by omega), if_neg (by omega), if_pos ho]
  unfold Md.onHand
  rw [hh, held_first hN hH, if_neg (by omega)]
  rfl
/-- The first page of a new pool. -/
theorem first (h1 : 1 ≤ n) (h2 : n ≤ 48) (h3 : 1 ≤ N) (h4 : N ≤ 6) (h5 : 1 ≤ k) (h6 : k ≤ 32) (ho : o.k = 1) (hd : o.d = []) :
    ((RfM.fresh n N k).run 0 o).1 = ⟨0, 0, 0, []⟩ ∧ Inv ((RfM.fresh n N k).run 0 o).2 ∧ ((RfM.fresh n N k).run 0 o).2.X = ((MdM.fresh n N).putT 0 true).putH 0 0 0 ∧ ((RfM.fresh n N k).run 0 o).2.A.n = k ∧ ((RfM.fresh n N k).run 0 o).2.D.bad = 0 := by
  have i := inv_fresh h1 h2 h3 h4 h5 h6
  have h := plain (o := o) i rfl (by rw [hd]; exact fun c hc => by cases hc) 0 (.inr (not_full (f := 0) (by show 0 < k; omega) (.inl rfl)))
  have e : (RfM.fresh n N k).X.run 0 o = (⟨0, 0, 0, []⟩, ((MdM.fresh n N).putT 0 true).putH 0 0 0) := model_first h3 h1 ho
  rw [e] at h
  exact h
end
end Go.Proofs.YtbnkpnllgoghnaaGreat.RfE

namespace Go.Proofs.YtbnkpnllgoghnaaGreat.RgQ
open Go.ChangeShapes Go.WideShapes Go.ChangeAt Go.RowKit
open Go.Proofs.YtbnkpnllgoghnaaGreat.Mem Go.Proofs.YtbnkpnllgoghnaaGreat.Blk Go.Proofs.YtbnkpnllgoghnaaGreat.Cells Go.Proofs.YtbnkpnllgoghnaaGreat.Orow Go.Proofs.YtbnkpnllgoghnaaGreat.RfP Go.Proofs.YtbnkpnllgoghnaaGreat.RgP Go.Proofs.YtbnkpnllgoghnaaGreat.RgS Go.Proofs.YtbnkpnllgoghnaaGreat.RgA Go.Proofs.YtbnkpnllgoghnaaGreat.RgB Go.Proofs.YtbnkpnllgoghnaaGreat.RgF Go.Proofs.YtbnkpnllgoghnaaGreat.RgK Go.Proofs.YtbnkpnllgoghnaaGreat.RgV
open Go.Proofs.YtbnkpnllgoghnaaGreat.ArM (Ar Fr)
open Go.Proofs.YtbnkpnllgoghnaaGreat.ArC (ArAt FR)
open Go.Proofs.YtbnkpnllgoghnaaGreat.Dev (Dv DevAt)
open Go.Proofs.YtbnkpnllgoghnaaGreat.MdM (Md MdOp Re)
open Go.Proofs.YtbnkpnllgoghnaaGreat.RfM (Pl)
open Go.Proofs.YtbnkpnllgoghnaaGreat.RfI (InvE Inv)
open Go.Proofs.YtbnkpnllgoghnaaGreat.RgM (Bnd)
/-- A pool in memory, at most k accesses old. -/
structure PAt (w : World) (col : Nat → Nat) (ν : Nm) (p : Pl) (k : Nat) : Prop where
  m : MP w col ν p
  i : Inv p
  f : Fit ν p
  b : Bnd p.D k
/-- A block is none of the pool's. -/
def Out (col : Nat → Nat) (g : Nat) : Prop := col g < 6 ∨ 11 < col g
/-- Numbers that are none of the pool's. -/
structure Dt (w : World) (col : Nat → Nat) (t : IntKind) (A : Option Addr) (n : Nat) (zs : List Int) : Prop where
  s : Sl w w.heap.size t A n zs
  o : 0 < n → ∀ x, A = some x → Out col x.block
/-- Answers in boxes of the caller's. -/
def Boxes (w : World) (col : Nat → Nat) (bs : List (Nat × List Value)) : Prop := ∀ b ∈ bs, Blk w b.1 27 b.2 ∧ Out col b.1
section
variable {w w' : World} {col col' : Nat → Nat} {ν : Nm} {p p' : Pl} {k n g dl dc : Nat} {t : IntKind} {A D : Option Addr} {zs : List Int} {bs : List (Nat × List Value)} {cs : List Value} {F : Nat → Prop}
theorem Out.went (h : Out col g) (hg : g < w.heap.size) (hw : Went w col w' col') : Out col' g := by
  unfold Out
  rw [hw.old g hg]
  exact h
theorem out_new {s c : Nat} (h : s ≤ g) : Out (paint s 0 col) g := .inl (by rw [paint_new h]; decide)
theorem sl_kept (h : Sl w n t A dl zs) (hk : Kept F w w') (ho : 0 < dl → ∀ x, A = some x → ¬ F x.block) : Sl w' n t A dl zs :=
  ⟨h.1, fun h0 => by
    obtain ⟨g, o, e, hb, hc⟩ := h.2 h0
    exact ⟨g, o, e, hb, fun j hj => hk.cellN (hc j hj) (show ¬ F g from ho h0 _ e)⟩⟩
theorem Dt.went (h : Dt w col t A n zs) (hw : Went w col w' col') : Dt w' col' t A n zs :=
  ⟨(sl_kept h.s hw.kept fun h0 x e m => by have := h.o h0 x e; have := m.2; unfold Out at *; omega).more hw.kept.size, fun h0 x e => (h.o h0 x e).went (PmT.sl_lt h.s h0 e) hw⟩
theorem Dt.grow (h : Dt w col t A n zs) (hk : Grow w w') : Dt w' (paint w.heap.size 0 col) t A n zs := h.went (Went.grow hk)
theorem Dt.fresh (h : Sl w' w'.heap.size t A n zs) (hn : 0 < n → ∀ x, A = some x → w.heap.size ≤ x.block) : Dt w' (paint w.heap.size 0 col) t A n zs := ⟨h, fun h0 x e => out_new (c := 0) (hn h0 x e)⟩
theorem Boxes.nil (w : World) (col : Nat → Nat) : Boxes w col [] := fun b hb => by cases hb
theorem Boxes.went (h : Boxes w col bs) (hw : Went w col w' col') : Boxes w' col' bs := fun b hb => Went.blk hw (h b hb).1 (h b hb).2
theorem Boxes.get {b : Nat × List Value} (h : Boxes w col bs) (hb : b ∈ bs) : Blk w b.1 27 b.2 := (h b hb).1
theorem PAt.keep (x : PAt w col ν p k) (hk : Kept F w w') (hF : ∀ i, i < w.heap.size → F i → Out col i) (hc : ∀ i, i < w.heap.size → col' i = col i) : PAt w' col' ν p k := ⟨x.m.keep hk (fun i h1 h2 => hF i h1 h2) hc, x.i, x.f, x.b⟩
theorem PAt.grow (x : PAt w col ν p k) (hk : Grow w w') : PAt w' (paint w.heap.size 0 col) ν p k := ⟨x.m.grow hk, x.i, x.f, x.b⟩
theorem PAt.drew (x : PAt w col ν p k) : PAt w.drew col ν p k := ⟨x.m.drew, x.i, x.f, x.b⟩
theorem PAt.up {j : Nat} (x : PAt w col ν p k) (h : k ≤ j) : PAt w col ν p j := ⟨x.m, x.i, x.f, x.b.up h⟩
/-- An answer is laid into a box of the caller's. -/
theorem box_res (w : World) (col : Nat → Nat) (xs : Array Value) : ∃ w' : World, (w.alloc (.cells #[.int .i64 0, .int .i64 0, .int .i64 0, .slice none 0 0] 27)).setRow w.heap.size xs = w' ∧ Grow w w' ∧ Blk w' w.heap.size 27 xs.toList ∧ Blk (w.alloc (.cells #[.int .i64 0, .int .i64 0, .int .i64 0, .slice none 0 0] 27)) w.heap.size 27 [.int .i64 0, .int .i64 0, .int .i64 0, .slice none 0 0] := by
  have hb := Blk.new w 27 [.int .i64 0, .int .i64 0, .int .i64 0, .slice none 0 0]
  obtain ⟨h1, h2⟩ := set_row hb xs
  exact ⟨_, rfl, ((Kept.refl _ w).alloc _).then h2 fun i hi e => by omega, h1, hb⟩
theorem Boxes.add (h : Boxes w col bs) (hk : Grow w w') (hb : Blk w' w.heap.size 27 cs) : Boxes w' (paint w.heap.size 0 col) ((w.heap.size, cs) :: bs) := fun b hm => by
  rcases List.mem_cons.1 hm with rfl | hm
  · exact ⟨hb, out_new (c := 0) (Nat.le_refl _)⟩
  · exact h.went (Went.grow hk) b hm
/-- What a call keeps of the pool's form. -/
theorem run_fit (x : Fit ν p) (i : Inv p) (c : Int) (o : MdOp) (hd : MdM.Bytes o.d) : Inv (p.run c o).2 ∧ Fit ν (p.run c o).2 := by
  have hX := (RfE.model_tells p.X c o).2
  rcases RfX.run_spec i c o hd with ⟨p', e, i', hx, hn, _⟩ | ⟨e, _⟩ | ⟨p', e, i', hx, hn, _⟩
  · rw [e]
    exact ⟨i', ⟨by rw [x.n, hx]; exact hX.1.symm, by rw [x.N, hx]; exact hX.2.symm, by rw [x.K]; exact hn.symm⟩⟩
  · rw [e]; exact ⟨i, x⟩
  · rw [e]
    exact ⟨i', ⟨by rw [x.n, hx], by rw [x.N, hx], by rw [x.K]; exact hn.symm⟩⟩
/-- What a call tells, and leaves. -/
def DoAt (ν : Nm) (w : World) (col : Nat → Nat) (r : Re) (p' : Pl) (k : Nat) (e : Ending) (w' : World) : Prop :=
  ∃ A n cap col', e = .returned (.agg #[.int .i64 r.c, .int .i64 r.p, .int .i64 r.h, .slice A n cap]) ∧ Dt w' col' .u8 A n r.d ∧ PmT.Fz w' A n ∧ (0 < n → ∀ x, A = some x → w.heap.size ≤ x.block) ∧ Went w col w' col' ∧ PAt w' col' ν p' (k + 50)
theorem pdo (x : PAt w col ν p k) (c : Int) (o : MdOp) (hd : Sl w w.heap.size .u8 D dl o.d) (hdl : dl ≤ 1000000) (h63 : o.o ≤ 9223372036854775807) (hby : MdM.Bytes o.d) (hk : k ≤ 100000) :
    Calls Tryz.prog 13 #[.pointer (some ⟨ν.r, 0, none⟩), .int .i64 c, .agg #[.int .i64 o.k, .int .i64 o.p, .int .i64 o.h, .int .i64 o.o, .int .i64 o.n, .slice D dl dc]] w (DoAt ν w col (p.run c o).1 (p.run c o).2 k) := by
  have hfit := run_fit x.f x.i c o hby
  have hb := x.b.run x.i.gx.n.2 c o
  refine (do_any x.m x.i x.f c hd hdl h63 x.b hk).mono ?_
  rintro e w' ⟨rv, col', rfl, ⟨A, n, cap, rfl, hs, hA, hf⟩, hw, hm⟩
  exact ⟨A, n, cap, col', rfl, ⟨hs, fun h0 y ey => (hA y ey h0).2⟩, hf, fun h0 y ey => (hA y ey h0).1, hw, ⟨hm, hfit.1, hfit.2, hb⟩⟩
/-- .. its answer known. -/
theorem pdo_is {c a1 a2 a3 a4 a5 : Int} {d : List Int} {r : Re} (x : PAt w col ν p k) (hd : Sl w w.heap.size .u8 D dl d) (hdl : dl ≤ 1000000) (h63 : a4 ≤ 9223372036854775807) (hby : MdM.Bytes d) (hk : k ≤ 100000) (hr : (p.run c ⟨a1, a2, a3, a4, a5, d⟩).1 = r) (hp : (p.run c ⟨a1, a2, a3, a4, a5, d⟩).2 = p') :
    Calls Tryz.prog 13 #[.pointer (some ⟨ν.r, 0, none⟩), .int .i64 c, .agg #[.int .i64 a1, .int .i64 a2, .int .i64 a3, .int .i64 a4, .int .i64 a5, .slice D dl dc]] w (DoAt ν w col r p' k) := by
  subst hr hp
  exact pdo (o := ⟨a1, a2, a3, a4, a5, d⟩) x c hd hdl h63 hby hk
/-- .. without data. -/
theorem pdo0 {c a1 a2 a3 a4 a5 : Int} {r : Re} (x : PAt w col ν p k) (h63 : a4 ≤ 9223372036854775807) (hk : k ≤ 100000) (hr : (p.run c ⟨a1, a2, a3, a4, a5, []⟩).1 = r) (hp : (p.run c ⟨a1, a2, a3, a4, a5, []⟩).2 = p') :
    Calls Tryz.prog 13 #[.pointer (some ⟨ν.r, 0, none⟩), .int .i64 c, .agg #[.int .i64 a1, .int .i64 a2, .int .i64 a3, .int .i64 a4, .int .i64 a5, .slice none 0 0]] w (DoAt ν w col r p' k) :=
  pdo_is x (Sl.nil _ _ _ _) (Nat.zero_le _) h63 (fun _ h => by cases h) hk hr hp
/-- A new pool. -/
def NewAt (n N q : Nat) (w : World) (e : Ending) (w' : World) : Prop := ∃ ν col', e = .returned (.pointer (some ⟨ν.r, 0, none⟩)) ∧ PAt w' col' ν (RfM.fresh n N q) 0 ∧ Grow w w' ∧ ∀ i, i < w.heap.size → col' i = 0
theorem pnew (n N q : Nat) (h1 : 1 ≤ n) (h2 : n ≤ 48) (h3 : 1 ≤ N) (h4 : N ≤ 6) (h5 : 1 ≤ q) (h6 : q ≤ 32) (w : World) : Calls Tryz.prog 12 #[.int .i64 (n : Int), .int .i64 (N : Int), .int .i64 (q : Int)] w (NewAt n N q w) :=
  (RgL.new_good n N q h1 h2 h3 h4 h5 h6 w).mono fun e w' ⟨ν, col', he, hm, hf, hg, hz⟩ => ⟨ν, col', he, ⟨hm, RfX.inv_fresh h1 h2 h3 h4 h5 h6, hf, Bnd.fresh n N q⟩, hg, hz⟩
/-- Numbers of the caller's own, one by one. -/
theorem own_open {zs : List Int} {v : Value} {b : Nat} (h : w.ownsRow b 3 1 v zs.length (zs.map (Value.int .i64))) (h0 : 0 < zs.length) : ∃ g c, v = .slice (some ⟨g, 0, none⟩) zs.length c ∧ b ≤ g ∧ g < w.heap.size ∧ (∀ j, j < zs.length → w.cell? ⟨g, j, none⟩ = some (.int .i64 (zs.getD j 0))) ∧ ∀ j, w.frozen? ⟨g, j, none⟩ = false := by
  rcases h.2 with ⟨_, e⟩ | ⟨g, cap, cur, rfl, hb, hg, _, _, _, hl⟩
  · omega
  · refine ⟨g, cap, rfl, hb, (Array.getElem?_eq_some_iff.1 hg).1, fun j hj => ?_, fun j => frozen_of_row w g j cur _ hg⟩
    have h5 : (cur.toList.take (zs.length * 1))[j]? = (zs.map (Value.int .i64))[j]? := by rw [hl]
    rw [List.getElem?_take, if_pos (by omega), List.getElem?_map, List.getElem?_eq_getElem hj] at h5
    rw [cell_of_row _ _ _ _ _ _ hg, ← Array.getElem?_toList, h5, List.getD_eq_getElem?_getD, List.getElem?_eq_getElem hj]
    rfl
/-- Numbers that a view hands out, one by one. -/
def IntsAre (w : World) (zs : List Int) (e : Ending) (w' : World) : Prop := ∃ g c, e = .returned (.slice (some ⟨g, 0, none⟩) zs.length c) ∧ w.heap.size ≤ g ∧ g < w'.heap.size ∧ (∀ j, j < zs.length → w'.cell? ⟨g, j, none⟩ = some (.int .i64 (zs.getD j 0))) ∧ (∀ j, w'.frozen? ⟨g, j, none⟩ = false) ∧ Grow w w'
theorem ints_are {zs : List Int} {f : Nat} {args : Array Value} (h : Calls Tryz.prog f args w (OwnInts w zs)) (h0 : 0 < zs.length) : Calls Tryz.prog f args w (IntsAre w zs) :=
  h.mono fun e w' ⟨v, he, ho, hg⟩ => by
    obtain ⟨g, c, rfl, h1, h2, h3, h4⟩ := own_open ho h0
    exact ⟨g, c, he, h1, h2, h3, h4, hg⟩
theorem porder (x : PAt w col ν p k) : Calls Tryz.prog 33 #[.pointer (some ⟨ν.r, 0, none⟩)] w (OwnInts w (orderL p.A.F p.L)) :=
  order_any x.m x.i.n1 x.i.ga.n (fun f hf => ((x.i.mem f).1 hf).1) (RgD.len32 x.i)
theorem pthere (x : PAt w col ν p k) : Calls Tryz.prog 15 #[.pointer (some ⟨ν.r, 0, none⟩)] w (OwnInts w (thereL p.X.T p.X.n)) := by
  have := there_any x.m (by rw [x.f.n]; exact x.i.gx.n.2)
  rwa [x.f.n] at this
theorem pframes (x : PAt w col ν p k) : Calls Tryz.prog 14 #[.pointer (some ⟨ν.r, 0, none⟩)] w (OwnFrames w p.A) := RgV.frames_any x.m x.i.n1
/-- What a new pool's calls leave of what was there before it. -/
theorem new_grow {w0 : World} {c0 : Nat → Nat} (hg : Grow w w0) (hz : ∀ i, i < w.heap.size → c0 i = 0) (hw : Went w0 c0 w' col') : Grow w w' := hg.then hw.kept fun i hi m => by have := hz i hi; have := m.2; omega
theorem do_nil (c : Int) (w : World) (a1 a2 a3 a4 a5 : Int) : Calls Tryz.prog 13 #[.pointer none, .int .i64 c, .agg #[.int .i64 a1, .int .i64 a2, .int .i64 a3, .int .i64 a4, .int .i64 a5, .slice none 0 0]] w fun e w' => e = .returned (.agg #[.int .i64 12, .int .i64 0, .int .i64 0, .slice none 0 0]) ∧ Grow w w' := by
  have hb6 := Blk.new (w.alloc (.cells #[.int .i64 a1, .int .i64 a2, .int .i64 a3, .int .i64 a4, .int .i64 a5, .slice none 0 0] 30)) 27 [.int .i64 0, .int .i64 0, .int .i64 0, .slice none 0 0]
  have hs5 : (w.alloc (.cells #[.int .i64 a1, .int .i64 a2, .int .i64 a3, .int .i64 a4, .int .i64 a5, .slice none 0 0] 30)).heap.size = w.heap.size + 1 := by simp
  rw [hs5] at hb6
  have hg : Grow w ((w.alloc (.cells #[.int .i64 a1, .int .i64 a2, .int .i64 a3, .int .i64 a4, .int .i64 a5, .slice none 0 0] 30)).alloc (.cells #[.int .i64 0, .int .i64 0, .int .i64 0, .slice none 0 0] 27)) := ((Kept.refl _ _).alloc _).alloc _
  have HB := Lib.hid hb6
  have HG0 := Lib.hid hg
  have HS5 := Lib.hid hs5
  clear hb6 hg hs5
  go_enter Tryz.func13, Tryz.ntmps13
  go_upto_region 1 with (fail)
  rw [HS5.out] at *
  generalize (w.alloc (.cells #[.int .i64 a1, .int .i64 a2, .int .i64 a3, .int .i64 a4, .int .i64 a5, .slice none 0 0] 30)).alloc (.cells #[.int .i64 0, .int .i64 0, .int .i64 0, .slice none 0 0] 27) = w0 at *
  go_wp2_with (first
    | (go_at_call 39; (with_reducible refine (code_any _ _).mono ?_); rintro e wz ⟨rfl, hg⟩; have HG := Lib.hid hg; have HBZ := Lib.hid (HB.out.grow hg); clear hg)
    | (refine wpList_store_row rfl 27 _ _ rfl (w.heap.size + 1) #[.int .i64 12, .int .i64 0, .int .i64 0, .slice none 0 0] rfl rfl _ _ HBZ.out MdC.res_size rfl (by simp [Value.oneCell']) ?_))
  have HR := Lib.hid (set_row HBZ.out #[.int .i64 12, .int .i64 0, .int .i64 0, .slice none 0 0])
  refine MdC.ret_res (g := w.heap.size + 1) rfl rfl HR.out.1 rfl ?_
  exact ⟨rfl, (HG0.out.trans HG.out).then HR.out.2 fun i hi e => by omega⟩
end
end Go.Proofs.YtbnkpnllgoghnaaGreat.RgQ

namespace Go.Proofs.YtbnkpnllgoghnaaGreat.Told16
open Go.ChangeShapes Go.WideShapes Go.ChangeAt Go.RowKit
open Go.Proofs.YtbnkpnllgoghnaaGreat.Mem Go.Proofs.YtbnkpnllgoghnaaGreat.Blk Go.Proofs.YtbnkpnllgoghnaaGreat.Cells Go.Proofs.YtbnkpnllgoghnaaGreat.Orow Go.Proofs.YtbnkpnllgoghnaaGreat.RfP Go.Proofs.YtbnkpnllgoghnaaGreat.RgP Go.Proofs.YtbnkpnllgoghnaaGreat.RgS Go.Proofs.YtbnkpnllgoghnaaGreat.RgV Go.Proofs.YtbnkpnllgoghnaaGreat.RgQ
open Go.Proofs.YtbnkpnllgoghnaaGreat.MdM (Md MdOp Re)
open Go.Proofs.YtbnkpnllgoghnaaGreat.RfM (Pl)
def s0 : Pl := RfM.fresh 3 1 1
def s1 : Pl := (s0.run 0 ⟨1, 0, 0, 0, 0, []⟩).2
def s2 : Pl := (s1.run 0 ⟨1, 0, 0, 0, 0, []⟩).2
def s3 : Pl := (s2.run 0 ⟨4, 0, 0, 0, 0, [120]⟩).2
def s4 : Pl := (s3.run 0 ⟨5, 0, 0, 0, 0, []⟩).2
def s5 : Pl := (s4.run 0 ⟨1, 0, 0, 0, 0, []⟩).2
def s6 : Pl := (s5.run 0 ⟨5, 0, 0, 0, 0, []⟩).2
def s7 : Pl := (s6.run 0 ⟨2, 0, 0, 0, 0, []⟩).2
def s8 : Pl := (s7.run 0 ⟨3, 0, 0, 0, 1, []⟩).2
theorem re_eq {a b : Re} (h : a.c = b.c ∧ a.p = b.p ∧ a.h = b.h ∧ a.d = b.d) : a = b := by
  obtain ⟨c, p, h', d⟩ := a
  obtain ⟨h1, h2, h3, h4⟩ := h
  simp only at h1 h2 h3 h4
  rw [h1, h2, h3, h4]
set_option maxRecDepth 100000 in
theorem r1 : (s0.run 0 ⟨1, 0, 0, 0, 0, []⟩).1 = ⟨0, 0, 0, []⟩ := re_eq (by decide +kernel)
set_option maxRecDepth 100000 in
theorem r2 : (s1.run 0 ⟨1, 0, 0, 0, 0, []⟩).1 = ⟨8, 0, 0, []⟩ := re_eq (by decide +kernel)
set_option maxRecDepth 100000 in
theorem r3 : (s2.run 0 ⟨4, 0, 0, 0, 0, [120]⟩).1 = ⟨0, 0, 0, []⟩ := re_eq (by decide +kernel)
set_option maxRecDepth 100000 in
theorem r4 : (s3.run 0 ⟨5, 0, 0, 0, 0, []⟩).1 = ⟨0, 0, 0, []⟩ := re_eq (by decide +kernel)
set_option maxRecDepth 100000 in
theorem r5 : (s4.run 0 ⟨1, 0, 0, 0, 0, []⟩).1 = ⟨0, 1, 0, []⟩ := re_eq (by decide +kernel)
set_option maxRecDepth 100000 in
theorem r6 : (s5.run 0 ⟨5, 0, 0, 0, 0, []⟩).1 = ⟨0, 0, 0, []⟩ := re_eq (by decide +kernel)
set_option maxRecDepth 100000 in
theorem r7 : (s6.run 0 ⟨2, 0, 0, 0, 0, []⟩).1 = ⟨0, 0, 0, []⟩ := re_eq (by decide +kernel)
set_option maxRecDepth 100000 in
theorem r8 : (s7.run 0 ⟨3, 0, 0, 0, 1, []⟩).1 = ⟨0, 0, 0, [120]⟩ := re_eq (by decide +kernel)
set_option maxRecDepth 100000 in
theorem waits5 : Dev.waitL s5.D s5.D.N = [0] := by decide +kernel
set_option maxRecDepth 100000 in
theorem ends8 : s8.A.n = 1 ∧ s8.L = [0] ∧ orderL s8.A.F s8.L = [0] ∧ thereL s8.X.T s8.X.n = [0, 1] := by decide +kernel
section
variable {w : World}
theorem field_res (w : World) (x y z v : Value) : (Instr.field 27 (.agg #[x, y, z, v]) 0).run Tryz.prog w = .ok x w := by
  simp [Instr.field, asAgg, part, isAgg, run_underlying Tryz.underlying27, run_underlying Tryz.underlying3]
theorem sl_const (w : World) : Sl (w.alloc (.cells #[.int .u8 120] 5 (1, 2))) (w.alloc (.cells #[.int .u8 120] 5 (1, 2))).heap.size .u8 (some ⟨w.heap.size, 0, none⟩) 1 [120] :=
  ⟨rfl, fun _ => ⟨w.heap.size, 0, rfl, by simp, fun j hj => by
    obtain rfl : j = 0 := by omega
    rw [cell_of_row _ _ _ _ _ _ (heap_alloc_new w _)]
    rfl⟩⟩
set_option maxRecDepth 100000 in
set_option maxHeartbeats 4000000 in
theorem told_any (w : World) : Calls Tryz.prog 11 #[] w fun e w' => e = .returned (.bool true) ∧ Grow w w' := by
  have HNEW := Lib.hid (pnew 3 1 1 (by decide) (by decide) (by decide) (by decide) (by decide) (by decide) w)
  simp only [Int.cast_ofNat_Int] at HNEW
  go_enter Tryz.func11, Tryz.ntmps11
  go_upto_region 2 with (go_at_call 12; (with_reducible refine HNEW.out.mono ?_); rintro e w0 ⟨ν, c0, rfl, hp, hg, hz⟩; have HDK := Lib.hid (disk_any hp.m); have HP0 : Hid (PAt w0 c0 ν s0 0) := hp; have HG0 := Lib.hid hg; have HZ0 := Lib.hid hz; clear hp hg hz)
  go_upto_region 4 with (go_at_call 17; (with_reducible refine HDK.out.mono ?_); rintro e w1 ⟨rfl, rfl⟩)
  have HW0 : Hid (Went w0 c0 w0 c0) := Went.refl _ _
  have HB0 : Hid (Boxes w0 c0 []) := Boxes.nil _ _
  have HDO := Lib.hid (pdo0 (p' := s1) HP0.out (by decide) (by decide) r1 rfl)
  go_upto_region 5 with (first
    | (go_at_call 13; (with_reducible refine HDO.out.mono ?_); rintro e v1 ⟨A1, n1, k1, d1, rfl, hd, _, _, hw, hp⟩; have HPX := Lib.hid hp; have HD1 := Lib.hid hd; have HWY := Lib.hid (HW0.out.trans hw); have HBY := Lib.hid (HB0.out.went hw); have HLW := Lib.hid hw; obtain ⟨w1, hv, hg, hb, hb0⟩ := box_res v1 d1 #[.int .i64 0, .int .i64 0, .int .i64 0, .slice A1 n1 k1]; have HV := Lib.hid hv; have HGB := Lib.hid hg; have HBB := Lib.hid hb; have HZZ := Lib.hid hb0; clear hd hw hp hv hg hb hb0)
    | (refine wpList_store_row rfl 27 _ _ rfl v1.heap.size #[.int .i64 0, .int .i64 0, .int .i64 0, .slice A1 n1 k1] rfl rfl _ _ HZZ.out MdC.res_size rfl (by simp [Value.oneCell']) ?_))
  rw [HV.out]
  obtain ⟨c1, hcn⟩ : ∃ c1, paint v1.heap.size 0 d1 = c1 := ⟨_, rfl⟩
  have HP1 := Lib.hid (HPX.out.grow HGB.out)
  have HW1 := Lib.hid (HWY.out.trans (Went.grow HGB.out))
  have HB1 := Lib.hid (HBY.out.add HGB.out HBB.out)
  have HLX := Lib.hid (HLW.out.trans (Went.grow (col := d1) HGB.out))
  rw [hcn] at HP1 HW1 HB1 HLX
  generalize v1.heap.size = g1 at HB1 ⊢
  clear HV HGB HBB HZZ HPX HWY HBY HLW HDO hcn
  have HDO := Lib.hid (pdo0 (p' := s2) HP1.out (by decide) (by decide) r2 rfl)
  go_upto_region 6 with (first
    | (go_at_call 13; (with_reducible refine HDO.out.mono ?_); rintro e v2 ⟨A2, n2, k2, d2, rfl, hd, _, _, hw, hp⟩; have HPX := Lib.hid hp; have HD2 := Lib.hid hd; have HWY := Lib.hid (HW1.out.trans hw); have HBY := Lib.hid (HB1.out.went hw); have HLW := Lib.hid hw; obtain ⟨w2, hv, hg, hb, hb0⟩ := box_res v2 d2 #[.int .i64 8, .int .i64 0, .int .i64 0, .slice A2 n2 k2]; have HV := Lib.hid hv; have HGB := Lib.hid hg; have HBB := Lib.hid hb; have HZZ := Lib.hid hb0; clear hd hw hp hv hg hb hb0)
    | (refine wpList_store_row rfl 27 _ _ rfl v2.heap.size #[.int .i64 8, .int .i64 0, .int .i64 0, .slice A2 n2 k2] rfl rfl _ _ HZZ.out MdC.res_size rfl (by simp [Value.oneCell']) ?_))
  rw [HV.out]
  obtain ⟨c2, hcn⟩ : ∃ c2, paint v2.heap.size 0 d2 = c2 := ⟨_, rfl⟩
  have HP2 := Lib.hid (HPX.out.grow HGB.out)
  have HW2 := Lib.hid (HWY.out.trans (Went.grow HGB.out))
  have HB2 := Lib.hid (HBY.out.add HGB.out HBB.out)
  have HLX := Lib.hid (HLW.out.trans (Went.grow (col := d2) HGB.out))
  rw [hcn] at HP2 HW2 HB2 HLX
  generalize v2.heap.size = g2 at HB2 ⊢
  clear HV HGB HBB HZZ HPX HWY HBY HLW HDO hcn
  have hgx : Grow w2 (w2.alloc (.cells #[.int .u8 120] 5 (1, 2))) := (Kept.refl _ _).alloc _
  have HDO := Lib.hid (pdo_is (dc := 1) (p' := s3) (HP2.out.grow hgx) (sl_const w2) (by decide) (by decide) (fun c hc => by simp at hc; omega) (by decide) r3 rfl)
  have hcv := fun (w : World) (C : Array Value) (n c : Nat) => Lib.run_convert_bytes_const w 22 5 C n c Tryz.underlying22 Tryz.underlying5
  have HWX := Lib.hid (HW2.out.trans (Went.grow (col := c2) hgx))
  have HBX := Lib.hid (HB2.out.went (Went.grow (col := c2) hgx))
  clear hgx
  go_upto_region 7 with (first
    | (simp only [])
    | (go_at_call 13; (with_reducible refine HDO.out.mono ?_); rintro e w3 ⟨A3, n3, k3, c3, rfl, hd, _, _, hw, hp⟩; have HP3 := Lib.hid hp; have HD3 := Lib.hid hd; have HW3 := Lib.hid (HWX.out.trans hw); have HB3 := Lib.hid (HBX.out.went hw); have HLX := Lib.hid hw; clear hd hw hp))
  clear HDO hcv
  clear HWX HBX
  have HDO := Lib.hid (pdo0 (p' := s4) HP3.out (by decide) (by decide) r4 rfl)
  go_upto_region 8 with (go_at_call 13; (with_reducible refine HDO.out.mono ?_); rintro e w4 ⟨A4, n4, k4, c4, rfl, hd, _, _, hw, hp⟩; have HP4 := Lib.hid hp; have HD4 := Lib.hid hd; have HW4 := Lib.hid (HW3.out.trans hw); have HB4 := Lib.hid (HB3.out.went hw); have HLX := Lib.hid hw; clear hd hw hp)
  clear HDO
  have HDO := Lib.hid (pdo0 (p' := s5) HP4.out (by decide) (by decide) r5 rfl)
  go_upto_region 9 with (first
    | (go_at_call 13; (with_reducible refine HDO.out.mono ?_); rintro e v5 ⟨A5, n5, k5, d5, rfl, hd, _, _, hw, hp⟩; have HPX := Lib.hid hp; have HD5 := Lib.hid hd; have HWY := Lib.hid (HW4.out.trans hw); have HBY := Lib.hid (HB4.out.went hw); have HLW := Lib.hid hw; obtain ⟨w5, hv, hg, hb, hb0⟩ := box_res v5 d5 #[.int .i64 0, .int .i64 1, .int .i64 0, .slice A5 n5 k5]; have HV := Lib.hid hv; have HGB := Lib.hid hg; have HBB := Lib.hid hb; have HZZ := Lib.hid hb0; clear hd hw hp hv hg hb hb0)
    | (refine wpList_store_row rfl 27 _ _ rfl v5.heap.size #[.int .i64 0, .int .i64 1, .int .i64 0, .slice A5 n5 k5] rfl rfl _ _ HZZ.out MdC.res_size rfl (by simp [Value.oneCell']) ?_))
  rw [HV.out]
  obtain ⟨c5, hcn⟩ : ∃ c5, paint v5.heap.size 0 d5 = c5 := ⟨_, rfl⟩
  have HP5 := Lib.hid (HPX.out.grow HGB.out)
  have HW5 := Lib.hid (HWY.out.trans (Went.grow HGB.out))
  have HB5 := Lib.hid (HBY.out.add HGB.out HBB.out)
  have HLX := Lib.hid (HLW.out.trans (Went.grow (col := d5) HGB.out))
  rw [hcn] at HP5 HW5 HB5 HLX
  generalize v5.heap.size = g5 at HB5 ⊢
  clear HV HGB HBB HZZ HPX HWY HBY HLW HDO hcn
  have HDK := Lib.hid (disk_any HP5.out.m)
  have HWT := Lib.hid (DevY.waits_any HP5.out.m.dev)
  rw [waits5] at HWT
  go_upto_region 10 with (first
    | (go_at_call 17; (with_reducible refine HDK.out.mono ?_); rintro e wx ⟨rfl, rfl⟩)
    | (go_at_call 31; (with_reducible refine HWT.out.mono ?_); rintro e wq ⟨AW, nW, cW, rfl, hs, hA, hg⟩; have HGQ := Lib.hid hg; have HSW := Lib.hid (Dt.fresh (col := c5) hs fun _ => hA); clear hs hA hg))
  have hnw : nW = 1 := HSW.out.s.len.symm
  subst hnw
  have HPQ := Lib.hid (HP5.out.grow HGQ.out)
  have HWQ := Lib.hid (HW5.out.trans (Went.grow HGQ.out))
  have HBQ := Lib.hid (HB5.out.went (Went.grow HGQ.out))
  generalize paint w5.heap.size 0 c5 = cq at *
  clear HDK HWT
  have HP6 := HPQ
  have HW6 := HWQ
  have HB6 := HBQ
  clear HPQ HWQ HBQ
  obtain ⟨w6, hwn⟩ : ∃ w6, w6 = wq := ⟨_, rfl⟩
  obtain ⟨c6, hcn⟩ : ∃ c6, c6 = cq := ⟨_, rfl⟩
  rw [← hwn, ← hcn] at HP6 HW6 HB6 HSW
  rw [← hwn]
  clear hwn hcn
  have HDO := Lib.hid (pdo0 (p' := s6) HP6.out (by decide) (by decide) r6 rfl)
  go_upto_region 11 with (go_at_call 13; (with_reducible refine HDO.out.mono ?_); rintro e w7 ⟨A7, n7, k7, c7, rfl, hd, _, _, hw, hp⟩; have HP7 := Lib.hid hp; have HD7 := Lib.hid hd; have HW7 := Lib.hid (HW6.out.trans hw); have HB7 := Lib.hid (HB6.out.went hw); have HLX := Lib.hid hw; clear hd hw hp)
  clear HDO
  have HSW := Lib.hid (HSW.out.went HLX.out)
  have HDO := Lib.hid (pdo0 (p' := s7) HP7.out (by decide) (by decide) r7 rfl)
  go_upto_region 12 with (first
    | (go_at_call 13; (with_reducible refine HDO.out.mono ?_); rintro e v8 ⟨A8, n8, k8, d8, rfl, hd, _, _, hw, hp⟩; have HPX := Lib.hid hp; have HD8 := Lib.hid hd; have HWY := Lib.hid (HW7.out.trans hw); have HBY := Lib.hid (HB7.out.went hw); have HLW := Lib.hid hw; obtain ⟨w8, hv, hg, hb, hb0⟩ := box_res v8 d8 #[.int .i64 0, .int .i64 0, .int .i64 0, .slice A8 n8 k8]; have HV := Lib.hid hv; have HGB := Lib.hid hg; have HBB := Lib.hid hb; have HZZ := Lib.hid hb0; clear hd hw hp hv hg hb hb0)
    | (refine wpList_store_row rfl 27 _ _ rfl v8.heap.size #[.int .i64 0, .int .i64 0, .int .i64 0, .slice A8 n8 k8] rfl rfl _ _ HZZ.out MdC.res_size rfl (by simp [Value.oneCell']) ?_))
  rw [HV.out]
  obtain ⟨c8, hcn⟩ : ∃ c8, paint v8.heap.size 0 d8 = c8 := ⟨_, rfl⟩
  have HP8 := Lib.hid (HPX.out.grow HGB.out)
  have HW8 := Lib.hid (HWY.out.trans (Went.grow HGB.out))
  have HB8 := Lib.hid (HBY.out.add HGB.out HBB.out)
  have HLX := Lib.hid (HLW.out.trans (Went.grow (col := d8) HGB.out))
  rw [hcn] at HP8 HW8 HB8 HLX
  generalize v8.heap.size = g8 at HB8 ⊢
  clear HV HGB HBB HZZ HPX HWY HBY HLW HDO hcn
  have HSW := Lib.hid (HSW.out.went HLX.out)
  have HDO := Lib.hid (pdo0 (p' := s8) HP8.out (by decide) (by decide) r8 rfl)
  go_upto_region 13 with (first
    | (go_at_call 13; (with_reducible refine HDO.out.mono ?_); rintro e v9 ⟨A9, n9, k9, d9, rfl, hd, _, _, hw, hp⟩; have HPX := Lib.hid hp; have HD9 := Lib.hid hd; have HWY := Lib.hid (HW8.out.trans hw); have HBY := Lib.hid (HB8.out.went hw); have HLW := Lib.hid hw; obtain ⟨w9, hv, hg, hb, hb0⟩ := box_res v9 d9 #[.int .i64 0, .int .i64 0, .int .i64 0, .slice A9 n9 k9]; have HV := Lib.hid hv; have HGB := Lib.hid hg; have HBB := Lib.hid hb; have HZZ := Lib.hid hb0; clear hd hw hp hv hg hb hb0)
    | (refine wpList_store_row rfl 27 _ _ rfl v9.heap.size #[.int .i64 0, .int .i64 0, .int .i64 0, .slice A9 n9 k9] rfl rfl _ _ HZZ.out MdC.res_size rfl (by simp [Value.oneCell']) ?_))
  rw [HV.out]
  obtain ⟨c9, hcn⟩ : ∃ c9, paint v9.heap.size 0 d9 = c9 := ⟨_, rfl⟩
  have HP9 := Lib.hid (HPX.out.grow HGB.out)
  have HW9 := Lib.hid (HWY.out.trans (Went.grow HGB.out))
  have HB9 := Lib.hid (HBY.out.add HGB.out HBB.out)
  have HLX := Lib.hid (HLW.out.trans (Went.grow (col := d9) HGB.out))
  have HDD := Lib.hid (HD9.out.grow HGB.out)
  rw [hcn] at HP9 HW9 HB9 HLX HDD
  generalize v9.heap.size = g9 at HB9 ⊢
  clear HV HGB HBB HZZ HPX HWY HBY HLW HDO hcn
  have HSW := Lib.hid (HSW.out.went HLX.out)
  have hbb := HB9.out
  have b1 := (hbb.get (b := (g1, [.int .i64 0, .int .i64 0, .int .i64 0, .slice A1 n1 k1])) (by simp)).cell 0
  have b2 := (hbb.get (b := (g2, [.int .i64 8, .int .i64 0, .int .i64 0, .slice A2 n2 k2])) (by simp)).cell 0
  have b5 := (hbb.get (b := (g5, [.int .i64 0, .int .i64 1, .int .i64 0, .slice A5 n5 k5])) (by simp)).cell 0
  have b5p := (hbb.get (b := (g5, [.int .i64 0, .int .i64 1, .int .i64 0, .slice A5 n5 k5])) (by simp)).cell 1
  have b8 := (hbb.get (b := (g8, [.int .i64 0, .int .i64 0, .int .i64 0, .slice A8 n8 k8])) (by simp)).cell 0
  have b9 := (hbb.get (b := (g9, [.int .i64 0, .int .i64 0, .int .i64 0, .slice A9 n9 k9])) (by simp)).cell 3
  simp only [List.getElem?_cons_succ, List.getElem?_cons_zero] at b1 b2 b5 b5p b8 b9
  clear hbb
  obtain ⟨AW', offW, rfl, _, hw0⟩ := HSW.out.s.at_ (by decide)
  have hw0 := hw0 0 (by decide)
  have hst := HDD.out.s.str (P := Tryz.prog) 22 9 5 Tryz.underlying22 Tryz.underlying5 Tryz.underlying9 k9
  rw [show strOfNums [120] = ({ data := #[120] } : ByteArray) from rfl] at hst
  obtain ⟨q1, q2, q3, q4⟩ := ends8
  have CF : Hid (∀ wx, Grow w9 wx → Calls Tryz.prog 14 #[.pointer (some ⟨ν.r, 0, none⟩)] wx (OwnFrames wx s8.A)) := fun wx hg => pframes (HP9.out.grow hg)
  have CO : Hid (∀ wx, Grow w9 wx → Calls Tryz.prog 33 #[.pointer (some ⟨ν.r, 0, none⟩)] wx (IntsAre wx [0])) := fun wx hg => by have h := porder (HP9.out.grow hg); rw [q3] at h; exact ints_are h (by decide)
  have CT : Hid (∀ wx, Grow w9 wx → Calls Tryz.prog 15 #[.pointer (some ⟨ν.r, 0, none⟩)] wx (IntsAre wx [0, 1])) := fun wx hg => by have h := pthere (HP9.out.grow hg); rw [q4] at h; exact ints_are h (by decide)
  have CN := fun wx => Lib.hid (RgL.new_bad 0 1 1 (by decide) wx)
  have HQ1 := Lib.hid q1
  have HGE := Lib.hid (new_grow HG0.out HZ0.out HW9.out)
  clear q1 q2 q3 q4
  go_upto_region 14 with (fail)
  have hfl := field_res
  try simp only [List.append]
  go_wp2_with (first
    | (go_at_call 14; (with_reducible refine (CF.out _ (Kept.refl _ _)).mono ?_); rintro e x1 ⟨gf, cf, rfl, hfr, _, hg⟩; rw [HQ1.out]; have HX1 := Lib.hid hg; clear hfr hg)
    | (go_at_call 33; (with_reducible refine (CO.out _ HX1.out).mono ?_); rintro e x2 ⟨g2', cc2, rfl, _, _, hc2, _, hg⟩; have HX2 := Lib.hid (HX1.out.trans hg); clear hc2 hg HX1)
    | (go_at_call 33; (with_reducible refine (CO.out _ HX2.out).mono ?_); rintro e x3 ⟨g3', cc3, rfl, _, _, hc3, _, hg⟩; have HX3 := Lib.hid (HX2.out.trans hg); have hc3 := hc3 0 (by decide); clear hg HX2)
    | (go_at_call 15; (with_reducible refine (CT.out _ HX3.out).mono ?_); rintro e x4 ⟨g4', cc4, rfl, _, _, hc4, _, hg⟩; have HX4 := Lib.hid (HX3.out.trans hg); clear hc4 hg HX3)
    | (go_at_call 12; (with_reducible refine (CN _).out.mono ?_); rintro e x5 ⟨rfl, rfl⟩)
    | (go_at_call 13; (with_reducible refine (do_nil _ _ _ _ _ _ _).mono ?_); rintro e x6 ⟨rfl, hg⟩; have HX6 := Lib.hid (HX4.out.trans hg); clear hg HX4)
    | (go_at_call 17; (with_reducible refine (disk_nil _).mono ?_); rintro e x7 ⟨rfl, rfl⟩)
    | (simp only []))
  go_ret
  exact ⟨rfl, HGE.out.trans HX6.out⟩
end
end Go.Proofs.YtbnkpnllgoghnaaGreat.Told16

namespace Go.Proofs.YtbnkpnllgoghnaaGreat.Calls13
open Go.ChangeShapes Go.WideShapes Go.ChangeAt Go.RowKit Go.Deep
open Go.Proofs.YtbnkpnllgoghnaaGreat.Mem Go.Proofs.YtbnkpnllgoghnaaGreat.Blk Go.Proofs.YtbnkpnllgoghnaaGreat.MdM
def num : Value → Int
  | .int _ z => z
  | _ => 0
/-- A slice of bytes as it comes in. -/
def BytesAt (w : World) (A : Option Addr) (len cap : Nat) : Prop := ∃ d, Sl w w.heap.size .u8 A len d ∧ Bytes d ∧ len ≤ cap ∧ cap ≤ maxLen
/-- A call: its client, its parts; its data is A, len, cap. -/
structure CallV where
  c : Int
  k : Int
  p : Int
  h : Int
  o : Int
  n : Int
  A : Option Addr
  len : Nat
  cap : Nat
/-- The seven cells of a call, from offset q of block b on. -/
structure CallAt (w : World) (b q : Nat) (x : CallV) : Prop where
  c : w.cell? ⟨b, q, none⟩ = some (.int .i64 x.c)
  k : w.cell? ⟨b, q + 1, none⟩ = some (.int .i64 x.k)
  p : w.cell? ⟨b, q + 2, none⟩ = some (.int .i64 x.p)
  h : w.cell? ⟨b, q + 3, none⟩ = some (.int .i64 x.h)
  o : w.cell? ⟨b, q + 4, none⟩ = some (.int .i64 x.o)
  n : w.cell? ⟨b, q + 5, none⟩ = some (.int .i64 x.n)
  d : w.cell? ⟨b, q + 6, none⟩ = some (.slice x.A x.len x.cap)
  da : BytesAt w x.A x.len x.cap
  oB : -9223372036854775808 ≤ x.o ∧ x.o ≤ 9223372036854775807
/-- The calls. -/
def CallsAt (w : World) (A : Option Addr) (len cap : Nat) : Prop :=
  len ≤ cap ∧ cap ≤ maxLen ∧ (0 < len → ∃ b off, A = some ⟨b, off, none⟩ ∧ b < w.heap.size ∧ ∀ i, i < len → ∃ x, CallAt w b (off + i * 7) x)
section
variable {H : Type} {enc : TypeId × Value → H} {w : World} {base : Nat} {spare : Nat → Bool} {held : Bool}
theorem bytes_open {A : Option Addr} {len cap fuel : Nat} {x : DataW H × List MemPlace} (h : DataW.trod enc Tryz.prog w base spare held fuel 22 [.slice A len cap] = some x) : BytesAt w A len cap := by
  have hc1 : Tryz.prog.cellsOf 5 = 1 := by kernel_rfl
  rcases open_slice1 Tryz.underlying22 hc1 h with ⟨h0, _⟩ | ⟨a, l, c, m, n, V, D, Pl, hcs, _, hl, hm, hmm, _, hi⟩
  · simp at h0
    obtain ⟨rfl, rfl, rfl⟩ := h0
    exact ⟨[], Sl.nil _ _ _ _, (fun _ h => by cases h), Nat.le_refl _, Nat.zero_le _⟩
  · simp at hcs
    obtain ⟨rfl, rfl, rfl⟩ := hcs
    have hlm : len ≤ m := by rw [hmm]; split <;> omega
    have key : ∀ i, i < len → ∃ z : Int, V i = .int .u8 z ∧ 0 ≤ z ∧ z < 256 := fun i hil => by
      obtain ⟨_, ht⟩ := hi i (by omega)
      obtain ⟨z, e, _, wz⟩ := DataW.trod_int Tryz.underlying5 ht
      have bz := bounds_u8 wz
      simp at e
      exact ⟨z, e, by omega, by omega⟩
    obtain ⟨f, hf⟩ : ∃ f : Nat → Int, ∀ i, i < len → V i = .int .u8 (f i) ∧ 0 ≤ f i ∧ f i < 256 := by
      refine ⟨fun i => num (V i), fun i hil => ?_⟩
      obtain ⟨z, e, h1, h2⟩ := key i hil
      show V i = .int .u8 (num (V i)) ∧ 0 ≤ num (V i) ∧ num (V i) < 256
      rw [e]
      exact ⟨rfl, h1, h2⟩
    refine ⟨(List.range len).map f, ⟨by simp, fun h0 => ?_⟩, fun z hz => ?_, hl, hm⟩
    · obtain ⟨b, off, spot⟩ := a
      have a0 := (hi 0 (by omega)).1
      have hspot : spot = none := by simpa [Addr.add] using World.cell?_spot a0
      subst hspot
      have ea : ∀ q, (⟨b, off, none⟩ : Addr).add q = ⟨b, off + q, none⟩ := fun q => by unfold Addr.add; split <;> simp_all
      rw [ea] at a0
      refine ⟨b, off, rfl, block_lt_of_cell a0, fun j hj => ?_⟩
      have aj := (hi j (by omega)).1
      rw [ea] at aj
      rw [aj, (hf j hj).1]
      simp [List.getD_eq_getElem?_getD, hj]
    · obtain ⟨i, hi', rfl⟩ := List.mem_map.1 hz
      have := hf i (List.mem_range.1 hi')
      exact ⟨this.2.1, this.2.2⟩
set_option maxRecDepth 4000 in
theorem calls_open {A : Option Addr} {len cap fuel : Nat} {x : DataW H × List MemPlace} (h : DataW.trod enc Tryz.prog w base spare held fuel 38 [.slice A len cap] = some x) : CallsAt w A len cap := by
  rcases open_slice Tryz.underlying38 h with ⟨h0, _⟩ | ⟨a, l, c, m, n, D, Pl, hcs, _, hl, hm, hmm, _, hi⟩
  · simp at h0
    obtain ⟨rfl, rfl, rfl⟩ := h0
    exact ⟨Nat.le_refl _, Nat.zero_le _, fun h => absurd h (by omega)⟩
  · simp at hcs
    obtain ⟨rfl, rfl, rfl⟩ := hcs
    have hlm : len ≤ m := by rw [hmm]; split <;> omega
    have hc5 : Tryz.prog.cellsOf 57 = 7 := by kernel_rfl
    refine ⟨hl, hm, fun h0 => ?_⟩
    obtain ⟨b, off, spot⟩ := a
    have hspot : spot = none := by
      obtain ⟨cs', hc, _⟩ := hi 0 (by omega)
      rw [hc5] at hc
      obtain ⟨_, hcl, hat⟩ := World.cells?_some hc
      have a0 := hat 0 (by omega)
      rw [List.getElem?_eq_getElem (by omega)] at a0
      simpa [Addr.add] using World.cell?_spot a0
    subst hspot
    have key : ∀ i, i < len → b < w.heap.size ∧ ∃ x, CallAt w b (off + i * 7) x := by
      intro i hil
      obtain ⟨cs', hc, ht⟩ := hi i (by omega)
      rw [hc5] at hc
      obtain ⟨_, hcl, hat⟩ := World.cells?_some hc
      obtain ⟨ys, n', _, _, _, hyl, hf⟩ := DataW.trod_struct Tryz.underlying57 ht
      have ci : Tryz.prog.cellsOf 3 = 1 := by kernel_rfl
      have co : Tryz.prog.cellsOf 30 = 6 := by kernel_rfl
      have cb : Tryz.prog.cellsOf 22 = 1 := by kernel_rfl
      match cs', hcl, ys, hyl with
      | [v0, v1, v2, v3, v4, v5, v6], _, [y0, y1], _ =>
        have q0 : DataW.trod enc Tryz.prog w base spare held n' 3 (([v0, v1, v2, v3, v4, v5, v6].drop 0).take (Tryz.prog.cellsOf 3)) = some y0 := hf 0 _ rfl
        have q1 : DataW.trod enc Tryz.prog w base spare held n' 30 (([v0, v1, v2, v3, v4, v5, v6].drop 1).take (Tryz.prog.cellsOf 30)) = some y1 := hf 1 _ rfl
        rw [ci] at q0
        rw [co] at q1
        simp only [List.drop_zero, List.drop_succ_cons, List.take_succ_cons, List.take_zero] at q0 q1
        obtain ⟨zs, n'', _, _, _, hzl, hg⟩ := DataW.trod_struct Tryz.underlying30 q1
        match zs, hzl with
        | [u1, u2, u3, u4, u5, u6], _ =>
          have p1 : DataW.trod enc Tryz.prog w base spare held n'' 3 (([v1, v2, v3, v4, v5, v6].drop 0).take (Tryz.prog.cellsOf 3)) = some u1 := hg 0 _ rfl
          have p2 : DataW.trod enc Tryz.prog w base spare held n'' 3 (([v1, v2, v3, v4, v5, v6].drop 1).take (Tryz.prog.cellsOf 3)) = some u2 := hg 1 _ rfl
          have p3 : DataW.trod enc Tryz.prog w base spare held n'' 3 (([v1, v2, v3, v4, v5, v6].drop 2).take (Tryz.prog.cellsOf 3)) = some u3 := hg 2 _ rfl
          have p4 : DataW.trod enc Tryz.prog w base spare held n'' 3 (([v1, v2, v3, v4, v5, v6].drop 3).take (Tryz.prog.cellsOf 3)) = some u4 := hg 3 _ rfl
          have p5 : DataW.trod enc Tryz.prog w base spare held n'' 3 (([v1, v2, v3, v4, v5, v6].drop 4).take (Tryz.prog.cellsOf 3)) = some u5 := hg 4 _ rfl
          have p6 : DataW.trod enc Tryz.prog w base spare held n'' 22 (([v1, v2, v3, v4, v5, v6].drop 5).take (Tryz.prog.cellsOf 22)) = some u6 := hg 5 _ rfl
          rw [ci] at p1 p2 p3 p4 p5
          rw [cb] at p6
          simp only [List.drop_zero, List.drop_succ_cons, List.take_succ_cons, List.take_zero] at p1 p2 p3 p4 p5 p6
          obtain ⟨z0, e0, _, w0⟩ := DataW.trod_int Tryz.underlying3 q0
          obtain ⟨z1, e1, _, w1⟩ := DataW.trod_int Tryz.underlying3 p1
          obtain ⟨z2, e2, _, w2⟩ := DataW.trod_int Tryz.underlying3 p2
          obtain ⟨z3, e3, _, w3⟩ := DataW.trod_int Tryz.underlying3 p3
          obtain ⟨z4, e4, _, w4⟩ := DataW.trod_int Tryz.underlying3 p4
          obtain ⟨z5, e5, _, w5⟩ := DataW.trod_int Tryz.underlying3 p5
          have b4 := bounds_i64 w4
          have hsl : ∃ A' l' c', v6 = .slice A' l' c' := by
            rcases open_slice Tryz.underlying22 p6 with ⟨h0, _⟩ | ⟨a, l, c, m, n, D, Pl, hcs, _⟩
            · simp at h0; exact ⟨_, _, _, h0⟩
            · simp at hcs; exact ⟨_, _, _, hcs⟩
          obtain ⟨A', l', c', rfl⟩ := hsl
          have hda := bytes_open p6
          simp at e0 e1 e2 e3 e4 e5
          subst e0 e1 e2 e3 e4 e5
          have a0 := hat 0 (by omega)
          have a1 := hat 1 (by omega)
          have a2 := hat 2 (by omega)
          have a3 := hat 3 (by omega)
          have a4 := hat 4 (by omega)
          have a5 := hat 5 (by omega)
          have a6 := hat 6 (by omega)
          simp only [List.getElem?_cons_zero, List.getElem?_cons_succ, add_add] at a0 a1 a2 a3 a4 a5 a6
          have hbl := block_lt_of_cell a0
          have ea : ∀ q, (⟨b, off, none⟩ : Addr).add q = ⟨b, off + q, none⟩ := fun q => by unfold Addr.add; split <;> simp_all
          rw [ea] at a0 a1 a2 a3 a4 a5 a6 hbl
          refine ⟨hbl, ⟨z0, z1, z2, z3, z4, z5, A', l', c'⟩, ?_⟩
          exact { c := by simpa using a0, k := by simpa [Nat.add_assoc] using a1, p := by simpa [Nat.add_assoc] using a2, h := by simpa [Nat.add_assoc] using a3, o := by simpa [Nat.add_assoc] using a4, n := by simpa [Nat.add_assoc] using a5, d := by simpa [Nat.add_assoc] using a6, da := hda, oB := b4 }
    exact ⟨b, off, rfl, (key 0 h0).1, fun i hi => (key i hi).2⟩
end
end Go.Proofs.YtbnkpnllgoghnaaGreat.Calls13

namespace Go.Proofs.YtbnkpnllgoghnaaGreat.MdK
open Go.ChangeShapes Go.WideShapes Go.ChangeAt Go.RowKit
open Go.Proofs.YtbnkpnllgoghnaaGreat.Mem Go.Proofs.YtbnkpnllgoghnaaGreat.Blk Go.Proofs.YtbnkpnllgoghnaaGreat.Cells Go.Proofs.YtbnkpnllgoghnaaGreat.Orow Go.Proofs.YtbnkpnllgoghnaaGreat.GrC Go.Proofs.YtbnkpnllgoghnaaGreat.MdM Go.Proofs.YtbnkpnllgoghnaaGreat.MdC Go.Proofs.YtbnkpnllgoghnaaGreat.MdR
/-- The pages' rows, behind j pages; the box is d. -/
structure Mk1 (w : World) (d j : Nat) (T : Nat → Bool) (Bs : Nat → List Int) (vT vB : Value) : Prop where
  bx : Blk w d 50 [vT, vB, .slice none 0 0]
  T : OS w (d + 1 ≤ ·) vT 4 1 j (tcell T)
  B : OS w (d + 1 ≤ ·) vB 9 1 j (bcell Bs)
  dis : ∀ x, vT.ownBlock = some x → vB.ownBlock ≠ some x
/-- The clients' rows too, behind k clients. -/
structure Mk2 (w : World) (d m2 n k : Nat) (T : Nat → Bool) (Bs : Nat → List Int) (H : Nat → Nat → Int) (vT vB vH : Value) (q cp : Nat → Nat) : Prop where
  bx : Blk w d 50 [vT, vB, vH]
  T : OS w (fun x => d + 1 ≤ x ∧ x < m2) vT 4 1 n (tcell T)
  B : OS w (fun x => d + 1 ≤ x ∧ x < m2) vB 9 1 n (bcell Bs)
  dis : ∀ x, vT.ownBlock = some x → vB.ownBlock ≠ some x
  H : Gr w (fun x => d + 1 ≤ x ∧ m2 ≤ x) vH k q cp H
section
variable {w w' x1 x2 x3 x4 : World} {d m2 j n k gT' gB' c2 c4 : Nat} {T : Nat → Bool} {Bs : Nat → List Int} {H : Nat → Nat → Int} {vT vB vH : Value} {q cp : Nat → Nat} {u2 u4 : Nat → Value}
theorem os_gr {t : TypeId} {s n : Nat} {G : Nat → Prop} {v : Value} {f : Nat → Value} (h : OS w G v t s n f) (hk : Grow w w') : OS w' G v t s n f := h.kept hk fun _ _ x => x
theorem os_keep {t : TypeId} {s n : Nat} {G F : Nat → Prop} {v : Value} {f : Nat → Value} (h : OS w G v t s n f) (hk : Kept F w w') (hF : ∀ k, v.ownBlock = some k → ¬ F k) : OS w' G v t s n f := by
  rcases h with h | ⟨g, cap, e, ho, hg⟩
  · exact .inl h
  · exact .inr ⟨g, cap, e, ho.kept hk (hF g (by rw [e]; rfl)), hg⟩
theorem Mk1.grow (h : Mk1 w d j T Bs vT vB) (hk : Grow w w') : Mk1 w' d j T Bs vT vB := ⟨h.bx.grow hk, os_gr h.T hk, os_gr h.B hk, h.dis⟩
theorem Mk2.grow (h : Mk2 w d m2 n k T Bs H vT vB vH q cp) (hk : Grow w w') : Mk2 w' d m2 n k T Bs H vT vB vH q cp := ⟨h.bx.grow hk, os_gr h.T hk, os_gr h.B hk, h.dis, h.H.kept hk fun _ _ x => x⟩
theorem Mk1.nil (hb : Blk w d 50 [.slice none 0 0, .slice none 0 0, .slice none 0 0]) : Mk1 w d 0 T Bs (.slice none 0 0) (.slice none 0 0) :=
  ⟨hb, .inl ⟨rfl, rfl⟩, .inl ⟨rfl, rfl⟩, fun x e => by cases e⟩
theorem Mk1.go (h : Mk1 w d n T Bs vT vB) : Mk2 w d w.heap.size n 0 T Bs H vT vB (.slice none 0 0) id id :=
  ⟨h.bx, os_mono h.T fun _ hk x => ⟨x, hk⟩, os_mono h.B fun _ hk x => ⟨x, hk⟩, h.dis, gr_nil _ _ _ _ _⟩
theorem Mk1.two (h : Mk1 w d j T Bs vT vB) (g1 : Grow w x1) (ho2 : OR x2 gT' 4 1 c2 (j + 1) (joined (tcell T) u2 (j * 1))) (e2 : u2 0 = .bool (T j)) (hk2 : Kept (fun k => vT.ownBlock = some k) x1 x2) (hb2 : vT.ownBlock = some gT' ∨ gT' = x1.heap.size)
    (g3 : Grow x2 x3) (ho4 : OR x4 gB' 9 1 c4 (j + 1) (joined (bcell Bs) u4 (j * 1))) (e4 : u4 0 = .string (strOfNums (Bs j))) (hk4 : Kept (fun k => vB.ownBlock = some k) x3 x4) (hb4 : vB.ownBlock = some gB' ∨ gB' = x3.heap.size) :
    Mk1 ((x4.setCell ⟨d, 0, none⟩ (.slice (some ⟨gT', 0, none⟩) (j + 1) c2)).setCell ⟨d, 1, none⟩ (.slice (some ⟨gB', 0, none⟩) (j + 1) c4)) d (j + 1) T Bs (.slice (some ⟨gT', 0, none⟩) (j + 1) c2) (.slice (some ⟨gB', 0, none⟩) (j + 1) c4) ∧
    Kept (d ≤ ·) w ((x4.setCell ⟨d, 0, none⟩ (.slice (some ⟨gT', 0, none⟩) (j + 1) c2)).setCell ⟨d, 1, none⟩ (.slice (some ⟨gB', 0, none⟩) (j + 1) c4)) ∧
    Blk x4 d 50 [vT, vB, .slice none 0 0] := by
  have hd := h.bx.lt
  have s1 := g1.size
  have s2 := hk2.size
  have s3 := g3.size
  have s4 := hk4.size
  have oT : ∀ k, vT.ownBlock = some k → d + 1 ≤ k ∧ k < w.heap.size := fun k e => os_in h.T e
  have oB : ∀ k, vB.ownBlock = some k → d + 1 ≤ k ∧ k < w.heap.size := fun k e => os_in h.B e
  have hgT : d + 1 ≤ gT' := by
    rcases hb2 with e | e
    · exact (oT _ e).1
    · omega
  have hgB : d + 1 ≤ gB' := by
    rcases hb4 with e | e
    · exact (oB _ e).1
    · omega
  have hTB : vB.ownBlock ≠ some gT' := fun e => by
    rcases hb2 with e2 | e2
    · exact h.dis _ e2 e
    · have := (oB _ e).2; omega
  have hne : gT' ≠ gB' := fun e => by
    rcases hb4 with e4 | e4
    · exact hTB (e ▸ e4)
    · have := ho2.lt; omega
  have hb : Blk x4 d 50 [vT, vB, .slice none 0 0] := (((h.bx.grow g1).kept hk2 (fun e => by have := (oT _ e).1; omega)).grow g3).kept hk4 (fun e => by have := (oB _ e).1; omega)
  have ks : Kept (fun k => k = d) x4 ((x4.setCell ⟨d, 0, none⟩ (.slice (some ⟨gT', 0, none⟩) (j + 1) c2)).setCell ⟨d, 1, none⟩ (.slice (some ⟨gB', 0, none⟩) (j + 1) c4)) := (kept_set x4 d 0 _).trans (kept_set _ d 1 _)
  have hT4 := (((ho2.kept g3 id).kept hk4 hTB).kept ks (fun e => by have e : gT' = d := e; omega))
  have hB4 := ho4.kept ks (fun e => by have e : gB' = d := e; omega)
  refine ⟨⟨(hb.set 0 _).set 1 _, .inr ⟨gT', c2, rfl, hT4.congr fun i hi => ?_, hgT⟩, .inr ⟨gB', c4, rfl, hB4.congr fun i hi => ?_, hgB⟩, fun x e e' => ?_⟩, ?_, hb⟩
  · unfold joined
    by_cases hi2 : i < j * 1
    · rw [if_pos hi2]
    · obtain rfl : i = j := by omega
      rw [if_neg hi2, show i - i * 1 = 0 by omega, e2]; rfl
  · unfold joined
    by_cases hi2 : i < j * 1
    · rw [if_pos hi2]
    · obtain rfl : i = j := by omega
      rw [if_neg hi2, show i - i * 1 = 0 by omega, e4]; rfl
  · injection e with e; injection e' with e'; exact hne (e.trans e'.symm)
  · exact ((((Grow.kept g1).trans (hk2.mono fun k _ e => by have := (oT k e).1; show d ≤ k; omega)).trans (Grow.kept g3)).trans (hk4.mono fun k _ e => by have := (oB k e).1; show d ≤ k; omega)).trans (ks.mono fun k _ (e : k = d) => by show d ≤ k; omega)
theorem Mk2.push {r c g cap : Nat} (h : Mk2 w d m2 n k T Bs H vT vB vH q cp) (hm : m2 ≤ w.heap.size) (hr : OR w r 3 1 c 6 (hcell (H k))) (hrm : d + 1 ≤ r ∧ m2 ≤ r) (hnr : ∀ i, i < k → q i ≠ r) (hvr : vH.ownBlock ≠ some r)
    (ho : OR w' g 33 1 cap (k + 1) (joined (scell q cp) (rcell r c) (k * 1))) (hk : Kept (fun x => vH.ownBlock = some x) w w') (hg : vH.ownBlock = some g ∨ g = w.heap.size) :
    Mk2 (w'.setCell ⟨d, 2, none⟩ (.slice (some ⟨g, 0, none⟩) (k + 1) cap)) d m2 n (k + 1) T Bs H vT vB (.slice (some ⟨g, 0, none⟩) (k + 1) cap) (up q k r) (up cp k c) ∧
    Kept (d ≤ ·) w (w'.setCell ⟨d, 2, none⟩ (.slice (some ⟨g, 0, none⟩) (k + 1) cap)) ∧ Blk w' d 50 [vT, vB, vH] := by
  have hd := h.bx.lt
  have oH : ∀ x, vH.ownBlock = some x → (d + 1 ≤ x ∧ m2 ≤ x) ∧ x < w.heap.size := fun x e => os_in h.H.out e
  have hgr := h.H.push hr hrm hnr hvr ho hk hg (fun x hx => ⟨by omega, by omega⟩)
  have hb : Blk w' d 50 [vT, vB, vH] := h.bx.kept hk (fun e => by have := (oH _ e).1; omega)
  have ks : Kept (fun x => x = d) w' (w'.setCell ⟨d, 2, none⟩ (.slice (some ⟨g, 0, none⟩) (k + 1) cap)) := kept_set w' d 2 _
  refine ⟨⟨hb.set 2 _, os_keep (os_keep h.T hk fun x e e' => ?_) ks fun x e e' => ?_, os_keep (os_keep h.B hk fun x e e' => ?_) ks fun x e e' => ?_, h.dis, hgr.kept ks fun x hx e => ?_⟩, ?_, hb⟩
  · have := (oH x e').1; have := (os_in h.T e).1; omega
  · have e' : x = d := e'; have := (os_in h.T e).1; omega
  · have := (oH x e').1; have := (os_in h.B e).1; omega
  · have e' : x = d := e'; have := (os_in h.B e).1; omega
  · have e : x = d := e; have := hx.1; omega
  · exact (hk.mono fun x _ e => by have := (oH x e).1; show d ≤ x; omega).trans (ks.mono fun x _ (e : x = d) => by show d ≤ x; omega)
theorem Mk2.at (h : Mk2 w d m2 n k T Bs H vT vB vH q cp) (hg : MdM.Good ⟨n, k, T, Bs, H⟩) : SAt w (d + 1 ≤ ·) (.agg #[vT, vB, vH]) ⟨n, k, T, Bs, H⟩ := by
  have hn := hg.n
  have hN := hg.N
  have hn : 0 < n := hn.1
  have hN : 0 < k := hN.1
  obtain ⟨gT, cT, rfl, oT, iT⟩ := h.T.form hn
  obtain ⟨gB, cB, rfl, oB, iB⟩ := h.B.form hn
  obtain ⟨gH, cH, rfl, oH, iH⟩ := h.H.out.form hN
  refine ⟨hg, gT, cT, gB, cB, gH, cH, q, cp, rfl, ⟨oT, oB, oH, h.H.row, h.H.ne, ⟨fun e => h.dis gT rfl (by rw [e]; rfl), ?_, ?_⟩, fun i hi => ⟨?_, ?_, fun e => h.H.off i hi (by rw [e]; rfl)⟩, ⟨iT.1, iB.1, iH.1⟩, fun i hi => (h.H.inG i hi).1⟩⟩
  · have := iT.2; have := iH.2; omega
  · have := iB.2; have := iH.2; omega
  · have := iT.2; have := (h.H.inG i hi).2; omega
  · have := iB.2; have := (h.H.inG i hi).2; omega
end
end Go.Proofs.YtbnkpnllgoghnaaGreat.MdK
