/-
  lavabolaw5.told tells true, in every world.
-/
import Derived.Test.YtnoofichbadkoaaTabOps
namespace Go.Proofs.Ytnoofichbadkoaa.Told5
open Go.ChangeShapes Go.WideShapes Go.ChangeAt Go.RowKit
open Go.Proofs.Ytnoofichbadkoaa.Mem Go.Proofs.Ytnoofichbadkoaa.Blk Go.Proofs.Ytnoofichbadkoaa.Cells Go.Proofs.Ytnoofichbadkoaa.TabM Go.Proofs.Ytnoofichbadkoaa.TabC Go.Proofs.Ytnoofichbadkoaa.TabD Go.Proofs.Ytnoofichbadkoaa.TabO Go.Proofs.Ytnoofichbadkoaa.Stages

theorem told_math : ∃ T1 T2 T3 : Tb, (fresh 2).putC 0 = 0 ∧ (fresh 2).put 0 7 = T1 ∧ T1.putC 0 = 13 ∧ T1.put 0 8 = T1 ∧ T1.putC 5 = 0 ∧ T1.put 5 9 = T2 ∧ T2.putC 6 = 8 ∧ T2.put 6 1 = T2 ∧
    T2.get 0 = 7 ∧ T2.out 0 = T3 ∧ T3.get 0 = -1 ∧ T3.get 5 = 9 ∧ T3.cnt = 1 ∧ T3.putC (-1) = 1 ∧ T3.put (-1) 0 = T3 := by
  have A0 := abs_fresh (n := 2) (by omega) (fun _ => 0)
  obtain ⟨c1, A1, n1⟩ := A0.put_new (k := 0) rfl (by rw [cnt_fresh]; show 0 < 2; omega) 7
  rw [cnt_fresh] at n1
  have m1 : ((fresh 2).put ((0 : Nat) : Int) 7).n = 2 := put_n _
  generalize hT1 : (fresh 2).put ((0 : Nat) : Int) 7 = T1 at *
  obtain ⟨c2, e2⟩ := A1.put_in (k := 0) (upd_same _ _ _) 8
  obtain ⟨c3, A2, n2⟩ := A1.put_new (k := 5) rfl (by omega) 9
  have m2 : (T1.put ((5 : Nat) : Int) 9).n = 2 := (put_n _).trans m1
  generalize hT2 : T1.put ((5 : Nat) : Int) 9 = T2 at *
  obtain ⟨c4, e4⟩ := A2.put_full (k := 6) rfl (by omega) 1
  obtain ⟨c5, A3, n3, _⟩ := A2.out_some (k := 0) rfl
  generalize hT3 : T2.out ((0 : Nat) : Int) = T3 at *
  have g0 := A3.get 0
  have g5 := A3.get 5
  exact ⟨T1, T2, T3, c1, rfl, c2, e2, c3, hT2, c4, e4, c5, hT3, g0, g5, by omega, rfl, rfl⟩

section
variable {w : World} {d D : Nat} {T U : Tb}
theorem t_put {c : Int} (k v : Int) (h : TabAt w d D T) (hc : T.putC k = c) (hu : T.put k v = U) : Calls Try.prog 10 #[.pointer (some ⟨d, 0, none⟩), .int .i64 k, .int .i64 v] w (TabPost d D w c U) := by
  have := put_any h k v
  rwa [hc, hu] at this
theorem t_out {c : Int} (k : Int) (h : TabAt w d D T) (hc : T.get k = c) (hu : T.out k = U) : Calls Try.prog 17 #[.pointer (some ⟨d, 0, none⟩), .int .i64 k] w (TabPost d D w c U) := by
  have := out_any h k
  rwa [hc, hu] at this
theorem t_get {c : Int} (k : Int) (h : TabAt w d D T) (hc : T.get k = c) : Calls Try.prog 13 #[.pointer (some ⟨d, 0, none⟩), .int .i64 k] w fun e w' => e = .returned (.int .i64 c) ∧ w = w' := by
  have := get_any h k
  rwa [hc] at this
theorem t_len {c : Nat} (h : TabAt w d D T) (hc : T.cnt = c) : Calls Try.prog 14 #[.pointer (some ⟨d, 0, none⟩)] w fun e w' => e = .returned (.int .i64 (c : Int)) ∧ w = w' := by
  have := len_any h
  rwa [hc] at this
theorem TabAt.kept {w' : World} {F : Nat → Prop} (h : TabAt w d D T) (hk : Kept F w w') (hF : ∀ k, F k → ¬ Own d D k) : TabAt w' d D T := Raw.kept h hk hF
theorem TabAt.grow {w' : World} (h : TabAt w d D T) (hk : Grow w w') : TabAt w' d D T := Raw.grow h hk
end
theorem place04 : ((place 0 4 : Nat) : Int) = 0 := by rw [place_int (by omega)]; decide

set_option maxHeartbeats 2000000 in
theorem told_any (w : World) : Calls Try.prog 12 #[] w fun e w' => e = .returned (.bool true) ∧ Grow w w' := by
  have CN := Lib.hid fun (wx : World) => new_good (w := wx) 2 (by omega) (by omega)
  simp only [Int.cast_ofNat_Int] at CN
  obtain ⟨T1, T2, T3, p1, q1, p2, q2, p3, q3, p4, q4, p5, q5, g0, g5, n3, p6, q6⟩ := told_math
  have P1 := Lib.hid p1
  have Q1 := Lib.hid q1
  have P2 := Lib.hid p2
  have Q2 := Lib.hid q2
  have P3 := Lib.hid p3
  have Q3 := Lib.hid q3
  have P4 := Lib.hid p4
  have Q4 := Lib.hid q4
  have P5 := Lib.hid p5
  have Q5 := Lib.hid q5
  have X0 := Lib.hid g0
  have X5 := Lib.hid g5
  have N3 := Lib.hid n3
  have P6 := Lib.hid p6
  have Q6 := Lib.hid q6
  have CP : Hid (∀ wx : World, Calls Try.prog 22 #[.int .i64 0, .int .i64 4] wx fun e w' => e = .returned (.int .i64 0) ∧ wx = w') := fun wx => by
    have := place_good (w := wx) 0 4 (by omega) (by omega) (by omega)
    rwa [place04] at this
  have CL : Hid (∀ wx d D, TabAt wx d D T3 → Calls Try.prog 14 #[.pointer (some ⟨d, 0, none⟩)] wx fun e w' => e = .returned (.int .i64 1) ∧ wx = w') := fun wx d D h => t_len h N3.out
  clear p1 q1 p2 q2 p3 q3 p4 q4 p5 q5 g0 g5 n3 p6 q6
  go_enter Try.func12, Try.ntmps12
  go_wp2_with (first
    | (go_at_call 9; (with_reducible refine (CN.out _).mono ?_); rintro e w1 ⟨d, D, rfl, hl, hd1, hd2, hg⟩; have H0 := Lib.hid hl; have HD := Lib.hid (And.intro hd1 hd2); have G0 := Lib.hid hg; clear hl hd1 hd2 hg)
    | (go_at_call 9; (with_reducible refine (new_bad 0 (by omega)).mono ?_); rintro e w' ⟨rfl, rfl⟩)
    | (go_at_call 10; (with_reducible refine (t_put 0 7 H0.out P1.out Q1.out).mono ?_); rintro e w2 ⟨rfl, hl, hk⟩; have H1 := Lib.hid hl; have G1 := Lib.hid hk; clear hl hk)
    | (go_at_call 10; (with_reducible refine (t_put 0 8 H1.out P2.out Q2.out).mono ?_); rintro e w3 ⟨rfl, hl, hk⟩; have H2 := Lib.hid hl; have G2 := Lib.hid hk; clear hl hk)
    | (go_at_call 10; (with_reducible refine (t_put 5 9 H2.out P3.out Q3.out).mono ?_); rintro e w4 ⟨rfl, hl, hk⟩; have H3 := Lib.hid hl; have G3 := Lib.hid hk; clear hl hk)
    | (go_at_call 10; (with_reducible refine (t_put 6 1 H3.out P4.out Q4.out).mono ?_); rintro e w5 ⟨rfl, hl, hk⟩; have H4 := Lib.hid hl; have G4 := Lib.hid hk; clear hl hk)
    | (go_at_call 17; (with_reducible refine (t_out 0 H4.out P5.out Q5.out).mono ?_); rintro e w6 ⟨rfl, hl, hk⟩; have H5 := Lib.hid hl; have G5 := Lib.hid hk; clear hl hk)
    | (go_at_call 13; (with_reducible refine (t_get 0 H5.out X0.out).mono ?_); rintro e w' ⟨rfl, rfl⟩)
    | (go_at_call 22; (with_reducible refine (CP.out _).mono ?_); rintro e w' ⟨rfl, rfl⟩)
    | (go_at_call 22; (with_reducible refine (place_bad (-1) 4 (by omega)).mono ?_); rintro e w' ⟨rfl, rfl⟩)
    | (go_at_call 22; (with_reducible refine (place_bad 1 0 (by omega)).mono ?_); rintro e w' ⟨rfl, rfl⟩)
    | (go_at_call 13; (with_reducible refine (t_get 5 H5.out X5.out).mono ?_); rintro e w' ⟨rfl, rfl⟩)
    | (go_at_call 14; (with_reducible refine (CL.out _ _ _ H5.out).mono ?_); rintro e w' ⟨rfl, rfl⟩)
    | (go_at_call 10; (with_reducible refine (t_put (-1) 0 H5.out P6.out Q6.out).mono ?_); rintro e w7 ⟨rfl, _, hk⟩; have G6 := Lib.hid hk; clear hk)
    | (go_at_call 10; (with_reducible refine (put_nil 1 1).mono ?_); rintro e w' ⟨rfl, rfl⟩)
    | (go_at_call 13; (with_reducible refine get_nil.mono ?_); rintro e w' ⟨rfl, rfl⟩))
  go_ret
  refine ⟨rfl, Kept.then G0.out (((((G1.out.trans G2.out).trans G3.out).trans G4.out).trans G5.out).trans G6.out) fun k hk ho => ?_⟩
  have h1 := HD.out.1
  have h2 := HD.out.2
  rcases ho with h | h <;> omega
end Go.Proofs.Ytnoofichbadkoaa.Told5
