/-
  lavabolaw19.told tells true, in every world.
-/
import Derived.Test.YtfmlbpnilblkjaaDrNew
namespace Go.Proofs.Ytfmlbpnilblkjaa.Told19
open Go.ChangeShapes Go.WideShapes Go.ChangeAt Go.RowKit
open Go.Proofs.Ytfmlbpnilblkjaa.Mem Go.Proofs.Ytfmlbpnilblkjaa.Blk Go.Proofs.Ytfmlbpnilblkjaa.Cells Go.Proofs.Ytfmlbpnilblkjaa.GsC Go.Proofs.Ytfmlbpnilblkjaa.HasC Go.Proofs.Ytfmlbpnilblkjaa.DrC Go.Proofs.Ytfmlbpnilblkjaa.DrY Go.Proofs.Ytfmlbpnilblkjaa.DrD Go.Proofs.Ytfmlbpnilblkjaa.DrN Go.Proofs.Ytfmlbpnilblkjaa.Stages

/-- A directory in a variable. -/
structure DB (w : World) (g : Nat) (v : Int) (A : Option Addr) (c : Nat) (b t p : Int) (O : Nat → Int) : Prop where
  b : Blk w g 25 [.int .i64 v, .slice A 16 c, .int .i64 b, .int .i64 t, .int .i64 p]
  h : Has w A 16 O
section
variable {w w' : World} {g c : Nat} {v b t p : Int} {A : Option Addr} {O : Nat → Int}
theorem DB.grow (h : DB w g v A c b t p O) (hg : Grow w w') : DB w' g v A c b t p O := ⟨h.b.grow hg, h.h.grow hg⟩
theorem DB.new (h : Has w A 16 O) (v : Int) (c : Nat) (b t p : Int) : DB (w.alloc (.cells #[.int .i64 v, .slice A 16 c, .int .i64 b, .int .i64 t, .int .i64 p] 25)) w.heap.size v A c b t p O :=
  ⟨Blk.new w 25 [.int .i64 v, .slice A 16 c, .int .i64 b, .int .i64 t, .int .i64 p], h.grow ((Kept.refl _ w).alloc _)⟩
theorem grow_box (w : World) (v : Int) (A : Option Addr) (c : Nat) (b t p : Int) : Grow w (w.alloc (.cells #[.int .i64 v, .slice A 16 c, .int .i64 b, .int .i64 t, .int .i64 p] 25)) := (Kept.refl _ w).alloc _
end
theorem field_owner (w : World) (v b t p : Int) (A : Option Addr) (n c : Nat) : (Instr.field 25 (.agg #[.int .i64 v, .slice A n c, .int .i64 b, .int .i64 t, .int .i64 p]) 1).run Try.prog w = .ok (.slice A n c) w := by
  simp [Instr.field, asAgg, part, isAgg, run_underlying Try.underlying25, run_underlying Try.underlying23]
theorem ok_rest : Ok 4 ⟨1, turns 2, -1, 0, 0⟩ := (turns_ok (n := 2) (by omega)).more (by decide)
theorem ok_way (p : Int) (hp : p = 1 ∨ p = 2) : Ok 4 ⟨1, turns 2, 0, 1, p⟩ :=
  ⟨ok_rest.own, ok_rest.v1, ok_rest.v2, .inr ⟨0, by omega, rfl, (by decide : (0 : Int) ≤ 1), (by decide : (1 : Int) < 4), (by decide : (1 : Int) ≠ turns 2 0), hp⟩⟩

set_option maxHeartbeats 4000000 in
theorem told_any (w : World) : Calls Try.prog 8 #[] w fun e w' => e = .returned (.bool true) ∧ Grow w w' := by
  have CN : Hid (∀ w, Calls Try.prog 7 #[.int .i64 2] w (NewP 2 w)) := fun w => new_good (n := 2) (by omega) (by omega)
  have CZ := Lib.hid fun (w : World) => new_bad (w := w) (x := 0) (by decide)
  have CB : Hid (∀ w A c, Has w A 16 (turns 2) → Calls Try.prog 9 #[.agg #[.int .i64 1, .slice A 16 c, .int .i64 (-1), .int .i64 0, .int .i64 0], .int .i64 0, .int .i64 1] w (DrP 1 (turns 2) 0 1 1 0 w)) := fun w A c h => begin_good (B := 0) h ok_rest (ok_way 1 (.inl rfl))
  have CH : Hid (∀ w A c, Has w A 16 (turns 2) → Calls Try.prog 9 #[.agg #[.int .i64 1, .slice A 16 c, .int .i64 0, .int .i64 1, .int .i64 1], .int .i64 1, .int .i64 0] w (DrP 1 (turns 2) 0 1 1 13 w)) := fun w A c h => begin_held h (ok_way 1 (.inl rfl)) (by decide) 1 0
  have CS : Hid (∀ w A c, Has w A 16 (turns 2) → Calls Try.prog 11 #[.agg #[.int .i64 1, .slice A 16 c, .int .i64 0, .int .i64 1, .int .i64 1]] w (DrP 1 (turns 2) 0 1 1 12 w)) := fun w A c h => switch_state h (ok_way 1 (.inl rfl)) (by decide)
  have CC : Hid (∀ w A c, Has w A 16 (turns 2) → Calls Try.prog 10 #[.agg #[.int .i64 1, .slice A 16 c, .int .i64 0, .int .i64 1, .int .i64 1]] w (DrP 1 (turns 2) 0 1 2 0 w)) := fun w A c h => carry_good h (ok_way 1 (.inl rfl))
  have CW : Hid (∀ w A c, Has w A 16 (turns 2) → Calls Try.prog 11 #[.agg #[.int .i64 1, .slice A 16 c, .int .i64 0, .int .i64 1, .int .i64 2]] w (DrP 2 (went (turns 2) 0 1) (-1) 0 0 0 w)) := fun w A c h => switch_good (B := 0) h (ok_way 2 (.inr rfl)) (by omega) (by decide)
  have CT : Hid (∀ w A c, Has w A 16 (turns 2) → Calls Try.prog 14 #[.agg #[.int .i64 1, .slice A 16 c, .int .i64 0, .int .i64 1, .int .i64 1]] w (DrP 1 (turns 2) (-1) 0 0 0 w)) := fun w A c h => stop_way h (ok_way 1 (.inl rfl)) (by decide)
  have CE : Hid (∀ w A c, Has w A 16 (turns 2) → Calls Try.prog 9 #[.agg #[.int .i64 1, .slice A 16 c, .int .i64 (-1), .int .i64 0, .int .i64 0], .int .i64 0, .int .i64 0] w (DrP 1 (turns 2) (-1) 0 0 1 w)) := fun w A c h => begin_same (B := 0) h ok_rest (by omega) (by decide)
  have CM : Hid (∀ w A c, Has w A 16 (turns 2) → Calls Try.prog 16 #[.agg #[.int .i64 1, .slice A 16 c, .int .i64 0, .int .i64 1, .int .i64 1], .int .i64 2] w fun e w' => e = .returned (.bool true) ∧ Grow w w') := fun w A c h => may_any (d := ⟨1, turns 2, 0, 1, 1⟩) h ⟨fun j hj => (turns_ok (n := 2) (by omega)).own j hj, ok_rest.v1, ok_rest.v2, .inr ⟨0, by omega, rfl, by decide, by decide, (by decide : (1 : Int) ≠ turns 2 0), .inl rfl⟩⟩
  have CX := Lib.hid fun (w : World) => may_zero (w := w) (x := 2)
  have CQ : Hid (∀ w A c, Has w A 16 (turns 2) → Calls Try.prog 13 #[.agg #[.int .i64 1, .slice A 16 c, .int .i64 (-1), .int .i64 0, .int .i64 0], .int .i64 1] w fun e w' => e = .returned (.int .i64 1) ∧ Grow w w') := fun w A c h => shard_good h 1 (by decide)
  have C1 : Hid (∀ w, Calls Try.prog 15 #[.int .i64 1] w fun e w' => e = .returned (.int .i64 7) ∧ w = w') := fun w => bucket_good 1 (by decide)
  have C2 : Hid (∀ w, Calls Try.prog 15 #[.int .i64 16] w fun e w' => e = .returned (.int .i64 1) ∧ w = w') := fun w => bucket_good 16 (by decide)
  have C3 := Lib.hid fun (w : World) => bucket_none (w := w) (x := -1) (by decide)
  go_enter Try.func8, Try.ntmps8
  go_upto_region 2 with (go_at_call 7; (with_reducible refine (CN.out _).mono ?_); rintro e x1 ⟨q1, o1, c1, rfl, hn, _, hg⟩; have H1 := Lib.hid hn.has; have G1 := Lib.hid hg; clear hn hg)
  have D1 := Lib.hid (DB.new H1.out 1 c1 (-1) 0 0)
  have K1 := Lib.hid (G1.out.trans (grow_box x1 1 (some ⟨q1, o1, none⟩) c1 (-1) 0 0))
  generalize x1.alloc (.cells #[.int .i64 1, .slice (some ⟨q1, o1, none⟩) 16 c1, .int .i64 (-1), .int .i64 0, .int .i64 0] 25) = y1 at *
  generalize x1.heap.size = g1 at *
  clear H1 G1
  obtain ⟨k0, k1, k2, k3, k4⟩ := cells5 D1.out.b
  go_upto_region 3 with (go_at_call 9; (with_reducible refine (CB.out _ _ _ D1.out.h).mono ?_); rintro e x2 ⟨q2, o2, c2, rfl, hn, _, hg⟩; have H2 := Lib.hid hn.has; have G2 := Lib.hid hg; clear hn hg)
  clear k0 k1 k2 k3 k4
  have D2 := Lib.hid (DB.new H2.out 1 c2 0 1 1)
  have E2 := Lib.hid (G2.out.trans (grow_box x2 1 (some ⟨q2, o2, none⟩) c2 0 1 1))
  generalize x2.alloc (.cells #[.int .i64 1, .slice (some ⟨q2, o2, none⟩) 16 c2, .int .i64 0, .int .i64 1, .int .i64 1] 25) = y2 at *
  generalize x2.heap.size = g2 at *
  clear H2 G2
  obtain ⟨k0, k1, k2, k3, k4⟩ := cells5 D2.out.b
  go_upto_region 4 with (go_at_call 9; (with_reducible refine (CH.out _ _ _ D2.out.h).mono ?_); rintro e x3 ⟨q3, o3, c3, rfl, _, _, hg⟩; have G3 := Lib.hid hg; clear hg)
  clear k0 k1 k2 k3 k4
  have E3 := Lib.hid (E2.out.trans (G3.out.trans (grow_box x3 1 (some ⟨q3, o3, none⟩) c3 0 1 1)))
  have D23 := Lib.hid (D2.out.grow (G3.out.trans (grow_box x3 1 (some ⟨q3, o3, none⟩) c3 0 1 1)))
  generalize x3.alloc (.cells #[.int .i64 1, .slice (some ⟨q3, o3, none⟩) 16 c3, .int .i64 0, .int .i64 1, .int .i64 1] 25) = y3 at *
  generalize x3.heap.size = g3 at *
  clear G3 D2 E2
  obtain ⟨k0, k1, k2, k3, k4⟩ := cells5 D23.out.b
  go_upto_region 5 with (go_at_call 11; (with_reducible refine (CS.out _ _ _ D23.out.h).mono ?_); rintro e x4 ⟨q4, o4, c4, rfl, _, _, hg⟩; have G4 := Lib.hid hg; clear hg)
  clear k0 k1 k2 k3 k4
  have E4 := Lib.hid (E3.out.trans (G4.out.trans (grow_box x4 1 (some ⟨q4, o4, none⟩) c4 0 1 1)))
  have D24 := Lib.hid (D23.out.grow (G4.out.trans (grow_box x4 1 (some ⟨q4, o4, none⟩) c4 0 1 1)))
  generalize x4.alloc (.cells #[.int .i64 1, .slice (some ⟨q4, o4, none⟩) 16 c4, .int .i64 0, .int .i64 1, .int .i64 1] 25) = y4 at *
  generalize x4.heap.size = g4 at *
  clear G4 D23 E3
  obtain ⟨k0, k1, k2, k3, k4⟩ := cells5 D24.out.b
  go_upto_region 6 with (go_at_call 10; (with_reducible refine (CC.out _ _ _ D24.out.h).mono ?_); rintro e x5 ⟨q5, o5, c5, rfl, hn, _, hg⟩; have H5 := Lib.hid hn.has; have G5 := Lib.hid hg; clear hn hg)
  clear k0 k1 k2 k3 k4
  have D5 := Lib.hid (DB.new H5.out 1 c5 0 1 2)
  have E5 := Lib.hid (E4.out.trans (G5.out.trans (grow_box x5 1 (some ⟨q5, o5, none⟩) c5 0 1 2)))
  have D25 := Lib.hid (D24.out.grow (G5.out.trans (grow_box x5 1 (some ⟨q5, o5, none⟩) c5 0 1 2)))
  generalize x5.alloc (.cells #[.int .i64 1, .slice (some ⟨q5, o5, none⟩) 16 c5, .int .i64 0, .int .i64 1, .int .i64 2] 25) = y5 at *
  generalize x5.heap.size = g5 at *
  clear H5 G5 D24 E4
  obtain ⟨k0, k1, k2, k3, k4⟩ := cells5 D5.out.b
  go_upto_region 7 with (go_at_call 11; (with_reducible refine (CW.out _ _ _ D5.out.h).mono ?_); rintro e x6 ⟨q6, o6, c6, rfl, hn, _, hg⟩; have H6 := Lib.hid hn.has; have G6 := Lib.hid hg; clear hn hg)
  clear k0 k1 k2 k3 k4
  have D6 := Lib.hid (DB.new H6.out 2 c6 (-1) 0 0)
  have E6 := Lib.hid (E5.out.trans (G6.out.trans (grow_box x6 2 (some ⟨q6, o6, none⟩) c6 (-1) 0 0)))
  have D26 := Lib.hid (D25.out.grow (G6.out.trans (grow_box x6 2 (some ⟨q6, o6, none⟩) c6 (-1) 0 0)))
  generalize x6.alloc (.cells #[.int .i64 2, .slice (some ⟨q6, o6, none⟩) 16 c6, .int .i64 (-1), .int .i64 0, .int .i64 0] 25) = y6 at *
  generalize x6.heap.size = g6 at *
  clear H6 G6 D25 E5 D5
  obtain ⟨k0, k1, k2, k3, k4⟩ := cells5 D26.out.b
  go_upto_region 8 with (go_at_call 14; (with_reducible refine (CT.out _ _ _ D26.out.h).mono ?_); rintro e x7 ⟨q7, o7, c7, rfl, hn, _, hg⟩; have H7 := Lib.hid hn.has; have G7 := Lib.hid hg; clear hn hg)
  clear k0 k1 k2 k3 k4
  have D7 := Lib.hid (DB.new H7.out 1 c7 (-1) 0 0)
  have E7 := Lib.hid (E6.out.trans (G7.out.trans (grow_box x7 1 (some ⟨q7, o7, none⟩) c7 (-1) 0 0)))
  have D17 := Lib.hid (D1.out.grow E7.out)
  have D27 := Lib.hid (D26.out.grow (G7.out.trans (grow_box x7 1 (some ⟨q7, o7, none⟩) c7 (-1) 0 0)))
  have D67 := Lib.hid (D6.out.grow (G7.out.trans (grow_box x7 1 (some ⟨q7, o7, none⟩) c7 (-1) 0 0)))
  generalize x7.alloc (.cells #[.int .i64 1, .slice (some ⟨q7, o7, none⟩) 16 c7, .int .i64 (-1), .int .i64 0, .int .i64 0] 25) = y7 at *
  generalize x7.heap.size = g7 at *
  clear H7 G7 D26 E6 D6
  obtain ⟨k0, k1, k2, k3, k4⟩ := cells5 D17.out.b
  go_upto_region 9 with (go_at_call 9; (with_reducible refine (CE.out _ _ _ D17.out.h).mono ?_); rintro e x8 ⟨q8, o8, c8, rfl, _, _, hg⟩; have G8 := Lib.hid hg; clear hg)
  clear k0 k1 k2 k3 k4
  have J8 := Lib.hid (G8.out.trans (grow_box x8 1 (some ⟨q8, o8, none⟩) c8 (-1) 0 0))
  generalize x8.alloc (.cells #[.int .i64 1, .slice (some ⟨q8, o8, none⟩) 16 c8, .int .i64 (-1), .int .i64 0, .int .i64 0] 25) = y8 at *
  generalize x8.heap.size = g8 at *
  have D1' := Lib.hid (D17.out.grow J8.out)
  have D2' := Lib.hid (D27.out.grow J8.out)
  have D6' := Lib.hid (D67.out.grow J8.out)
  have D7' := Lib.hid (D7.out.grow J8.out)
  have E8 := Lib.hid ((K1.out.trans E7.out).trans J8.out)
  clear D17 D27 D67 D7 J8 G8 E7 K1
  obtain ⟨a0, a1, a2, a3, a4⟩ := cells5 D1'.out.b
  obtain ⟨s0, s1, s2, s3, s4⟩ := cells5 D6'.out.b
  obtain ⟨r0, r1, r2, r3, r4⟩ := cells5 D7'.out.b
  obtain ⟨bb, oo, he, hc⟩ := D6'.out.h (by omega)
  have c0 := hc 0 (by omega)
  injection he with he
  injection he with he1 he2
  subst he1 he2
  rw [Nat.add_zero, show went (turns 2) 0 1 0 = 1 from rfl] at c0
  clear hc
  have CSM := Lib.hid fun (w' : World) (hk : Grow y8 w') => same_any (v := 1) (c := c7) (c' := c1) (b := -1) (t := 0) (p := 0) (b' := -1) (t' := 0) (p' := 0) (D7'.out.h.grow hk) (D1'.out.h.grow hk)
  have hfo := fun (w : World) => field_owner w 0 0 0 0 none 0 0
  simp only [List.append]
  go_wp2_with (first
    | (go_at_call 15; (with_reducible refine (C1.out _).mono ?_); rintro e w' ⟨rfl, rfl⟩)
    | (go_at_call 15; (with_reducible refine (C2.out _).mono ?_); rintro e w' ⟨rfl, rfl⟩)
    | (go_at_call 15; (with_reducible refine (C3.out _).mono ?_); rintro e w' ⟨rfl, rfl⟩)
    | (go_at_call 12; (with_reducible refine (CSM.out _ (Kept.refl _ _)).mono ?_); rintro e z1 ⟨rfl, hg⟩; have F1 := Lib.hid hg; clear hg a0 a1 a2 a3 a4 s0 s1 s2 s3 s4 r0 r1 r2 r3 r4; obtain ⟨a0, a1, a2, a3, a4⟩ := cells5 (D2'.out.grow F1.out).b; obtain ⟨r0, r1, r2, r3, r4⟩ := cells5 (D1'.out.grow F1.out).b)
    | (go_at_call 16; (with_reducible refine (CM.out _ _ _ (D2'.out.grow F1.out).h).mono ?_); rintro e z2 ⟨rfl, hg⟩; have F2 := Lib.hid (F1.out.trans hg); clear hg a0 a1 a2 a3 a4 r0 r1 r2 r3 r4; obtain ⟨a0, a1, a2, a3, a4⟩ := cells5 (D1'.out.grow F2.out).b)
    | (go_at_call 16; (with_reducible refine (CX.out _).mono ?_); rintro e z3 ⟨rfl, hg⟩; have F3 := Lib.hid (F2.out.trans hg); clear hg a0 a1 a2 a3 a4; obtain ⟨a0, a1, a2, a3, a4⟩ := cells5 (D1'.out.grow F3.out).b)
    | (go_at_call 13; (with_reducible refine (CQ.out _ _ _ (D1'.out.grow F3.out).h).mono ?_); rintro e z4 ⟨rfl, hg⟩; have F4 := Lib.hid (F3.out.trans hg); clear hg)
    | (go_at_call 7; (with_reducible refine (CZ.out _).mono ?_); rintro e z5 ⟨rfl, hg⟩; have F5 := Lib.hid (F4.out.trans hg); clear hg))
  go_ret
  exact ⟨rfl, E8.out.trans F5.out⟩
end Go.Proofs.Ytfmlbpnilblkjaa.Told19
