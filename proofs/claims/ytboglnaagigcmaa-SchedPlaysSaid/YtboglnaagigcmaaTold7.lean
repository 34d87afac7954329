/-
  lavabolaw7.told tells true, in every world.
-/
import Derived.Test.YtboglnaagigcmaaSchFree
namespace Go.Proofs.Ytboglnaagigcmaa.Told7
open Go.ChangeShapes Go.WideShapes Go.ChangeAt Go.RowKit
open Go.Proofs.Ytboglnaagigcmaa.Mem Go.Proofs.Ytboglnaagigcmaa.Blk Go.Proofs.Ytboglnaagigcmaa.Cells Go.Proofs.Ytboglnaagigcmaa.SchM Go.Proofs.Ytboglnaagigcmaa.SchC Go.Proofs.Ytboglnaagigcmaa.SchD Go.Proofs.Ytboglnaagigcmaa.SchE Go.Proofs.Ytboglnaagigcmaa.Stages

section
variable {w : World} {d D c : Nat} {T U : Sc}
theorem t_wake {b : Bool} (t pc : Int) (h : SchAt w d D c T) (hb : T.wakeB t pc = b) (hu : T.wake t pc = U) : Calls Try.prog 10 #[.pointer (some ⟨d, 0, none⟩), .int .i64 t, .int .i64 pc] w (BPost d D c w b U) := by
  have := wake_any h t pc
  rwa [hb, hu] at this
theorem t_go {b : Bool} (t pc : Int) (h : SchAt w d D c T) (hb : T.goB t pc = b) (hu : T.go t pc = U) : Calls Try.prog 12 #[.pointer (some ⟨d, 0, none⟩), .int .i64 t, .int .i64 pc] w (BPost d D c w b U) := by
  have := go_any h t pc
  rwa [hb, hu] at this
theorem t_block {b : Bool} (t on : Int) (h : SchAt w d D c T) (hb : T.goB t on = b) (hu : T.block t on = U) : Calls Try.prog 14 #[.pointer (some ⟨d, 0, none⟩), .int .i64 t, .int .i64 on] w (BPost d D c w b U) := by
  have := block_any h t on
  rwa [hb, hu] at this
theorem t_done {b : Bool} (t : Int) (h : SchAt w d D c T) (hb : T.doneB t = b) (hu : T.done t = U) : Calls Try.prog 16 #[.pointer (some ⟨d, 0, none⟩), .int .i64 t] w (BPost d D c w b U) := by
  have := done_any h t
  rwa [hb, hu] at this
theorem t_pick {z : Int} (n : Int) (h : SchAt w d D c T) (hz : T.pick n = z) : Calls Try.prog 21 #[.pointer (some ⟨d, 0, none⟩), .int .i64 n] w (IPost w z) := by
  have := pick_any h.r n
  rwa [hz] at this
theorem t_stuck {b : Bool} (h : SchAt w d D c T) (hb : T.stuck = b) : Calls Try.prog 25 #[.pointer (some ⟨d, 0, none⟩)] w fun e w' => e = .returned (.bool b) ∧ Grow w w' := by
  have := stuck_any h
  rwa [hb] at this
theorem t_task {v : Value} (t : Int) (h : SchAt w d D c T) (hv : tval T t = v) : Calls Try.prog 27 #[.pointer (some ⟨d, 0, none⟩), .int .i64 t] w (VPost w v) := by
  have := task_any h.r t
  rwa [hv] at this
theorem t_ready {zs : List Nat} (h : SchAt w d D c T) (hz : T.ready = zs) : Calls Try.prog 23 #[.pointer (some ⟨d, 0, none⟩)] w (LPost w zs) := by
  have := sready_any h.r
  rwa [hz] at this
/-- What Free makes. -/
def FrPost (d D c : Nat) (w : World) (zs : List Nat) (U : Sc) (e : Ending) (w' : World) : Prop :=
  ∃ A cc, e = .returned (.slice A zs.length cc) ∧ Sl w' w'.heap.size .i64 A zs.length (ints zs) ∧ (∀ x, A = some x → w.heap.size ≤ x.block) ∧ SchAt w' d D c U ∧ Kept (At D) w w'
theorem t_free {zs : List Nat} (on : Int) (h : SchAt w d D c T) (hz : which T 2 on = zs) (hu : T.free on = U) : Calls Try.prog 19 #[.pointer (some ⟨d, 0, none⟩), .int .i64 on] w (FrPost d D c w zs U) := by
  have := free_any h on
  rw [hz, hu] at this
  exact this
end

theorem told_math : ∃ T1 T2 T3 T4 T5 T6 T7 : Sc,
    ((fresh 3).pick 5 = -1 ∧ (fresh 3).wakeB 1 4 = true ∧ (fresh 3).wake 1 4 = T1) ∧ (T1.wakeB 2 0 = true ∧ T1.wake 2 0 = T2) ∧ (T2.goB 2 9 = true ∧ T2.block 2 9 = T3) ∧
    (T3.pick (-1) = 1 ∧ T3.goB 1 9 = true ∧ T3.block 1 9 = T4) ∧ (T4.stuck = true ∧ which T4 2 9 = [1, 2] ∧ T4.free 9 = T5) ∧ (T5.doneB 1 = true ∧ T5.done 1 = T6) ∧
    (tval T6 1 = .agg #[.int .i64 3, .int .i64 4, .int .i64 (-1)] ∧ tval T6 0 = .agg #[.int .i64 0, .int .i64 0, .int .i64 (-1)] ∧ T6.ready = [2]) ∧
    (T6.goB 1 2 = false ∧ T6.go 1 2 = T6 ∧ T6.goB 2 7 = true ∧ T6.go 2 7 = T7) ∧ T7.stuck = false :=
  ⟨_, _, _, _, _, _, _, ⟨by decide, by decide, rfl⟩, ⟨by decide, rfl⟩, ⟨by decide, rfl⟩, ⟨by decide, by decide, rfl⟩, ⟨by decide, by decide, rfl⟩, ⟨by decide, rfl⟩, ⟨rfl, rfl, by decide⟩, ⟨by decide, rfl, by decide, rfl⟩, by decide⟩

set_option maxHeartbeats 4000000 in
theorem told_any (w : World) : Calls Try.prog 9 #[] w fun e w' => e = .returned (.bool true) ∧ Grow w w' := by
  have CN := Lib.hid fun (wx : World) => new_good (w := wx) 3 (by omega) (by omega)
  simp only [Int.cast_ofNat_Int] at CN
  obtain ⟨T1, T2, T3, T4, T5, T6, T7, M1, M2, M3, M4, M5, M6, M7, M8, m9⟩ := told_math
  have P1 := Lib.hid M1
  have P2 := Lib.hid M2
  have P3 := Lib.hid M3
  have P4 := Lib.hid M4
  have P5 := Lib.hid M5
  have P6 := Lib.hid M6
  have P7 := Lib.hid M7
  have P8 := Lib.hid M8
  have P9 := Lib.hid m9
  clear M1 M2 M3 M4 M5 M6 M7 M8 m9
  go_enter Try.func9, Try.ntmps9
  go_upto_region 4 with (go_at_call 7; (with_reducible refine (CN.out _).mono ?_); rintro e w1 ⟨d, D, c, rfl, hl, hd1, hd2, hg⟩; have H0 := Lib.hid hl; have HD := Lib.hid (And.intro hd1 hd2); have G0 := Lib.hid hg; clear hl hd1 hd2 hg)
  go_upto_region 5 with (go_at_call 21; (with_reducible refine (t_pick 5 H0.out P1.out.1).mono ?_); rintro e w2 ⟨rfl, hg⟩; have H1 := Lib.hid (H0.out.grow hg); have G1 := Lib.hid hg; clear hg)
  go_upto_region 6 with (first
    | (go_at_call 10; (with_reducible refine (t_wake 1 4 H1.out P1.out.2.1 P1.out.2.2).mono ?_); rintro e w3 ⟨rfl, hl, hk⟩; have H2 := Lib.hid hl; have G2 := Lib.hid hk; clear hl hk)
    | (go_at_call 10; (with_reducible refine (t_wake 2 0 H2.out P2.out.1 P2.out.2).mono ?_); rintro e w4 ⟨rfl, hl, hk⟩; have H3 := Lib.hid hl; have G3 := Lib.hid hk; clear hl hk)
    | (go_at_call 14; (with_reducible refine (t_block 2 9 H3.out P3.out.1 P3.out.2).mono ?_); rintro e w5 ⟨rfl, hl, hk⟩; have H4 := Lib.hid hl; have G4 := Lib.hid hk; clear hl hk))
  go_upto_region 7 with (go_at_call 21; (with_reducible refine (t_pick (-1) H4.out P4.out.1).mono ?_); rintro e w6 ⟨rfl, hg⟩; have H5 := Lib.hid (H4.out.grow hg); have G5 := Lib.hid hg; clear hg)
  go_upto_region 8 with (go_at_call 14; (with_reducible refine (t_block 1 9 H5.out P4.out.2.1 P4.out.2.2).mono ?_); rintro e w7 ⟨rfl, hl, hk⟩; have H6 := Lib.hid hl; have G6 := Lib.hid hk; clear hl hk)
  go_upto_region 9 with (go_at_call 25; (with_reducible refine (t_stuck H6.out P5.out.1).mono ?_); rintro e w8 ⟨rfl, hg⟩; have H7 := Lib.hid (H6.out.grow hg); have G7 := Lib.hid hg; clear hg)
  go_upto_region 10 with (go_at_call 19; (with_reducible refine (t_free 9 H7.out P5.out.2.1 P5.out.2.2).mono ?_); rintro e w9 ⟨A, cc, rfl, hs, hn, hl, hk⟩; have HS := Lib.hid hs; have HNW := Lib.hid hn; have H8 := Lib.hid hl; have G8 := Lib.hid hk; clear hs hn hl hk)
  go_upto_region 11 with (go_at_call 16; (with_reducible refine (t_done 1 H8.out P6.out.1 P6.out.2).mono ?_); rintro e w10 ⟨rfl, hl, hk⟩; have H9 := Lib.hid hl; have G9 := Lib.hid hk; clear hl hk)
  have HDD := Lib.hid H7.out.r.lt
  obtain ⟨b, o, rfl, hb, hc⟩ := HS.out.at_ (by decide)
  have hbD : b ≠ D := by
    have h1 := HNW.out _ rfl
    have h1 : w8.heap.size ≤ b := h1
    have := HDD.out.2
    omega
  have q1 : w9.cell? ⟨b, o + 1, none⟩ = some (.int .i64 2) := hc 1 (by decide)
  have q2 := G9.out.cellN q1 hbD
  have HQ := Lib.hid q2
  clear hc hb q1
  go_wp2_with (first
    | (go_at_call 27; (with_reducible refine (t_task 1 H9.out P7.out.1).mono ?_); rintro e w11 ⟨rfl, hg⟩; have H10 := Lib.hid (H9.out.grow hg); have G10 := Lib.hid hg; clear hg)
    | (go_at_call 27; (with_reducible refine (t_task 0 H10.out P7.out.2.1).mono ?_); rintro e w12 ⟨rfl, hg⟩; have H11 := Lib.hid (H10.out.grow hg); have G11 := Lib.hid hg; clear hg)
    | (go_at_call 23; (with_reducible refine (t_ready H11.out P7.out.2.2).mono ?_); rintro e w13 ⟨A', cc', rfl, hs, hn, hg⟩; have H12 := Lib.hid (H11.out.grow hg); have G12 := Lib.hid hg; clear hs hn hg)
    | (go_at_call 12; (with_reducible refine (t_go 1 2 H12.out P8.out.1 P8.out.2.1).mono ?_); rintro e w14 ⟨rfl, hl, hk⟩; have H13 := Lib.hid hl; have G13 := Lib.hid hk; clear hl hk)
    | (go_at_call 12; (with_reducible refine (t_go 2 7 H13.out P8.out.2.2.1 P8.out.2.2.2).mono ?_); rintro e w15 ⟨rfl, hl, hk⟩; have H14 := Lib.hid hl; have G14 := Lib.hid hk; clear hl hk)
    | (go_at_call 25; (with_reducible refine (t_stuck H14.out P9.out).mono ?_); rintro e w16 ⟨rfl, hg⟩; have G15 := Lib.hid hg; clear hg)
    | (go_at_call 7; (with_reducible refine (new_bad 0 (by omega)).mono ?_); rintro e w' ⟨rfl, rfl⟩)
    | (go_at_call 21; (with_reducible refine (pick_nil 0).mono ?_); rintro e w17 ⟨rfl, hg⟩; have G16 := Lib.hid hg; clear hg)
    | (go_at_call 10; (with_reducible refine (wake_nil 0 0).mono ?_); rintro e w' ⟨rfl, rfl⟩))
  go_ret
  have KG : ∀ {a b : World}, Grow a b → Kept (At D) a b := fun h => Grow.kept h
  have hall := (((((((((((((((KG G1.out).trans G2.out).trans G3.out).trans G4.out).trans (KG G5.out)).trans G6.out).trans (KG G7.out)).trans G8.out).trans G9.out).trans (KG G10.out)).trans (KG G11.out)).trans (KG G12.out)).trans G13.out).trans G14.out).trans (KG G15.out)).trans (KG G16.out)
  exact ⟨rfl, Kept.then G0.out hall fun k hk ho => by have ho : k = D := ho; have := HD.out.2; omega⟩
end Go.Proofs.Ytboglnaagigcmaa.Told7
