/-
  Package dir (chapter 19): New.
-/
import Derived.Test.YtfmlbpnilblkjaaDrDo
namespace Go.Proofs.Ytfmlbpnilblkjaa.DrN
open Go.ChangeShapes Go.WideShapes Go.ChangeAt Go.RowKit
open Go.Proofs.Ytfmlbpnilblkjaa.Mem Go.Proofs.Ytfmlbpnilblkjaa.Blk Go.Proofs.Ytfmlbpnilblkjaa.Cells Go.Proofs.Ytfmlbpnilblkjaa.GsC Go.Proofs.Ytfmlbpnilblkjaa.HasC Go.Proofs.Ytfmlbpnilblkjaa.DrC Go.Proofs.Ytfmlbpnilblkjaa.DrY Go.Proofs.Ytfmlbpnilblkjaa.DrD Go.Proofs.Ytfmlbpnilblkjaa.Stages Go.Proofs.Ytfmlbpnilblkjaa.Trees

/-- By turns. -/
def turns (n j : Nat) : Int := ((j % n : Nat) : Int)
/-- What New makes. -/
def NewP (n : Nat) (w : World) (e : Ending) (w' : World) : Prop :=
  ∃ q o c, e = .returned (.agg #[.int .i64 1, .slice (some ⟨q, o, none⟩) 16 c, .int .i64 (-1), .int .i64 0, .int .i64 0]) ∧ Nm w' q o 16 (turns n) ∧ w.heap.size ≤ q ∧ Grow w w'
theorem turns_ok {n : Nat} (h1 : 1 ≤ n) : Ok (n : Int) ⟨1, turns n, -1, 0, 0⟩ :=
  ⟨fun j _ => ⟨Int.natCast_nonneg _, by show ((j % n : Nat) : Int) < (n : Int); have := Nat.mod_lt j (show n > 0 by omega); omega⟩, Int.le_refl _, (by decide : (1 : Int) ≤ 1073741824), .inl ⟨rfl, rfl, rfl⟩⟩

section
variable {w w' : World} {x : Int}
theorem new_bad (h : ¬ (1 ≤ x ∧ x ≤ 4)) : Calls Try.prog 7 #[.int .i64 x] w fun e w' => e = .returned (.agg #[.int .i64 0, .slice none 0 0, .int .i64 0, .int .i64 0, .int .i64 0]) ∧ Grow w w' := by
  by_cases h1 : x < 1
  · clear h
    go_enter Try.func7, Try.ntmps7
    go_upto_region 1 with (fail)
    have hb := Blk.new w 25 [.int .i64 0, .slice none 0 0, .int .i64 0, .int .i64 0, .int .i64 0]
    have hg : Grow w (w.alloc (.cells #[.int .i64 0, .slice none 0 0, .int .i64 0, .int .i64 0, .int .i64 0] 25)) := (Kept.refl _ _).alloc _
    generalize w.alloc (.cells #[.int .i64 0, .slice none 0 0, .int .i64 0, .int .i64 0, .int .i64 0] 25) = w0 at *
    have HG := Lib.hid hg
    have HB := Lib.hid hb
    obtain ⟨k0, k1, k2, k3, k4⟩ := cells5 hb
    have fz := hb.frozenAll
    clear hb hg
    go_wp2
    go_step3
    go_wp2
    try rw [Exit.noGoto_ret]
    refine ret_dir rfl rfl (blk_set5 HB.out) rfl ?_
    exact ⟨rfl, HG.out.then (kept_set5 _ _ _ _ _ _ _) fun k h1 e => by omega⟩
  · have h2 : 4 < x := by omega
    have h0 : 1 ≤ x := by omega
    clear h h1
    go_enter Try.func7, Try.ntmps7
    go_upto_region 1 with (fail)
    have hb := Blk.new w 25 [.int .i64 0, .slice none 0 0, .int .i64 0, .int .i64 0, .int .i64 0]
    have hg : Grow w (w.alloc (.cells #[.int .i64 0, .slice none 0 0, .int .i64 0, .int .i64 0, .int .i64 0] 25)) := (Kept.refl _ _).alloc _
    generalize w.alloc (.cells #[.int .i64 0, .slice none 0 0, .int .i64 0, .int .i64 0, .int .i64 0] 25) = w0 at *
    have HG := Lib.hid hg
    have HB := Lib.hid hb
    obtain ⟨k0, k1, k2, k3, k4⟩ := cells5 hb
    have fz := hb.frozenAll
    clear hb hg
    go_wp2
    go_step3
    go_wp2
    try rw [Exit.noGoto_ret]
    refine ret_dir rfl rfl (blk_set5 HB.out) rfl ?_
    exact ⟨rfl, HG.out.then (kept_set5 _ _ _ _ _ _ _) fun k h1 e => by omega⟩

theorem new_good {n : Nat} (h1 : 1 ≤ n) (h4 : n ≤ 4) : Calls Try.prog 7 #[.int .i64 (n : Int)] w (NewP n w) := by
  have h1z : 1 ≤ (n : Int) := by omega
  have h4z : (n : Int) ≤ 4 := by omega
  have km := fun (w : World) => madeI w 16 (by omega)
  go_enter Try.func7, Try.ntmps7
  go_upto_region 1 with (fail)
  have hb := Blk.new w 25 [.int .i64 0, .slice none 0 0, .int .i64 0, .int .i64 0, .int .i64 0]
  have hg : Grow w (w.alloc (.cells #[.int .i64 0, .slice none 0 0, .int .i64 0, .int .i64 0, .int .i64 0] 25)) := (Kept.refl _ _).alloc _
  generalize w.alloc (.cells #[.int .i64 0, .slice none 0 0, .int .i64 0, .int .i64 0, .int .i64 0] 25) = w0 at *
  have HG := Lib.hid hg
  have HB := Lib.hid hb
  clear hb hg
  go_wp2
  go_step3
  have HR0 : Hid (Nr (w0.alloc (.cells (madeCells #[.int .i64 0] 16) 3)) w0.heap.size 16 fun _ => 0) := nr_made w0 16
  have HG0 : Hid (Grow w (w0.alloc (.cells (madeCells #[.int .i64 0] 16) 3))) := HG.out.alloc _
  have HQ : Hid (w.heap.size < w0.heap.size) := HB.out.lt
  have HB0 := Lib.hid (HB.out.alloc (.cells (madeCells #[.int .i64 0] 16) 3))
  generalize hw1 : w0.alloc (.cells (madeCells #[.int .i64 0] 16) 3) = w1 at *
  obtain ⟨Q, hQe⟩ : ∃ Q, w0.heap.size = Q := ⟨_, rfl⟩
  have km : (Instr.makeSlice 23 (.int .i64 16) (.int .i64 16)).run Try.prog w0 = .ok (.slice (some ⟨Q, 0, none⟩) 16 16) w1 := by rw [← hw1, ← hQe]; exact madeI w0 16 (by omega)
  rw [hQe] at HR0 HQ
  clear hw1 hQe
  go_upto_region 4 with (go_at_call 17; (with_reducible refine still_any.mono ?_); rintro e w2 ⟨rfl, hg⟩; have G2 := Lib.hid hg; clear hg)
  clear km
  have B3 := Lib.hid (Blk.new w2 25 [.int .i64 1, .slice (some ⟨Q, 0, none⟩) 16 16, .int .i64 (-1), .int .i64 0, .int .i64 0])
  have G3 : Hid (Grow w1 (w2.alloc (.cells #[.int .i64 1, .slice (some ⟨Q, 0, none⟩) 16 16, .int .i64 (-1), .int .i64 0, .int .i64 0] 25))) := G2.out.alloc _
  have HX : Hid (Q < w2.heap.size) := Nat.lt_of_lt_of_le (Row.lt HR0.out) G2.out.size
  generalize w2.alloc (.cells #[.int .i64 1, .slice (some ⟨Q, 0, none⟩) 16 16, .int .i64 (-1), .int .i64 0, .int .i64 0] 25) = w3 at *
  generalize w2.heap.size = X at *
  have R3 := Lib.hid (HR0.out.grow G3.out)
  have Z3 := Lib.hid (HB0.out.grow G3.out)
  have GW : Hid (Grow w w3) := HG0.out.trans G3.out
  clear HR0 HB0 HG0 HB HG G2 G3
  obtain ⟨k0, k1, k2, k3, k4⟩ := cells5 B3.out
  go_wp2
  go_step3
  go_wp2
  clear k0 k1 k2 k3 k4
  go_loopg [4, 19] 16 (fun gx s i wr => ∃ j S : Nat, j + gx = 16 ∧ i = .int .i64 (j : Int) ∧ s = .int .i64 (S : Int) ∧ S = j % n ∧ Nr wr Q 16 (fun q => if q < j then turns n q else 0) ∧ Kept (fun k => k = Q) w3 wr)
  case atStart => exact ⟨0, 0, by omega, rfl, rfl, (Nat.zero_mod n).symm, R3.out.same fun s _ => if_neg (Nat.not_lt_zero s), Kept.refl _ _⟩
  case round =>
    obtain ⟨j, S, hg, rfl, rfl, hS, hr, hk⟩ := hrel
    have HJ := Lib.hid hg
    have HS := Lib.hid hS
    have HR := Lib.hid hr
    have HK := Lib.hid hk
    clear hg hS hr hk
    by_cases hj : j < 16
    · have hjz : (j : Int) < 16 := by omega
      have hSn : S < n := by rw [HS.out]; exact Nat.mod_lt _ (by omega)
      have hSz : (S : Int) < (n : Int) := by omega
      obtain ⟨k0, k1, k2, k3, k4⟩ := cells5 (B3.out.kept HK.out (by have := HX.out; omega))
      have r0 := HR.out.cell hj
      have f0 := Row.frozen HR.out j
      rw [if_neg (Nat.lt_irrefl j)] at r0
      have HR1 : Hid (Nr (wr.setCell ⟨Q, j, none⟩ (.int .i64 (S : Int))) Q 16 (fun q => if q < j + 1 then turns n q else 0)) := HR.out.set j _ fun q _ => by
        by_cases e : q = j
        · subst e; rw [if_pos (Nat.lt_succ_self q), if_pos rfl, HS.out]; rfl
        · rw [if_neg e]
          by_cases e2 : q < j
          · rw [if_pos e2, if_pos (by omega)]
          · rw [if_neg e2, if_neg (by omega)]
      have HK1 : Hid (Kept (fun k => k = Q) w3 (wr.setCell ⟨Q, j, none⟩ (.int .i64 (S : Int)))) := HK.out.setCell (p := ⟨Q, j, none⟩) (fun _ => rfl) _
      have HJJ := Lib.hid hj
      have HSN := Lib.hid hSn
      clear hj hSn
      go_upto_region 9 with (fail)
      clear k0 k1 k2 k3 k4 r0 f0
      generalize wr.setCell ⟨Q, j, none⟩ (.int .i64 (S : Int)) = w4 at HR1 HK1 ⊢
      by_cases hs : S + 1 < n
      · have hsz : (S : Int) + 1 < (n : Int) := by omega
        have HSS : Hid (S + 1 = (j + 1) % n) := by
          have := HS.out
          show S + 1 = _
          rw [Nat.add_mod, ← this]
          by_cases e1 : n = 1
          · omega
          · rw [Nat.mod_eq_of_lt (show 1 < n by omega), Nat.mod_eq_of_lt hs]
        clear hs
        go_wp2
        go_roundg (gk - 1)
        case measure => have := HJ.out; omega
        case rel => exact ⟨j + 1, S + 1, by have := HJ.out; omega, by go_num, by go_num, HSS.out, HR1.out, HK1.out⟩
      · have hsz : (n : Int) ≤ (S : Int) + 1 := by omega
        have HSS : Hid (0 = (j + 1) % n) := by
          have := HS.out
          have h2 := HSN.out
          show 0 = _
          have e1 : S + 1 = n := by omega
          rw [Nat.add_mod, ← this]
          by_cases e2 : n = 1
          · subst e2; omega
          · rw [Nat.mod_eq_of_lt (show 1 < n by omega), e1, Nat.mod_self]
        clear hs
        go_wp2
        go_roundg (gk - 1)
        case measure => have := HJ.out; omega
        case rel => exact ⟨j + 1, 0, by have := HJ.out; omega, by go_num, by go_num, HSS.out, HR1.out, HK1.out⟩
    · obtain rfl : j = 16 := by have := HJ.out; omega
      obtain ⟨k0, k1, k2, k3, k4⟩ := cells5 (B3.out.kept HK.out (by have := HX.out; omega))
      have Z4 := Lib.hid (Z3.out.kept HK.out (by have := HQ.out; omega))
      obtain ⟨j0, j1, j2, j3, j4⟩ := cells5 Z4.out
      have fz := Z4.out.frozenAll
      go_wp2
      try rw [Exit.noGoto_ret]
      refine ret_dir rfl rfl (blk_set5 Z4.out) rfl ?_
      have hq := HQ.out
      exact ⟨Q, 0, 16, rfl, Nm.of_nr ((HR.out.kept (kept_set5 _ _ _ _ _ _ _) (by omega)).same fun q hq => (if_pos hq).symm), by omega, (GW.out.then HK.out fun k h1 e => by omega).then (kept_set5 _ _ _ _ _ _ _) fun k h1 e => by omega⟩
end
end Go.Proofs.Ytfmlbpnilblkjaa.DrN
