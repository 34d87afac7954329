/-
  For every input the call of lavabolaw3.DiskKeeps returns true and leaves its arguments as they were; no condition.
-/
import Derived.Test.YtfjcbcpfhjaeeaaDevSteps
import Derived.Test.YtfjcbcpfhjaeeaaRows
import Derived.WalkKit
import Derived.ProofKit
import Derived.OpenShut
import Derived.ShutString
import Derived.ChangeOld
import Derived.Below
namespace Go.Proofs.Ytfjcbcpfhjaeeaa.diskKeeps
open Go.ChangeShapes Go.WideShapes Go.ChangeAt Go.RowKit
open Go.ChangeMaps (open_string shut_string)
open Go.Proofs.Ytfjcbcpfhjaeeaa.SumM Go.Proofs.Ytfjcbcpfhjaeeaa.Mem Go.Proofs.Ytfjcbcpfhjaeeaa.Blk Go.Proofs.Ytfjcbcpfhjaeeaa.PageM Go.Proofs.Ytfjcbcpfhjaeeaa.Str Go.Proofs.Ytfjcbcpfhjaeeaa.Dev Go.Proofs.Ytfjcbcpfhjaeeaa.LibC Go.Proofs.Ytfjcbcpfhjaeeaa.DevC Go.Proofs.Ytfjcbcpfhjaeeaa.DevM Go.Proofs.Ytfjcbcpfhjaeeaa.DevY Go.Proofs.Ytfjcbcpfhjaeeaa.DevK Go.Proofs.Ytfjcbcpfhjaeeaa.DevX Go.Proofs.Ytfjcbcpfhjaeeaa.DevN Go.Proofs.Ytfjcbcpfhjaeeaa.Told3 Go.Proofs.Ytfjcbcpfhjaeeaa.DevS Go.Proofs.Ytfjcbcpfhjaeeaa.Stages
set_option linter.unusedVariables false

theorem own : ownKnob Try.prog.godebug = none := by kernel_rfl
theorem laidOut : laidOutB Try.prog = true := by kernel_rfl

/-- WHAT THE WALK IS TOLD OF A SLICE OF INTEGERS THAT CAME IN: it is nil; or it leads to a row of 'cap' cells, the numbers 'zs' (the first 'len' are its elements, the rest its spare room), each fitting its kind. -/
def IsRow (k : IntKind) (w : World) (a : Option Addr) (len cap : Nat) (zs : List Int) : Prop :=
  (a = none ∧ len = 0 ∧ cap = 0 ∧ zs = []) ∨
  ∃ x, a = some x ∧ len ≤ cap ∧ cap ≤ maxLen ∧ zs.length = cap ∧ (∀ i, i < zs.length → w.cell? (x.add i) = some (.int k (zs.getD i 0))) ∧ ∀ n ∈ zs, (Lit.int k n).wf = true

/-- The device behind the sync; behind one write more. -/
def kS (z : List Int) : Dv := { N := 1, dur := fun _ => z, wr := fun _ => none, n := 2, bad := 0, down := false }
def mS (z y : List Int) : Dv := { N := 1, dur := fun _ => z, wr := fun q => if q = 0 then some y else none, n := 3, bad := 0, down := false }
/-- Half of each: two bytes. -/
def halves (X Y : Int) : List Int := List.replicate 12 X ++ List.replicate 12 Y
theorem halves_lo (X Y : Int) {i : Nat} (h : i < 12) : (halves X Y).getD i 0 = X := by
  unfold halves
  rw [List.getD_eq_getElem?_getD, List.getElem?_append_left (by simpa using h), List.getElem?_replicate, if_pos h]; rfl
theorem halves_hi (X Y : Int) {i : Nat} (h : i < 12) : (halves X Y).getD (12 + i) 0 = Y := by
  unfold halves
  rw [List.getD_eq_getElem?_getD, List.getElem?_append_right (by simp), List.length_replicate, show 12 + i - 12 = i by omega, List.getElem?_replicate, if_pos h]; rfl
theorem settle_halves (f : Nat) (a b : Int) (hf : f < 4) : ∃ X Y, settleI f (ofB a) (ofB b) = halves X Y ∧ (X = a ∨ X = b) ∧ (Y = a ∨ Y = b) := by
  match f, hf with
  | 0, _ => exact ⟨a, a, rfl, .inl rfl, .inl rfl⟩
  | 1, _ => exact ⟨b, b, rfl, .inr rfl, .inr rfl⟩
  | 2, _ => exact ⟨b, a, rfl, .inr rfl, .inl rfl⟩
  | 3, _ => exact ⟨a, b, rfl, .inl rfl, .inr rfl⟩

/-! ### STEP 1: THE WALK: the Go text returns true, AND WRITES NOTHING THAT WAS THERE: 'Below w.heap.size w w'' (Derived/Below.lean: '.refl', '.alloc', '.drew', '.setCell' at a new block, '.trans'). Open each 'IsRow' by 'rcases' AHEAD of 'go_enter'; part every test ahead of the walk. -/
set_option maxHeartbeats 4000000 in
set_option maxRecDepth 100000 in
theorem walk (a0 : Int) (a1 : Int) (a2 : Option Addr) (len2 cap2 : Nat) (z2 : List Int) (a3 : Bool) (w : World) (w0 : (Lit.int .u8 a0).wf = true) (w1 : (Lit.int .u8 a1).wf = true) (w2 : IsRow .u8 w a2 len2 cap2 z2) :
    Calls Try.prog 4 #[.int .u8 a0, .int .u8 a1, .slice a2 len2 cap2, .bool a3] w fun e w' => e = .returned (.bool true) ∧ Below w.heap.size w w' := by
  have k0 := bounds_u8 w0
  have k1 := bounds_u8 w1
  have u0 : U8 a0 := ⟨by omega, by omega⟩
  have u1 : U8 a1 := ⟨by omega, by omega⟩
  obtain ⟨hs, hle, hcap, hwf⟩ := Sl.of_isRow w2
  have hz : Bytes (z2.take len2) := fun c hc => by have := bounds_u8 (hwf c hc); exact ⟨by omega, by omega⟩
  clear w2 hwf
  generalize z2.take len2 = bs at hs hz
  have kc := hcap
  unfold maxLen at kc
  have HS := Lib.hid hs
  have CB := Lib.hid bytes_any
  clear hs
  go_enter Try.func4, Try.ntmps4
  go_upto_region 2 with (go_at_call 8; (with_reducible refine (new_int 1 1 _ (by omega) (by omega) (by omega)).mono ?_); rintro e w1 ⟨d, D, W, rfl, hdev, hold, hgr⟩; have HD1 := Lib.hid hdev; have HOLD := Lib.hid hold; have HG1 := Lib.hid hgr; clear hdev hold hgr)
  have HLOW := Lib.hid (newG_low HD1.out HG1.out.size)
  by_cases h10 : 10 < len2
  · have h10z : (10 : Int) < (len2 : Int) := by omega
    go_wp2_with (go_at_call 10; (with_reducible refine (told_any _).mono ?_); rintro e w' ⟨rfl, hb⟩; have HGE := Lib.hid hb; clear hb)
    go_ret
    exact ⟨rfl, Grow.below (HG1.out.trans HGE.out)⟩
  · have h10z : (len2 : Int) ≤ 10 := by omega
    have CW := Lib.hid fun (wx : World) (g : Nat) (hx' : Grow w1 wx) (hg : w1.heap.size ≤ g) (hb : NBlk wx g 5 .u8 (ofB a0)) =>
        write_int 0 (HD1.out.grow hx') 0 rfl (by show 0 < 1; omega) (some ⟨g, 0, none⟩) 24 (g + 1) _ (fun w' hk => Sl.of_blk0 (Blk.kept hb hk (fun h => by have := HD1.out.lt; rcases h with rfl | rfl | rfl <;> omega)) (ofB_len _) (by omega)) (ofB_bytes u0) (fun k hk => Nat.lt_of_lt_of_le (HLOW.out k hk) hx'.size) (by decide) (by decide) rfl
    have CS := Lib.hid fun (wx : World) (h : DevAt wx d D W (newG w d D W) (putS (accS (newS 1)) 0 (ofB a0))) => sync_good h (by show ((1 : Nat) : Int) < 9223372036854775807; decide) (by show ((0 : Nat) : Int) < 9223372036854775807; decide) rfl
    clear h10
    go_upto_region 4 with (first
      | (go_at_call 14; (with_reducible refine (CB.out _ _).mono ?_); rintro e w2 ⟨g, rfl, hg, hblk, hgr⟩; have HB2 := Lib.hid hblk; have HGR2 := Lib.hid hgr; have HGG2 := Lib.hid hg; clear hblk hgr hg)
      | (go_at_call 13; (with_reducible refine (CW.out _ _ HGR2.out HGG2.out HB2.out).mono ?_); rintro e w3 ⟨rfl, hdev, hkp⟩; have HD3 := Lib.hid hdev; have HK3 := Lib.hid hkp; clear hdev hkp)
      | (go_at_call 16; (with_reducible refine (CS.out _ HD3.out).mono ?_); rintro e w4 ⟨rfl, hdev, hkp⟩; have HD4' := Lib.hid hdev; have HK4 := Lib.hid hkp; clear hdev hkp))
    have HD4 : Hid (DevAt w4 d D W (newG w d D W) (kS (ofB a0))) := HD4'.out.congr rfl rfl rfl rfl (fun p hp => by
      have hp' : p < 1 := hp
      obtain rfl : p = 0 := by omega
      rfl) (fun _ _ => rfl)
    have HKK4 : Hid (Kept (Own d D W) w w4) := ((Grow.kept (HG1.out.trans HGR2.out)).then HK3.out (fun _ _ x => x)).then HK4.out (fun _ _ x => x)
    have HOW : Hid (∀ k, k < w.heap.size → ¬ Own d D W k) := fun k hk h => by
      have := HOLD.out
      rcases h with rfl | rfl | rfl <;> omega
    clear CW CS HD4'
    have hlow4 := fun (wx : World) (hx : w1.heap.size ≤ wx.heap.size) (k : Nat) (hk : newG w d D W k) => Nat.lt_of_lt_of_le (HLOW.out k hk) hx
    have hz14 : w1.heap.size ≤ w4.heap.size := Nat.le_trans HGR2.out.size (Nat.le_trans HK3.out.size HK4.out.size)
    have hbk : ∀ (wx w' : World), Kept (Own d D W) w wx → Kept (Own d D W) wx w' → Sl w' w.heap.size .u8 a2 len2 bs := fun wx w' h1 h2 => Sl.kept HS.out (h1.trans h2) (Nat.le_refl _) HOW.out
    have HBK := Lib.hid hbk
    have HLOW4 := Lib.hid hlow4
    have HZ14 := Lib.hid hz14
    clear hlow4 hz14 hbk
    have HGOAL : Hid (∃ X Y, True) := ⟨0, 0, trivial⟩
    cases a3 with
    | false =>
      have CC := Lib.hid (crash_good HD4.out a2 len2 cap2 w.heap.size bs rfl (fun w' hk => HBK.out _ _ HKK4.out hk) hz (Nat.le_trans hle hcap) (HLOW4.out _ HZ14.out))
      go_upto_region 6 with (go_at_call 20; (with_reducible refine CC.out.mono ?_); rintro e w7 ⟨rfl, hdev, hkp⟩; have HD7' := Lib.hid hdev; have HK7' := Lib.hid hkp; clear hdev hkp)
      have HK7 : Hid (Kept (Own d D W) w w7) := HKK4.out.trans HK7'.out
      clear HGOAL
      obtain ⟨X, Y, hX, hY, hZ⟩ : ∃ X Y, X = a0 ∧ Y = a0 ∧ ofB a0 = halves X Y := ⟨a0, a0, rfl, rfl, rfl⟩
      have hdu : Calls Try.prog 23 #[.pointer (some ⟨d, 0, none⟩)] w7 (DurOf w7 1 fun _ => halves X Y) := by
        rw [← hZ]; exact durable_any HD7'.out
      have HDU := Lib.hid hdu
      clear hdu hZ CC HD7'
      go_upto_region 7 with (go_at_call 23; (with_reducible refine HDU.out.mono ?_); rintro e w8 ⟨g8, c8, f8, rfl, _, hrow, hfr, hgr⟩; have HR8 := Lib.hid hrow; have HF8 := Lib.hid hfr; have HG8 := Lib.hid hgr; clear hrow hfr hgr)
      obtain ⟨bF, cF, hF, hF1, hF2, _, hrowF, _, _⟩ := HF8.out 0 (by omega)
      have HRF := Lib.hid hrowF
      have q1 := HR8.out.cell (i := 0) (by omega)
      rw [hF] at q1
      unfold maxLen at hF2
      clear hF hrowF HDU
      go_upto_region 9 with (fail)
      have z1 := up_cell (F := fun _ => False) (w := w8.drew) q1 id
      refine wp_region_stages Grow (kept_refl _) (kept_trans _) [] [0, 1, 2, 3, 4, 5, 6, 7, 8, 9] (by kernel_rfl) (by kernel_rfl) ?_
      simp only [selSt, sel, List.map_cons, List.map_nil, List.getD_cons_succ, List.getD_cons_zero]
      refine st_nil fun K2 hK2 => ?_
      repeat (go_big_quiet_step (fail))
      refine wpQuiet_nil (hK2 _ ?_)
      clear hK2 K2 z1 q1
      go_wp2
      go_loopg [13] 12 (fun gx i wr => ∃ j : Nat, j + gx = 12 ∧ i = .int .i64 (j : Int) ∧ Grow w8 wr)
      case atStart => exact ⟨0, rfl, rfl, Kept.drew' _⟩
      case round =>
        obtain ⟨j, hg, rfl, hgr⟩ := hrel
        have HGR := Lib.hid hgr
        have HG := Lib.hid hg
        clear hg hgr
        by_cases hj : j < 12
        · have hjz : (j : Int) < 12 := by omega
          have hrr := (HRF.out.grow HGR.out).drew
          have e0 := hrr.cell (i := 0) (by omega)
          have ej := hrr.cell (i := j) (by omega)
          have f0 := hrr.cell (i := 12) (by omega)
          have fj := hrr.cell (i := 12 + j) (by omega)
          rw [halves_lo X Y (by omega)] at e0
          rw [halves_lo X Y hj] at ej
          rw [show (halves X Y).getD 12 0 = Y from halves_hi X Y (i := 0) (by omega)] at f0
          rw [halves_hi X Y hj] at fj
          have z0 := up_cell (F := fun _ => False) (w := wr.drew) e0 id
          have z1 := up_cell (F := fun _ => False) (w := wr.drew) ej id
          have z2 := up_cell (F := fun _ => False) (w := wr.drew) f0 id
          have z3 := up_cell (F := fun _ => False) (w := wr.drew) fj id
          clear e0 ej f0 fj hrr
          have HNX : Hid (Grow w8 wr.drew) := HGR.out.drew
          subst hX hY
          all_goals
            go_upto_region 13 with (fail)
            refine wp_region_stages Grow (kept_refl _) (kept_trans _) [] [0, 1, 2, 3, 4, 5, 6, 7, 8, 9, 10, 11, 12, 13, 14, 15, 16, 17, 18, 19, 20, 21, 22, 23, 24, 25, 26, 27, 28, 29, 30, 31, 32, 33, 34, 35, 36, 37, 38, 39, 40, 41, 42, 43, 44, 45, 46, 47, 48, 49, 50, 51, 52, 53] (by kernel_rfl) (by kernel_rfl) ?_
            simp only [selSt, sel, List.map_cons, List.map_nil, List.getD_cons_succ, List.getD_cons_zero]
            refine st_nil fun K2 hK2 => ?_
            repeat (go_big_quiet_step (fail))
            refine wpQuiet_nil (hK2 _ ?_)
            clear hK2 K2 z0 z1 z2 z3
            go_wp2
            go_roundg (12 - (j + 1))
            case measure => have := HG.out; omega
            case rel => exact ⟨j + 1, by omega, by go_num, HNX.out⟩
        · obtain rfl : j = 12 := by have := HG.out; omega
          simp only [Int.cast_ofNat_Int]
          go_wp2_with (go_at_call 10; (with_reducible refine (told_any _).mono ?_); rintro e w9 ⟨rfl, hge⟩; have HGE := Lib.hid hge; clear hge)
          go_ret
          exact ⟨rfl, Kept.below (((HK7.out.then HG8.out (fun _ _ x => x.elim)).then HGR.out (fun _ _ x => x.elim)).then HGE.out (fun _ _ x => x.elim)) (fun k h => Nat.le_of_not_lt fun hk => HOW.out k hk h) (Nat.le_refl _)⟩
    | true =>
      have CW := Lib.hid fun (wx : World) (g : Nat) (hx' : Grow w4 wx) (hg : w4.heap.size ≤ g) (hb : NBlk wx g 5 .u8 (ofB a1)) =>
        write_int 0 (HD4.out.grow hx') 0 rfl (by show 0 < 1; omega) (some ⟨g, 0, none⟩) 24 (g + 1) _ (fun w' hk => Sl.of_blk0 (Blk.kept hb hk (fun h => by have := HD4.out.lt; rcases h with rfl | rfl | rfl <;> omega)) (ofB_len _) (by omega)) (ofB_bytes u1) (HLOW4.out _ (Nat.le_trans HZ14.out hx'.size)) (by show ((2 : Nat) : Int) < 9223372036854775807; decide) (by show ((0 : Nat) : Int) < 9223372036854775807; decide) rfl
      have CC := Lib.hid fun (w5 w6 : World) (h : DevAt w6 d D W (newG w d D W) (putS (accS (kS (ofB a0))) 0 (ofB a1))) (h5 : Grow w4 w5) (h6 : Kept (Own d D W) w5 w6) => crash_good h a2 len2 cap2 w.heap.size bs rfl (fun w' hk => HBK.out _ _ ((HKK4.out.then h5 (fun _ _ x => x.elim)).then h6 (fun _ _ x => x)) hk) hz (Nat.le_trans hle hcap) (HLOW4.out _ (Nat.le_trans HZ14.out (Nat.le_trans h5.size h6.size)))
      go_upto_region 6 with (first
        | (go_at_call 14; (with_reducible refine (CB.out _ _).mono ?_); rintro e w5 ⟨g5, rfl, hg, hblk, hgr⟩; have HB5 := Lib.hid hblk; have HGR5 := Lib.hid hgr; have HGG5 := Lib.hid hg; clear hblk hgr hg)
        | (go_at_call 13; (with_reducible refine (CW.out _ _ HGR5.out HGG5.out HB5.out).mono ?_); rintro e w6 ⟨rfl, hdev, hkp⟩; have HD6 := Lib.hid hdev; have HK6 := Lib.hid hkp; clear hdev hkp)
        | (go_at_call 20; (with_reducible refine (CC.out _ _ HD6.out HGR5.out HK6.out).mono ?_); rintro e w7 ⟨rfl, hdev, hkp⟩; have HD7' := Lib.hid hdev; have HK7' := Lib.hid hkp; clear hdev hkp))
      have HK7 : Hid (Kept (Own d D W) w w7) := ((HKK4.out.then HGR5.out (fun _ _ x => x.elim)).then HK6.out (fun _ _ x => x)).then HK7'.out (fun _ _ x => x)
      clear HGOAL
      obtain ⟨X, Y, hZ, hX, hY⟩ := settle_halves (fate bs 0) a0 a1 (fate_lt _ _)
      have hdu : Calls Try.prog 23 #[.pointer (some ⟨d, 0, none⟩)] w7 (DurOf w7 1 fun _ => halves X Y) := by
        rw [← hZ]
        refine durable_any (HD7'.out.congr (S' := { kS (settleI (fate bs 0) (ofB a0) (ofB a1)) with n := 3, down := true }) rfl rfl rfl rfl (fun p hp => ?_) (fun _ _ => rfl))
        have hp' : p < 1 := hp
        obtain rfl : p = 0 := by omega
        rfl
      have HDU := Lib.hid hdu
      clear hdu hZ CC CW HD7'
      go_upto_region 7 with (go_at_call 23; (with_reducible refine HDU.out.mono ?_); rintro e w8 ⟨g8, c8, f8, rfl, _, hrow, hfr, hgr⟩; have HR8 := Lib.hid hrow; have HF8 := Lib.hid hfr; have HG8 := Lib.hid hgr; clear hrow hfr hgr)
      obtain ⟨bF, cF, hF, hF1, hF2, _, hrowF, _, _⟩ := HF8.out 0 (by omega)
      have HRF := Lib.hid hrowF
      have q1 := HR8.out.cell (i := 0) (by omega)
      rw [hF] at q1
      unfold maxLen at hF2
      clear hF hrowF HDU
      go_upto_region 9 with (fail)
      have z1 := up_cell (F := fun _ => False) (w := w8.drew) q1 id
      refine wp_region_stages Grow (kept_refl _) (kept_trans _) [] [0, 1, 2, 3, 4, 5, 6, 7, 8, 9] (by kernel_rfl) (by kernel_rfl) ?_
      simp only [selSt, sel, List.map_cons, List.map_nil, List.getD_cons_succ, List.getD_cons_zero]
      refine st_nil fun K2 hK2 => ?_
      repeat (go_big_quiet_step (fail))
      refine wpQuiet_nil (hK2 _ ?_)
      clear hK2 K2 z1 q1
      go_wp2
      go_loopg [13] 12 (fun gx i wr => ∃ j : Nat, j + gx = 12 ∧ i = .int .i64 (j : Int) ∧ Grow w8 wr)
      case atStart => exact ⟨0, rfl, rfl, Kept.drew' _⟩
      case round =>
        obtain ⟨j, hg, rfl, hgr⟩ := hrel
        have HGR := Lib.hid hgr
        have HG := Lib.hid hg
        clear hg hgr
        by_cases hj : j < 12
        · have hjz : (j : Int) < 12 := by omega
          have hrr := (HRF.out.grow HGR.out).drew
          have e0 := hrr.cell (i := 0) (by omega)
          have ej := hrr.cell (i := j) (by omega)
          have f0 := hrr.cell (i := 12) (by omega)
          have fj := hrr.cell (i := 12 + j) (by omega)
          rw [halves_lo X Y (by omega)] at e0
          rw [halves_lo X Y hj] at ej
          rw [show (halves X Y).getD 12 0 = Y from halves_hi X Y (i := 0) (by omega)] at f0
          rw [halves_hi X Y hj] at fj
          have z0 := up_cell (F := fun _ => False) (w := wr.drew) e0 id
          have z1 := up_cell (F := fun _ => False) (w := wr.drew) ej id
          have z2 := up_cell (F := fun _ => False) (w := wr.drew) f0 id
          have z3 := up_cell (F := fun _ => False) (w := wr.drew) fj id
          clear e0 ej f0 fj hrr
          have HNX : Hid (Grow w8 wr.drew) := HGR.out.drew
          have hX' : X = a0 ∨ (X = a1 ∧ (a1 != a0) = true) := by
            by_cases e : a1 = a0
            · subst e; rcases hX with h | h <;> exact .inl h
            · exact hX.imp id fun h => ⟨h, by simpa [bne_iff_ne] using e⟩
          have hY' : Y = a0 ∨ (Y = a1 ∧ (a1 != a0) = true) := by
            by_cases e : a1 = a0
            · subst e; rcases hY with h | h <;> exact .inl h
            · exact hY.imp id fun h => ⟨h, by simpa [bne_iff_ne] using e⟩
          clear hX hY
          rcases hX' with rfl | ⟨rfl, hb1⟩ <;> rcases hY' with rfl | ⟨rfl, hb2⟩
          all_goals
            go_upto_region 13 with (fail)
            refine wp_region_stages Grow (kept_refl _) (kept_trans _) [] [0, 1, 2, 3, 4, 5, 6, 7, 8, 9, 10, 11, 12, 13, 14, 15, 16, 17, 18, 19, 20, 21, 22, 23, 24, 25, 26, 27, 28, 29, 30, 31, 32, 33, 34, 35, 36, 37, 38, 39, 40, 41, 42, 43, 44, 45, 46, 47, 48, 49, 50, 51, 52, 53] (by kernel_rfl) (by kernel_rfl) ?_
            simp only [selSt, sel, List.map_cons, List.map_nil, List.getD_cons_succ, List.getD_cons_zero]
            refine st_nil fun K2 hK2 => ?_
            repeat (go_big_quiet_step (fail))
            refine wpQuiet_nil (hK2 _ ?_)
            clear hK2 K2 z0 z1 z2 z3
            go_wp2
            go_roundg (12 - (j + 1))
            case measure => have := HG.out; omega
            case rel => exact ⟨j + 1, by omega, by go_num, HNX.out⟩
        · obtain rfl : j = 12 := by have := HG.out; omega
          simp only [Int.cast_ofNat_Int]
          go_wp2_with (go_at_call 10; (with_reducible refine (told_any _).mono ?_); rintro e w9 ⟨rfl, hge⟩; have HGE := Lib.hid hge; clear hge)
          go_ret
          exact ⟨rfl, Kept.below (((HK7.out.then HG8.out (fun _ _ x => x.elim)).then HGR.out (fun _ _ x => x.elim)).then HGE.out (fun _ _ x => x.elim)) (fun k h => Nat.le_of_not_lt fun hk => HOW.out k hk h) (Nat.le_refl _)⟩

/-! ### THE ROW's STEP: WRITTEN OUT: LEAVE IT -/
set_option maxRecDepth 100000 in
theorem lifted (os : Os) (started : os.Started) (H : Type) (enc : TypeId × Value → H) :
    ReturnsInHanded {} Try.checked os 4 .any (Rows.diskKeepsSpec.pre6 enc Try.prog Try.f4 Rows.diskKeepsRow.domain false) (Rows.diskKeepsSpec.post enc Try.prog Try.f4 false true false false) := by
  refine returnsInHanded_of_change (C := Try.checked) own started (by kernel_rfl) Try.func4
    (ChangeSpec.witness6 (enc := enc) (C := Try.checked) false ⟨#[], #[.int .u8 0, .int .u8 0, .slice none 0 0, .bool false], []⟩ 8 (by kernel_rfl) (by kernel_rfl) (by kernel_rfl) (by kernel_rfl)) ?_
  intro W base args ds gs before hval0 hW hcnd _
  have hval : ∀ (j : Nat) t v, Try.f4.params[j]? = some t → args[j]? = some v → Value.okWide Try.prog W .any base t v := hval0
  have hW' := hW
  obtain ⟨p, q, hA0, hV, rfl, hfz, hnd⟩ := hW
  have hA : DataW.TrodAll enc Try.prog W 0 (fun _ => true) true Try.f4.params.toList args.toList ds p := hA0
  rw [Try.params4] at hA hval
  obtain ⟨v0, vs0, d0, ds0, p0, q0, hargs, rfl, rfl, h0, r0⟩ := trodAll_cons hA
  obtain ⟨v1, vs1, d1, ds1, p1, q1, rfl, rfl, rfl, h1, r1⟩ := trodAll_cons r0
  obtain ⟨v2, vs2, d2, ds2, p2, q2, rfl, rfl, rfl, h2, r2⟩ := trodAll_cons r1
  obtain ⟨v3, vs3, d3, ds3, p3, q3, rfl, rfl, rfl, h3, r3⟩ := trodAll_cons r2
  obtain ⟨rfl, rfl, rfl⟩ := trodAll_nil r3
  obtain rfl : args = #[v0, v1, v2, v3] := by cases args; simp_all
  obtain ⟨rfl, rfl⟩ := trodVars_none hV
  obtain ⟨a0, rfl, rfl, rfl, w0⟩ := open_int Try.underlying5 (hval 0 5 v0 rfl rfl) h0
  obtain ⟨a1, rfl, rfl, rfl, w1⟩ := open_int Try.underlying5 (hval 1 5 v1 rfl rfl) h1
  obtain ⟨a2, len2, cap2, rfl⟩ := okWide_slice Try.underlying28 (hval 2 28 v2 rfl rfl)
  have k2 := h2
  have lt2 : ∀ x ∈ p2, x.block < W.heap.size := by obtain ⟨m, hm⟩ := k2; exact DataW.trod_lt m _ _ _ hm
  obtain ⟨z2, w2⟩ : ∃ zs, IsRow .u8 W a2 len2 cap2 zs := by
    obtain ⟨fuel, hf⟩ := h2
    rcases open_ints Try.underlying28 Try.underlying5 (by kernel_rfl) hf with ⟨hcs, _⟩ | ⟨x, l, c, zs, hcs, _, hl, hm, hz, _, hcell, hwz⟩
    · simp [Value.cells] at hcs
      obtain ⟨rfl, rfl, rfl⟩ := hcs
      exact ⟨[], .inl ⟨rfl, rfl, rfl, rfl⟩⟩
    · simp [Value.cells] at hcs
      obtain ⟨rfl, rfl, rfl⟩ := hcs
      exact ⟨zs, .inr ⟨_, rfl, hl, hm, by simpa using hz, hcell, hwz⟩⟩
  obtain ⟨a3, rfl, rfl, rfl⟩ := open_bool Try.underlying4 (hval 3 4 v3 rfl rfl) h3
  clear hA0 hval0
  refine (walk a0 a1 a2 len2 cap2 z2 a3 W w0 w1 w2).mono fun e W' ⟨he, bel⟩ => ?_
  subst he
  exact ⟨_, rfl, _, _, _, [], _, [], hW', trodAll_mk1 (shut_bool Try.underlying4 _), (trodAll_cons_mk (shut_int Try.underlying5 w0) (trodAll_cons_mk (shut_int Try.underlying5 w1) (trodAll_cons_mk (Below.trod laidOut (by kernel_rfl) (of_decide_eq_true (by kernel_rfl)) k2 bel lt2) (trodAll_cons_mk (shut_bool Try.underlying4 _) trodAll_mk0)))), rfl, bel.frame _, fun h => by cases h⟩

theorem over : Rows.diskKeepsRow.holds Try.pinned (OpenSpec.ofChange Rows.diskKeepsSpec) :=
  OpenClaim.holds_of_wide 4 Try.f4 rfl rfl rfl rfl rfl rfl rfl ⟨rfl, rfl, rfl, rfl, rfl⟩ rfl rfl rfl rfl rfl (by kernel_rfl) Try.func4 (by kernel_rfl)
    (of_decide_eq_true (by kernel_rfl)) (by unfold Func.isWrapper; first | (rw [if_pos (by decide +kernel)]; kernel_rfl) | (rw [if_neg (by decide +kernel)]; exact ⟨rfl, rfl⟩))
    (fun os started H enc _ => lifted os started H enc)

/-- ████ THE STATEMENT ████ -/
theorem proved : Rows.DiskKeepsSaid := over
#print axioms proved
end Go.Proofs.Ytfjcbcpfhjaeeaa.diskKeeps
