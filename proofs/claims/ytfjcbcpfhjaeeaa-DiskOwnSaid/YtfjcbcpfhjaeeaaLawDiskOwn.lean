/-
  For every input the call of lavabolaw3.DiskOwn returns true and leaves its arguments as they were; no condition.
-/
import Derived.Test.YtfjcbcpfhjaeeaaDevSteps
import Derived.RegionTactic
import Derived.BigRegion
import Derived.Test.YtfjcbcpfhjaeeaaRows
import Derived.WalkKit
import Derived.ProofKit
import Derived.OpenShut
import Derived.ShutString
import Derived.ChangeOld
import Derived.Below
namespace Go.Proofs.Ytfjcbcpfhjaeeaa.diskOwn
open Go.ChangeShapes Go.WideShapes Go.ChangeAt Go.RowKit
open Go.ChangeMaps (open_string shut_string)
open Go.Proofs.Ytfjcbcpfhjaeeaa.SumM Go.Proofs.Ytfjcbcpfhjaeeaa.Mem Go.Proofs.Ytfjcbcpfhjaeeaa.Blk Go.Proofs.Ytfjcbcpfhjaeeaa.PageM Go.Proofs.Ytfjcbcpfhjaeeaa.Str Go.Proofs.Ytfjcbcpfhjaeeaa.Dev Go.Proofs.Ytfjcbcpfhjaeeaa.LibC Go.Proofs.Ytfjcbcpfhjaeeaa.DevC Go.Proofs.Ytfjcbcpfhjaeeaa.DevM Go.Proofs.Ytfjcbcpfhjaeeaa.DevY Go.Proofs.Ytfjcbcpfhjaeeaa.DevK Go.Proofs.Ytfjcbcpfhjaeeaa.DevX Go.Proofs.Ytfjcbcpfhjaeeaa.DevN Go.Proofs.Ytfjcbcpfhjaeeaa.Told3 Go.Proofs.Ytfjcbcpfhjaeeaa.DevS Go.Proofs.Ytfjcbcpfhjaeeaa.Stages
set_option linter.unusedVariables false

theorem own : ownKnob Try.prog.godebug = none := by kernel_rfl
theorem laidOut : laidOutB Try.prog = true := by kernel_rfl

/-- WHAT THE WALK IS TOLD OF A SLICE OF INTEGERS THAT CAME IN: it is nil; or it leads to a row of 'cap' cells, the numbers 'zs' (the first 'len' are its elements, the rest its spare room), each fitting its kind. -/
def IsRow (k : IntKind) (w : World) (a : Option Addr) (len cap : Nat) (zs : List Int) : Prop :=
  (a = none ∧ len = 0 ∧ cap = 0 ∧ zs = []) ∨
  ∃ x, a = some x ∧ len ≤ cap ∧ cap ≤ maxLen ∧ zs.length = cap ∧ (∀ i, i < zs.length → w.cell? (x.add i) = some (.int k (zs.getD i 0))) ∧ ∀ n ∈ zs, (Lit.int k n).wf = true

/-- The device that is asked: what was written waits, or is durable. -/
def aS (z : List Int) (n : Nat) : Dv := { N := 1, dur := fun _ => zeros 24, wr := fun q => if q = 0 then some z else none, n := n, bad := 0, down := false }
def bS (z : List Int) (n : Nat) : Dv := { N := 1, dur := fun _ => z, wr := fun _ => none, n := n, bad := 0, down := false }

/-! ### STEP 1: THE WALK: the Go text returns true, AND WRITES NOTHING THAT WAS THERE: 'Below w.heap.size w w'' (Derived/Below.lean: '.refl', '.alloc', '.drew', '.setCell' at a new block, '.trans'). Open each 'IsRow' by 'rcases' AHEAD of 'go_enter'; part every test ahead of the walk. -/
set_option maxHeartbeats 2000000 in
theorem walk (a0 : Int) (w : World) (w0 : (Lit.int .u8 a0).wf = true) :
    Calls Try.prog 7 #[.int .u8 a0] w fun e w' => e = .returned (.bool true) ∧ Below w.heap.size w w' := by
  have k0 := bounds_u8 w0
  have u0 : U8 a0 := ⟨by omega, by omega⟩
  have hz := ofB_bytes u0
  have hzl := ofB_len a0
  have hz3 := ofB_at a0 (j := 3) (by omega)
  have hz4 := ofB_at a0 (j := 4) (by omega)
  have hz5 := ofB_at a0 (j := 5) (by omega)
  have HZL := Lib.hid hzl
  have HZ3 := Lib.hid hz3
  have HZ4 := Lib.hid hz4
  have HZ5 := Lib.hid hz5
  have CB := Lib.hid (bytes_any a0)
  clear hzl hz3 hz4 hz5
  generalize ofB a0 = z at *
  go_enter Try.func7, Try.ntmps7
  go_upto_region 2 with (go_at_call 8; (with_reducible refine (new_int 1 1 _ (by omega) (by omega) (by omega)).mono ?_); rintro e w1 ⟨d, D, W, rfl, hdev, hold, hgr⟩; have HD1 := Lib.hid hdev; have HOLD := Lib.hid hold; have HG1 := Lib.hid hgr; clear hdev hold hgr)
  have HLOW := Lib.hid (newG_low HD1.out HG1.out.size)
  go_upto_region 3 with (go_at_call 14; (with_reducible refine (CB.out _).mono ?_); rintro e w2 ⟨g, rfl, hg, hblk, hgr⟩; have HB2 := Lib.hid hblk; have HG2 := Lib.hid hgr; have HGG := Lib.hid hg; clear hblk hgr hg)
  have HD2 : Hid (DevAt w2 d D W (fun k => newG w d D W k ∨ k = g) (newS 1)) := HD1.out.also HG2.out HGG.out
  have hgo : ¬ Own d D W g := fun h => by have := HLOW.out _ (.inr h); have := HGG.out; omega
  have HGO := Lib.hid hgo
  have C3 := Lib.hid (write_int 0 HD2.out 0 (by omega) (by decide) (some ⟨g, 0, none⟩) 24 (g + 1) z (fun w' hk => Sl.of_blk0 (Blk.kept HB2.out hk HGO.out) HZL.out (by omega)) hz
    (fun x hx => by
      rcases hx with hx | rfl
      · exact Nat.lt_of_lt_of_le (HLOW.out x hx) HG2.out.size
      · exact Blk.lt HB2.out) (by decide) (by decide) rfl)
  clear hgo
  go_upto_region 5 with (go_at_call 13; (with_reducible refine C3.out.mono ?_); rintro e w3 ⟨rfl, hdev, hk⟩; have HD3 : Hid (DevAt w3 d D W (fun k => newG w d D W k ∨ k = g) (aS z 1)) := hdev; have HK3 := Lib.hid hk; clear hdev hk)
  clear C3
  have hb3 := Blk.kept HB2.out HK3.out HGO.out
  have hc3 := NBlk.at_ hb3 (j := 3) (by rw [HZL.out]; omega)
  have hf3 := Blk.frozen hb3 3
  rw [HZ3.out] at hc3
  clear hb3
  go_upto_region 6 with (fail)
  have hlow2 : ∀ k, k < w.heap.size → ¬ (Own d D W k ∨ k = g) := fun k hk h => by
    have h1 := HOLD.out
    have h2 := HG1.out.size
    have h3 := HGG.out
    rcases h with (rfl | rfl | rfl) | rfl <;> omega
  have HD4 : Hid (DevAt (w3.setCell ⟨g, 3, none⟩ (.int .u8 (bits .xor .u8 a0 1))) d D W (fun k => newG w d D W k ∨ k = g) (aS z 1)) := HD3.out.kept (kept_set _ _ _ _) (fun k e => .inr e) (fun k h e => HGO.out (e ▸ h))
  have HK4 : Hid (Kept (fun k => Own d D W k ∨ k = g) w (w3.setCell ⟨g, 3, none⟩ (.int .u8 (bits .xor .u8 a0 1)))) := (((Grow.kept (HG1.out.trans HG2.out)).then HK3.out (fun k _ h => .inl h)).then (kept_set _ _ _ _) (fun k _ h => .inr h))
  have HL2 := Lib.hid hlow2
  clear hc3 hf3 hlow2
  generalize w3.setCell ⟨g, 3, none⟩ (.int .u8 (bits .xor .u8 a0 1)) = w4 at HD4 HK4 ⊢
  have hrd : Calls Try.prog 11 #[.pointer (some ⟨d, 0, none⟩), .int .i64 0] w4 (ReadPost d D W (fun k => newG w d D W k ∨ k = g) w4 0 z (aS z 2)) := read_int 0 HD4.out 0 (by omega) (by show 0 < 1; omega) (by show ((1 : Nat) : Int) < 9223372036854775807; decide) (by show ((0 : Nat) : Int) < 9223372036854775807; decide) rfl
  have C6 := Lib.hid hrd
  clear hrd
  go_upto_region 7 with (go_at_call 11; (with_reducible refine C6.out.mono ?_); rintro e w5 ⟨A5, n5, c5, rfl, _, hz5, hdev, hk⟩; obtain ⟨rfl, g5, rfl, hg5, hrow⟩ := hz5 rfl; have HG5 := Lib.hid hg5; have HD5 : Hid (DevAt w5 d D W (fun k => (newG w d D W k ∨ k = g) ∨ k = g5) (aS z 2)) := hdev.turn (fun k _ h => h.elim .inl (fun e => .inr (by have := HG5.out; omega))) (fun k h => .inl (.inl (.inr h))); have HK5 := Lib.hid hk; have HR5 := Lib.hid hrow; clear hdev hk hz5 hg5 hrow)
  clear C6
  have hc3 := HR5.out.cell (i := 3) (by omega)
  have hc4 := HR5.out.cell (i := 4) (by omega)
  have hf4 := HR5.out.frozen 4
  rw [HZ3.out] at hc3
  rw [HZ4.out] at hc4
  have hne5 : (a0 != a0) = false := by simp
  go_upto_region 10 with (fail)
  have hgo5 : ¬ Own d D W g5 := fun h => by
    have h1 := HD4.out.lt
    have h2 := HG5.out
    rcases h with rfl | rfl | rfl <;> omega
  have HD6 : Hid (DevAt (w5.setCell ⟨g5, 4, none⟩ (.int .u8 (bits .xor .u8 a0 1))) d D W (fun k => (newG w d D W k ∨ k = g) ∨ k = g5) (aS z 2)) := HD5.out.kept (kept_set _ _ _ _) (fun k e => .inr e) (fun k h e => hgo5 (e ▸ h))
  have HK6 : Hid (Kept (fun k => Own d D W k ∨ k = g) w (w5.setCell ⟨g5, 4, none⟩ (.int .u8 (bits .xor .u8 a0 1)))) := (HK4.out.then HK5.out (fun k _ h => .inl h)).then (kept_set _ _ _ _) (fun k hk h => absurd h (by have := HG5.out; have := HK4.out.size; omega))
  clear hc3 hc4 hf4 hne5 hgo5
  generalize w5.setCell ⟨g5, 4, none⟩ (.int .u8 (bits .xor .u8 a0 1)) = w6 at HD6 HK6 ⊢
  have C10 := Lib.hid (sync_good HD6.out (by show ((2 : Nat) : Int) < 9223372036854775807; decide) (by show ((0 : Nat) : Int) < 9223372036854775807; decide) rfl)
  go_upto_region 12 with (go_at_call 16; (with_reducible refine C10.out.mono ?_); rintro e w7 ⟨rfl, hdev, hk⟩; have HD7' := Lib.hid hdev; have HK7 := Lib.hid hk; clear hdev hk)
  have HD7 : Hid (DevAt w7 d D W (fun k => (newG w d D W k ∨ k = g) ∨ k = g5) (bS z 3)) := HD7'.out.congr rfl rfl rfl rfl (fun p hp => by
    have hp' : p < 1 := hp
    obtain rfl : p = 0 := by omega
    rfl) (fun _ _ => rfl)
  clear HD7'
  clear C10
  have hdu : Calls Try.prog 23 #[.pointer (some ⟨d, 0, none⟩)] w7 (DurOf w7 1 fun _ => z) := durable_any HD7.out
  have C12 := Lib.hid hdu
  clear hdu
  go_upto_region 13 with (go_at_call 23; (with_reducible refine C12.out.mono ?_); rintro e w8 ⟨g8, c8, f8, rfl, hg8, hrow, hfr, hgr⟩; have HR8 := Lib.hid hrow; have HF8 := Lib.hid hfr; have HG8 := Lib.hid hgr; have HGG8 := Lib.hid hg8; clear hg8 hrow hfr hgr)
  clear C12
  obtain ⟨bF, cF, hF, hF1, hF2, hF3, hrowF, hF5, hF6⟩ := HF8.out 0 (by omega)
  have HRF := Lib.hid hrowF
  have q1 := HR8.out.cell (i := 0) (by omega)
  rw [hF] at q1
  have HD8 : Hid (DevAt w8 d D W (fun k => ((newG w d D W k ∨ k = g) ∨ k = g5) ∨ k = bF) (bS z 3)) := HD7.out.also HG8.out (by have := HGG8.out; omega)
  have HK8 : Hid (Kept (fun k => Own d D W k ∨ k = g) w w8) := (HK6.out.then HK7.out (fun k _ h => .inl h)).then HG8.out (fun _ _ x => x.elim)
  have HBF : Hid (w.heap.size ≤ bF ∧ ¬ Own d D W bF) := by
    have h1 := HGG8.out
    have h2 := HK6.out.size
    have h3 := HK7.out.size
    have h4 := HD7.out.lt
    refine ⟨by omega, fun h => ?_⟩
    rcases h with rfl | rfl | rfl <;> omega
  clear hF hrowF hF5 hF6
  have u1 := up_cell (F := fun _ => False) (w := w8.drew) q1 id
  have s1 := up_run (F := fun _ => False) (P := Try.prog) (w := w8.drew) fun w' hk => (Sl.of_row0 (B := w'.heap.size) (HRF.out.grow ((Kept.drew' w8).trans hk)) HZL.out (HRF.out.grow ((Kept.drew' w8).trans hk)).lt).str 28 9 5 Try.underlying28 Try.underlying5 Try.underlying9 cF
  refine wp_region_stages Grow (kept_refl _) (kept_trans _) [([0, 1, 2, 3, 4, 5, 6, 7, 8], 9)] [10, 11, 12] (by kernel_rfl) (by kernel_rfl) ?_
  simp only [selSt, sel, List.map_cons, List.map_nil, List.getD_cons_succ, List.getD_cons_zero]
  refine st_cons fun K1 hK1 => ?_
  repeat (go_big_quiet_step (fail))
  refine wpQuiet_nil ?_
  go_wp2_with (go_at_call 14; (with_reducible refine (CB.out _).mono ?_); rintro e w9 ⟨g9, rfl, _, hblk, hgr⟩; have HB9 := Lib.hid hblk; have HG9 := Lib.hid hgr; clear hblk hgr)
  refine norm_up (hK1 _ _ HG9.out (st_nil fun K2 hK2 => ?_))
  clear hK1 K1 s1 u1
  have s2 := up_run (F := fun _ => False) (P := Try.prog) (w := w9) fun w' hk => (Sl.of_blk0 (B := w'.heap.size) (Blk.grow HB9.out hk) HZL.out (Blk.lt (Blk.grow HB9.out hk))).str 28 9 5 Try.underlying28 Try.underlying5 Try.underlying9 24
  repeat (go_big_quiet_step (fail))
  refine wpQuiet_nil (hK2 _ ?_)
  clear hK2 K2 s2
  go_wp2
  have hG9 : Grow w8 w9 := (Kept.drew' w8).trans HG9.out
  have q2 := hG9.cellN q1 id
  have hr9 := HRF.out.grow hG9
  have q3 := hr9.cell (i := 5) (by omega)
  rw [HZ5.out] at q3
  have hf9 := hr9.frozen 5
  have hne : g8 ≠ bF := by omega
  have HDA : Hid (DevAt (w9.setCell ⟨bF, 5, none⟩ (.int .u8 (bits .xor .u8 a0 1))).drew d D W (fun k => ((newG w d D W k ∨ k = g) ∨ k = g5) ∨ k = bF) (bS z 3)) := ((HD8.out.grow hG9).kept (kept_set _ _ _ _) (fun k e => .inr e) (fun k h e => HBF.out.2 (e ▸ h))).drew
  have HKA : Hid (Kept (fun k => Own d D W k ∨ k = g) w (w9.setCell ⟨bF, 5, none⟩ (.int .u8 (bits .xor .u8 a0 1))).drew) := ((HK8.out.then hG9 (fun _ _ x => x.elim)).then (kept_set _ _ _ _) (fun k hk h => absurd h (by have := HBF.out.1; omega))).drew
  clear hr9 hG9 hne q1
  go_region
  clear q2 q3 hf9
  generalize (w9.setCell ⟨bF, 5, none⟩ (.int .u8 (bits .xor .u8 a0 1))).drew = wA at HDA HKA ⊢
  have hdu : Calls Try.prog 23 #[.pointer (some ⟨d, 0, none⟩)] wA (DurOf wA 1 fun _ => z) := durable_any HDA.out
  have C16 := Lib.hid hdu
  clear hdu
  go_upto_region 17 with (go_at_call 23; (with_reducible refine C16.out.mono ?_); rintro e wE ⟨gE, cE, fE, rfl, _, hrow, hfr, hgr⟩; have HRE := Lib.hid hrow; have HFE := Lib.hid hfr; have HGE := Lib.hid hgr; clear hrow hfr hgr)
  clear C16
  obtain ⟨bE, cE2, hE, _, _, _, hrowE, _, _⟩ := HFE.out 0 (by omega)
  have HRX := Lib.hid hrowE
  have q1 := HRE.out.cell (i := 0) (by omega)
  rw [hE] at q1
  clear hE hrowE
  have HKE : Hid (Kept (fun k => Own d D W k ∨ k = g) w wE) := HKA.out.then HGE.out (fun _ _ x => x.elim)
  refine wp_region_stages Grow (kept_refl _) (kept_trans _) [([], 0), ([1, 2, 3, 4, 5, 6, 7, 8, 9, 10, 11], 12)] [13, 14, 15, 16] (by kernel_rfl) (by kernel_rfl) ?_
  simp only [selSt, sel, List.map_cons, List.map_nil, List.getD_cons_succ, List.getD_cons_zero]
  refine st_cons fun K1 hK1 => wpQuiet_nil ?_
  go_wp2_with (go_at_call 10; (with_reducible refine (told_any _).mono ?_); rintro e wF ⟨rfl, hge⟩; have HGF := Lib.hid hge; clear hge)
  refine norm_up (hK1 _ _ HGF.out ?_)
  clear hK1 K1
  have HGX : Hid (Grow wE wF) := (Kept.drew' wE).trans HGF.out
  have u1 := up_cell (F := fun _ => False) (w := wF) (HGX.out.cellN q1 id) id
  have s1 := up_run (F := fun _ => False) (P := Try.prog) (w := wF) fun w' hk => (Sl.of_row0 (B := w'.heap.size) (HRX.out.grow (HGX.out.trans hk)) HZL.out (HRX.out.grow (HGX.out.trans hk)).lt).str 28 9 5 Try.underlying28 Try.underlying5 Try.underlying9 cE2
  refine st_cons fun K1 hK1 => ?_
  repeat (go_big_quiet_step (fail))
  refine wpQuiet_nil ?_
  clear u1 s1
  go_wp2_with (go_at_call 14; (with_reducible refine (CB.out _).mono ?_); rintro e wH ⟨gH, rfl, _, hblk, hgr⟩; have HBH := Lib.hid hblk; have HGH := Lib.hid hgr; clear hblk hgr)
  refine norm_up (hK1 _ _ HGH.out (st_nil fun K2 hK2 => ?_))
  clear hK1 K1
  have s2 := up_run (F := fun _ => False) (P := Try.prog) (w := wH) fun w' hk => (Sl.of_blk0 (B := w'.heap.size) (Blk.grow HBH.out hk) HZL.out (Blk.lt (Blk.grow HBH.out hk))).str 28 9 5 Try.underlying28 Try.underlying5 Try.underlying9 24
  repeat (go_big_quiet_step (fail))
  refine wpQuiet_nil (hK2 _ ?_)
  clear hK2 K2 s2
  go_wp2
  go_ret
  exact ⟨rfl, Kept.below ((HKE.out.then HGX.out (fun _ _ x => x.elim)).then HGH.out (fun _ _ x => x.elim)) (fun k h => Nat.le_of_not_lt fun hk => HL2.out k hk h) (Nat.le_refl _)⟩

/-! ### THE ROW's STEP: WRITTEN OUT: LEAVE IT -/
set_option maxRecDepth 100000 in
theorem lifted (os : Os) (started : os.Started) (H : Type) (enc : TypeId × Value → H) :
    ReturnsInHanded {} Try.checked os 7 .any (Rows.diskOwnSpec.pre6 enc Try.prog Try.f7 Rows.diskOwnRow.domain false) (Rows.diskOwnSpec.post enc Try.prog Try.f7 false true false false) := by
  refine returnsInHanded_of_change (C := Try.checked) own started (by kernel_rfl) Try.func7
    (ChangeSpec.witness6 (enc := enc) (C := Try.checked) false ⟨#[], #[.int .u8 0], []⟩ 8 (by kernel_rfl) (by kernel_rfl) (by kernel_rfl) (by kernel_rfl)) ?_
  intro W base args ds gs before hval0 hW hcnd _
  have hval : ∀ (j : Nat) t v, Try.f7.params[j]? = some t → args[j]? = some v → Value.okWide Try.prog W .any base t v := hval0
  have hW' := hW
  obtain ⟨p, q, hA0, hV, rfl, hfz, hnd⟩ := hW
  have hA : DataW.TrodAll enc Try.prog W 0 (fun _ => true) true Try.f7.params.toList args.toList ds p := hA0
  rw [Try.params7] at hA hval
  obtain ⟨v0, vs0, d0, ds0, p0, q0, hargs, rfl, rfl, h0, r0⟩ := trodAll_cons hA
  obtain ⟨rfl, rfl, rfl⟩ := trodAll_nil r0
  obtain rfl : args = #[v0] := by cases args; simp_all
  obtain ⟨rfl, rfl⟩ := trodVars_none hV
  obtain ⟨a0, rfl, rfl, rfl, w0⟩ := open_int Try.underlying5 (hval 0 5 v0 rfl rfl) h0
  clear hA0 hval0
  refine (walk a0 W w0).mono fun e W' ⟨he, bel⟩ => ?_
  subst he
  exact ⟨_, rfl, _, _, _, [], _, [], hW', trodAll_mk1 (shut_bool Try.underlying4 _), (trodAll_cons_mk (shut_int Try.underlying5 w0) trodAll_mk0), rfl, bel.frame _, fun h => by cases h⟩

theorem over : Rows.diskOwnRow.holds Try.pinned (OpenSpec.ofChange Rows.diskOwnSpec) :=
  OpenClaim.holds_of_wide 7 Try.f7 rfl rfl rfl rfl rfl rfl rfl ⟨rfl, rfl, rfl, rfl, rfl⟩ rfl rfl rfl rfl rfl (by kernel_rfl) Try.func7 (by kernel_rfl)
    (of_decide_eq_true (by kernel_rfl)) (by unfold Func.isWrapper; first | (rw [if_pos (by decide +kernel)]; kernel_rfl) | (rw [if_neg (by decide +kernel)]; exact ⟨rfl, rfl⟩))
    (fun os started H enc _ => lifted os started H enc)

/-- ████ THE STATEMENT ████ -/
theorem proved : Rows.DiskOwnSaid := over
#print axioms proved
end Go.Proofs.Ytfjcbcpfhjaeeaa.diskOwn
