/-
  For every input the call of lavabolaw18.SizeAsks returns true and leaves its arguments as they were; no condition.
-/
import Derived.Test.YtomnkdfolonicaaSzRef
import Derived.Test.YtomnkdfolonicaaTold18
import Derived.Test.YtomnkdfolonicaaInts
import Derived.Test.YtomnkdfolonicaaRows
import Derived.WalkKit
import Derived.ProofKit
import Derived.OpenShut
import Derived.ShutString
import Derived.ChangeOld
import Derived.Below
namespace Go.Proofs.Ytomnkdfolonicaa.sizeAsks
open Go.ChangeShapes Go.WideShapes Go.ChangeAt Go.RowKit
open Go.ChangeMaps (open_string shut_string)
open Go.Proofs.Ytomnkdfolonicaa.Mem Go.Proofs.Ytomnkdfolonicaa.Blk Go.Proofs.Ytomnkdfolonicaa.Cells Go.Proofs.Ytomnkdfolonicaa.GsC Go.Proofs.Ytomnkdfolonicaa.SzM Go.Proofs.Ytomnkdfolonicaa.SzC Go.Proofs.Ytomnkdfolonicaa.SzN Go.Proofs.Ytomnkdfolonicaa.SzR Go.Proofs.Ytomnkdfolonicaa.IntsC Go.Proofs.Ytomnkdfolonicaa.Told18 Go.Proofs.Ytomnkdfolonicaa.Stages
set_option linter.unusedVariables false

theorem own : ownKnob Try.prog.godebug = none := by kernel_rfl
theorem laidOut : laidOutB Try.prog = true := by kernel_rfl

/-- WHAT THE WALK IS TOLD OF A SLICE OF INTEGERS THAT CAME IN: it is nil; or it leads to a row of 'cap' cells, the numbers 'zs' (the first 'len' are its elements, the rest its spare room), each fitting its kind. -/
def IsRow (k : IntKind) (w : World) (a : Option Addr) (len cap : Nat) (zs : List Int) : Prop :=
  (a = none ∧ len = 0 ∧ cap = 0 ∧ zs = []) ∨
  ∃ x, a = some x ∧ len ≤ cap ∧ cap ≤ maxLen ∧ zs.length = cap ∧ (∀ i, i < zs.length → w.cell? (x.add i) = some (.int k (zs.getD i 0))) ∧ ∀ n ∈ zs, (Lit.int k n).wf = true

section
variable {w : World} {A : Option Addr} {n c : Nat} {H : Nat → Int}
theorem sl_up {w' : World} {B : Nat} {zs : List Int} (h : Sl w B .i64 A n zs) (hg : Grow w w') : Sl w' B .i64 A n zs := ⟨h.len, fun hn => by
  obtain ⟨b, o, rfl, hb, hc⟩ := h.2 hn
  exact ⟨b, o, rfl, hb, fun j hj => hg.cellN (hc j hj) id⟩⟩
/-- What hands back n numbers, zs. -/
def Nums (n : Nat) (zs : List Int) (w : World) (e : Ending) (w' : World) : Prop := ∃ A c, e = .returned (.slice A n c) ∧ (∃ B, Sl w' B .i64 A n zs) ∧ Grow w w'
theorem nums_nil {e : Ending} {w w' : World} (he : e = .returned (.slice none 0 0)) (hg : Grow w w') : Nums 0 [] w e w' := ⟨none, 0, he, ⟨0, Sl.nil _ _ _ _⟩, hg⟩
/-- Share, and the document's. -/
theorem both_share (x y : Int) : ∃ n zs, n ≤ 4 ∧ (∀ w, Calls Try.prog 11 #[.int .i64 x, .int .i64 y] w (Nums n zs w)) ∧ ∀ w, Calls Try.prog 12 #[.int .i64 x, .int .i64 y] w (Nums n zs w) := by
  by_cases h : May x y
  · obtain ⟨m1, m2, m3, m4⟩ := h
    obtain ⟨m, rfl⟩ : ∃ m : Nat, x = (m : Int) := ⟨x.toNat, by omega⟩
    obtain ⟨n, rfl⟩ : ∃ n : Nat, y = (n : Int) := ⟨y.toNat, by omega⟩
    refine ⟨n, row (shr m n) n, by omega, fun w => (share_good (by omega) (by omega) (by omega)).mono ?_, fun w => (rshare_good (by omega) (by omega) (by omega)).mono ?_⟩
    · rintro e w' ⟨b, rfl, hr, _, hg⟩
      exact ⟨_, _, rfl, Has.sl hr.has, hg⟩
    · rintro e w' ⟨A, c, rfl, hr, _, hg⟩
      exact ⟨_, _, rfl, ⟨_, hr.sl (Nat.le_refl _)⟩, hg⟩
  · refine ⟨0, [], by omega, fun w => (share_bad h).mono ?_, fun w => (rshare_bad h).mono ?_⟩
    · rintro e w' ⟨he, rfl⟩; exact nums_nil he (Kept.refl _ _)
    · rintro e w' ⟨he, rfl⟩; exact nums_nil he (Kept.refl _ _)
/-- Steps and Next, and the document's. -/
theorem both_steps (h : Has w A n H) (hn : n ≤ 8) (hb : ∀ j, j < n → H j ≤ 9223372036854775807) (x : Int) :
    (∃ k zs, k ≤ 4 ∧ (∀ v, Grow w v → Calls Try.prog 13 #[.slice A n c, .int .i64 x] v (Nums k zs v)) ∧ ∀ v, Grow w v → Calls Try.prog 14 #[.slice A n c, .int .i64 x] v (Nums k zs v)) ∧
    ∃ X Y : Int, (∀ v, Grow w v → Calls Try.prog 8 #[.slice A n c, .int .i64 x] v fun e w' => e = .returned (.tuple #[.int .i64 X, .int .i64 Y]) ∧ Grow v w') ∧ ∀ v, Grow w v → Calls Try.prog 9 #[.slice A n c, .int .i64 x] v fun e w' => e = .returned (.tuple #[.int .i64 X, .int .i64 Y]) ∧ Grow v w' := by
  by_cases hx : May x (n : Int) ∧ ∀ j, j < n → 0 ≤ H j
  · obtain ⟨⟨m1, m2, m3, m4⟩, h0⟩ := hx
    obtain ⟨m, rfl⟩ : ∃ m : Nat, x = (m : Int) := ⟨x.toNat, by omega⟩
    have hb' : ∀ j, j < n → 0 ≤ H j ∧ H j ≤ 9223372036854775807 := fun j hj => ⟨h0 j hj, hb j hj⟩
    refine ⟨⟨n, row (stp m n H) n, by omega, fun v hv => (steps_good (h.grow hv) (by omega) (by omega) (by omega) hb').mono ?_, fun v hv => (rsteps_good (h.grow hv) (by omega) (by omega) (by omega) hb').mono ?_⟩, _, _, fun v hv => next_good (h.grow hv) (by omega) (by omega) (by omega) hb', fun v hv => rnext_good (h.grow hv) (by omega) (by omega) (by omega) hb'⟩
    · rintro e w' ⟨b, rfl, hr, _, hg⟩
      exact ⟨_, _, rfl, Has.sl hr.has, hg⟩
    · rintro e w' ⟨b, o, c, rfl, hr, _, hg⟩
      exact ⟨_, _, rfl, Has.sl hr.has, hg⟩
  · exact ⟨⟨0, [], by omega, fun v hv => (steps_bad (h.grow hv) hb hx).mono fun e w' hp => nums_nil hp.1 hp.2, fun v hv => (rsteps_bad (h.grow hv) hb hx).mono fun e w' hp => nums_nil hp.1 hp.2⟩, _, _, fun v hv => next_bad (h.grow hv) hn hb hx, fun v hv => rnext_bad (h.grow hv) hb hx⟩
end
/-! ### STEP 1: THE WALK: the Go text returns true, AND WRITES NOTHING THAT WAS THERE: 'Below w.heap.size w w'' (Derived/Below.lean: '.refl', '.alloc', '.drew', '.setCell' at a new block, '.trans'). Open each 'IsRow' by 'rcases' AHEAD of 'go_enter'; part every test ahead of the walk. -/
set_option maxHeartbeats 4000000 in
theorem walk (a0 : Int) (a1 : Int) (a2 : Option Addr) (len2 cap2 : Nat) (z2 : List Int) (w : World) (w0 : (Lit.int .i64 a0).wf = true) (w1 : (Lit.int .i64 a1).wf = true) (w2 : IsRow .i64 w a2 len2 cap2 z2) :
    Calls Try.prog 3 #[.int .i64 a0, .int .i64 a1, .slice a2 len2 cap2] w fun e w' => e = .returned (.bool true) ∧ Below w.heap.size w w' := by
  obtain ⟨hs, hle, hcap, hwf⟩ := Sl.of_isRow w2
  unfold maxLen at hcap
  have k0 := bounds_i64 w0
  have k1 := bounds_i64 w1
  generalize z2.take len2 = zs at hs hwf
  have hlz : (len2 : Int) ≤ 9223372036854775807 := by omega
  by_cases h8 : len2 ≤ 8
  · have h8z : (len2 : Int) ≤ 8 := by omega
    have hhas : Has w a2 len2 (fun j => zs.getD j 0) := fun hn => by
      obtain ⟨b, o, rfl, _, hc⟩ := hs.at_ hn
      exact ⟨b, o, rfl, hc⟩
    have hbd : ∀ j, j < len2 → zs.getD j 0 ≤ 9223372036854775807 := fun j hj => by
      have hj' : j < zs.length := by rw [hs.len]; exact hj
      have := bounds_i64 (hwf (zs.getD j 0) (by rw [List.getD_eq_getElem?_getD, List.getElem?_eq_getElem hj']; exact List.getElem_mem hj'))
      omega
    obtain ⟨⟨kS, zS, hkS, hS1, hS2⟩, X, Y, hN1, hN2⟩ := both_steps (c := cap2) hhas h8 hbd a0
    obtain ⟨kH, zH, hkH, hH1, hH2⟩ := both_share a0 a1
    have S1 := Lib.hid hS1
    have S2 := Lib.hid hS2
    have N1 := Lib.hid hN1
    have N2 := Lib.hid hN2
    have H1 := Lib.hid hH1
    have H2 := Lib.hid hH2
    have KS := Lib.hid hkS
    have KH := Lib.hid hkH
    have eX : (X == X) = true := beq_self_eq_true X
    have eY : (Y == Y) = true := beq_self_eq_true Y
    clear hs hwf w0 w1 w2 hhas hbd hS1 hS2 hN1 hN2 hH1 hH2 hkS hkH
    go_enter Try.func3, Try.ntmps3
    go_wp2_with (first
      | (go_at_call 8; (with_reducible refine (N1.out _ (Kept.refl _ _)).mono ?_); rintro e x1 ⟨rfl, hg⟩; have G1 := Lib.hid hg; clear hg)
      | (go_at_call 9; (with_reducible refine (N2.out _ G1.out).mono ?_); rintro e x2 ⟨rfl, hg⟩; have G2 := Lib.hid (G1.out.trans hg); clear hg)
      | (go_at_call 7; (with_reducible refine (told_any _).mono ?_); rintro e x3 ⟨rfl, hg⟩; have G3 := Lib.hid (G2.out.trans hg); clear hg)
      | (go_at_call 11; (with_reducible refine (H1.out _).mono ?_); rintro e x4 ⟨A4, c4, rfl, ⟨B4, hs⟩, hg⟩; have L4 := Lib.hid hs; have G4 := Lib.hid (G3.out.trans hg); clear hs hg)
      | (go_at_call 12; (with_reducible refine (H2.out _).mono ?_); rintro e x5 ⟨A5, c5, rfl, ⟨B5, hs⟩, hg⟩; have L5 := Lib.hid hs; have M4 := Lib.hid (sl_up L4.out hg); have G5 := Lib.hid (G4.out.trans hg); clear hs hg)
      | (go_at_call 10; (with_reducible refine (ints_true A4 A5 kH c4 c5 B4 B5 zH (by have := KH.out; omega) M4.out L5.out).mono ?_); rintro e x6 ⟨rfl, hg⟩; have G6 := Lib.hid (G5.out.trans hg); clear hg)
      | (go_at_call 13; (with_reducible refine (S1.out _ G6.out).mono ?_); rintro e x7 ⟨A7, c7, rfl, ⟨B7, hs⟩, hg⟩; have L7 := Lib.hid hs; have G7 := Lib.hid (G6.out.trans hg); clear hs hg)
      | (go_at_call 14; (with_reducible refine (S2.out _ G7.out).mono ?_); rintro e x8 ⟨A8, c8, rfl, ⟨B8, hs⟩, hg⟩; have L8 := Lib.hid hs; have M7 := Lib.hid (sl_up L7.out hg); have G8 := Lib.hid (G7.out.trans hg); clear hs hg)
      | (go_at_call 10; (with_reducible refine (ints_true A7 A8 kS c7 c8 B7 B8 zS (by have := KS.out; omega) M7.out L8.out).mono ?_); rintro e x9 ⟨rfl, hg⟩; have G9 := Lib.hid (G8.out.trans hg); clear hg))
    go_ret
    exact ⟨rfl, Grow.below G9.out⟩
  · have h8z : (8 : Int) < (len2 : Int) := by omega
    clear h8
    go_enter Try.func3, Try.ntmps3
    go_wp2_with (go_at_call 7; (with_reducible refine (told_any _).mono ?_); rintro e w5 ⟨rfl, hge⟩; have HGE := Lib.hid hge; clear hge)
    go_ret
    exact ⟨rfl, Grow.below HGE.out⟩

/-! ### THE ROW's STEP: WRITTEN OUT: LEAVE IT -/
set_option maxRecDepth 100000 in
theorem lifted (os : Os) (started : os.Started) (H : Type) (enc : TypeId × Value → H) :
    ReturnsInHanded {} Try.checked os 3 .any (Rows.sizeAsksSpec.pre6 enc Try.prog Try.f3 Rows.sizeAsksRow.domain false) (Rows.sizeAsksSpec.post enc Try.prog Try.f3 false true false false) := by
  refine returnsInHanded_of_change (C := Try.checked) own started (by kernel_rfl) Try.func3
    (ChangeSpec.witness6 (enc := enc) (C := Try.checked) false ⟨#[], #[.int .i64 0, .int .i64 0, .slice none 0 0], []⟩ 8 (by kernel_rfl) (by kernel_rfl) (by kernel_rfl) (by kernel_rfl)) ?_
  intro W base args ds gs before hval0 hW hcnd _
  have hval : ∀ (j : Nat) t v, Try.f3.params[j]? = some t → args[j]? = some v → Value.okWide Try.prog W .any base t v := hval0
  have hW' := hW
  obtain ⟨p, q, hA0, hV, rfl, hfz, hnd⟩ := hW
  have hA : DataW.TrodAll enc Try.prog W 0 (fun _ => true) true Try.f3.params.toList args.toList ds p := hA0
  rw [Try.params3] at hA hval
  obtain ⟨v0, vs0, d0, ds0, p0, q0, hargs, rfl, rfl, h0, r0⟩ := trodAll_cons hA
  obtain ⟨v1, vs1, d1, ds1, p1, q1, rfl, rfl, rfl, h1, r1⟩ := trodAll_cons r0
  obtain ⟨v2, vs2, d2, ds2, p2, q2, rfl, rfl, rfl, h2, r2⟩ := trodAll_cons r1
  obtain ⟨rfl, rfl, rfl⟩ := trodAll_nil r2
  obtain rfl : args = #[v0, v1, v2] := by cases args; simp_all
  obtain ⟨rfl, rfl⟩ := trodVars_none hV
  obtain ⟨a0, rfl, rfl, rfl, w0⟩ := open_int Try.underlying3 (hval 0 3 v0 rfl rfl) h0
  obtain ⟨a1, rfl, rfl, rfl, w1⟩ := open_int Try.underlying3 (hval 1 3 v1 rfl rfl) h1
  obtain ⟨a2, len2, cap2, rfl⟩ := okWide_slice Try.underlying22 (hval 2 22 v2 rfl rfl)
  have k2 := h2
  have lt2 : ∀ x ∈ p2, x.block < W.heap.size := by obtain ⟨m, hm⟩ := k2; exact DataW.trod_lt m _ _ _ hm
  obtain ⟨z2, w2⟩ : ∃ zs, IsRow .i64 W a2 len2 cap2 zs := by
    obtain ⟨fuel, hf⟩ := h2
    rcases open_ints Try.underlying22 Try.underlying3 (by kernel_rfl) hf with ⟨hcs, _⟩ | ⟨x, l, c, zs, hcs, _, hl, hm, hz, _, hcell, hwz⟩
    · simp [Value.cells] at hcs
      obtain ⟨rfl, rfl, rfl⟩ := hcs
      exact ⟨[], .inl ⟨rfl, rfl, rfl, rfl⟩⟩
    · simp [Value.cells] at hcs
      obtain ⟨rfl, rfl, rfl⟩ := hcs
      exact ⟨zs, .inr ⟨_, rfl, hl, hm, by simpa using hz, hcell, hwz⟩⟩
  clear hA0 hval0
  refine (walk a0 a1 a2 len2 cap2 z2 W w0 w1 w2).mono fun e W' ⟨he, bel⟩ => ?_
  subst he
  exact ⟨_, rfl, _, _, _, [], _, [], hW', trodAll_mk1 (shut_bool Try.underlying4 _), (trodAll_cons_mk (shut_int Try.underlying3 w0) (trodAll_cons_mk (shut_int Try.underlying3 w1) (trodAll_cons_mk (Below.trod laidOut (by kernel_rfl) (of_decide_eq_true (by kernel_rfl)) k2 bel lt2) trodAll_mk0))), rfl, bel.frame _, fun h => by cases h⟩

theorem over : Rows.sizeAsksRow.holds Try.pinned (OpenSpec.ofChange Rows.sizeAsksSpec) :=
  OpenClaim.holds_of_wide 3 Try.f3 rfl rfl rfl rfl rfl rfl rfl ⟨rfl, rfl, rfl, rfl, rfl⟩ rfl rfl rfl rfl rfl (by kernel_rfl) Try.func3 (by kernel_rfl)
    (of_decide_eq_true (by kernel_rfl)) (by unfold Func.isWrapper; first | (rw [if_pos (by decide +kernel)]; kernel_rfl) | (rw [if_neg (by decide +kernel)]; exact ⟨rfl, rfl⟩))
    (fun os started H enc _ => lifted os started H enc)

/-- ████ THE STATEMENT ████ -/
theorem proved : Rows.SizeAsksSaid := over
#print axioms proved
end Go.Proofs.Ytomnkdfolonicaa.sizeAsks
