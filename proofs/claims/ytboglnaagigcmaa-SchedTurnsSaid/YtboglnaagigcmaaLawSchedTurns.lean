/-
  For every input the call of lavabolaw7.SchedTurns returns true and leaves its arguments as they were; no condition.
-/
import Derived.Test.YtboglnaagigcmaaTold7
import Derived.Test.YtboglnaagigcmaaSchOne
import Derived.Test.YtboglnaagigcmaaRows
import Derived.WalkKit
import Derived.ProofKit
import Derived.OpenShut
import Derived.ShutString
import Derived.ChangeOld
import Derived.Below
namespace Go.Proofs.Ytboglnaagigcmaa.schedTurns
open Go.ChangeShapes Go.WideShapes Go.ChangeAt Go.RowKit
open Go.ChangeMaps (open_string shut_string)
open Go.Proofs.Ytboglnaagigcmaa.Mem Go.Proofs.Ytboglnaagigcmaa.Blk Go.Proofs.Ytboglnaagigcmaa.Cells Go.Proofs.Ytboglnaagigcmaa.SchM Go.Proofs.Ytboglnaagigcmaa.SchC Go.Proofs.Ytboglnaagigcmaa.SchD Go.Proofs.Ytboglnaagigcmaa.SchE Go.Proofs.Ytboglnaagigcmaa.Told7 Go.Proofs.Ytboglnaagigcmaa.Stages
set_option linter.unusedVariables false

theorem own : ownKnob Try.prog.godebug = none := by kernel_rfl
theorem laidOut : laidOutB Try.prog = true := by kernel_rfl

/-- WHAT THE WALK IS TOLD OF A SLICE OF INTEGERS THAT CAME IN: it is nil; or it leads to a row of 'cap' cells, the numbers 'zs' (the first 'len' are its elements, the rest its spare room), each fitting its kind. -/
def IsRow (k : IntKind) (w : World) (a : Option Addr) (len cap : Nat) (zs : List Int) : Prop :=
  (a = none ∧ len = 0 ∧ cap = 0 ∧ zs = []) ∨
  ∃ x, a = some x ∧ len ≤ cap ∧ cap ≤ maxLen ∧ zs.length = cap ∧ (∀ i, i < zs.length → w.cell? (x.add i) = some (.int k (zs.getD i 0))) ∧ ∀ n ∈ zs, (Lit.int k n).wf = true

/-! ### STEP 1: THE WALK: the Go text returns true, AND WRITES NOTHING THAT WAS THERE: 'Below w.heap.size w w'' (Derived/Below.lean: '.refl', '.alloc', '.drew', '.setCell' at a new block, '.trans'). Open each 'IsRow' by 'rcases' AHEAD of 'go_enter'; part every test ahead of the walk. -/
set_option maxHeartbeats 4000000 in
theorem walk (a0 : Int) (a1 : Int) (a2 : Int) (a3 : Int) (w : World) (w0 : (Lit.int .i64 a0).wf = true) (w1 : (Lit.int .i64 a1).wf = true) (w2 : (Lit.int .i64 a2).wf = true) (w3 : (Lit.int .i64 a3).wf = true) :
    Calls Try.prog 6 #[.int .i64 a0, .int .i64 a1, .int .i64 a2, .int .i64 a3] w fun e w' => e = .returned (.bool true) ∧ Below w.heap.size w w' := by
  have k0 := bounds_i64 w0
  have k1 := bounds_i64 w1
  have k2 := bounds_i64 w2
  have k3 := bounds_i64 w3
  obtain ⟨k, hn0, hk⟩ := tmod_nat a0 10 (by omega)
  obtain ⟨x, hn1, hx⟩ := tmod_nat a1 1000 (by omega)
  obtain ⟨y, hn2, hy⟩ := tmod_nat a2 1000 (by omega)
  obtain ⟨o, hn3, ho⟩ := tmod_nat a3 1000 (by omega)
  simp only [Int.cast_ofNat_Int] at hn0 hn1 hn2 hn3
  have hkz : (k : Int) < 10 := by omega
  have hxz : (x : Int) < 1000 := by omega
  have hyz : (y : Int) < 1000 := by omega
  have hoz : (o : Int) < 1000 := by omega
  obtain ⟨T1, T2, T3, T4, T5, T6, M1, M2, M3, M4, M5, M6, M7, M8, M9, M10, M11, M12, M13, M14⟩ := turns_math hk (x := (x : Int)) (y := (y : Int)) (o := (o : Int)) (by omega) (by omega) (by omega)
  have V3 : tval T3 (k : Int) = .agg #[.int .i64 2, .int .i64 (y : Int), .int .i64 (o : Int)] := by rw [tval_in (by omega), M7.2.1, M7.2.2.1, M7.2.2.2]
  have V6 : tval T6 (k : Int) = .agg #[.int .i64 1, .int .i64 (x : Int), .int .i64 (-1)] := by rw [tval_in (by omega), M13.2.1, M13.2.2.1, M13.2.2.2]
  have P1 := Lib.hid M1
  have P2 := Lib.hid M2
  have P3 := Lib.hid M3
  have P4 := Lib.hid M4
  have P5 := Lib.hid M5
  have P6 := Lib.hid M6
  have P8 := Lib.hid M8
  have P9 := Lib.hid M9
  have P10 := Lib.hid M10
  have P11 := Lib.hid M11
  have P12 := Lib.hid M12
  have P14 := Lib.hid M14
  have X3 := Lib.hid V3
  have X6 := Lib.hid V6
  have CN := Lib.hid fun (wx : World) => new_good (w := wx) 10 (by omega) (by omega)
  simp only [Int.cast_ofNat_Int] at CN
  clear M1 M2 M3 M4 M5 M6 M7 M8 M9 M10 M11 M12 M13 M14 V3 V6 hk hx hy ho
  go_enter Try.func6, Try.ntmps6
  go_wp2_with (first
    | (go_at_call 9; (with_reducible refine (told_any _).mono ?_); rintro e w13 ⟨rfl, hge⟩; have HGE := Lib.hid hge; have H10 := Lib.hid (H9.out.grow hge); clear hge)
    | (go_at_call 7; (with_reducible refine (CN.out _).mono ?_); rintro e w4 ⟨d, D, c, rfl, hl, hd1, hd2, hg⟩; have H0 := Lib.hid hl; have HD := Lib.hid (And.intro hd1 hd2); have G0 := Lib.hid hg; clear hl hd1 hd2 hg)
    | (go_at_call 10; (with_reducible refine (t_wake _ _ H0.out P1.out.1 P1.out.2).mono ?_); rintro e w5 ⟨rfl, hl, hk⟩; have H1 := Lib.hid hl; have G1 := Lib.hid hk; clear hl hk)
    | (go_at_call 10; (with_reducible refine (t_wake _ _ H1.out P2.out.1 P2.out.2).mono ?_); rintro e w6 ⟨rfl, hl, hk⟩; have H2 := Lib.hid hl; have G2 := Lib.hid hk; clear hl hk)
    | (go_at_call 12; (with_reducible refine (t_go _ _ H2.out P3.out.1 P3.out.2).mono ?_); rintro e w7 ⟨rfl, hl, hk⟩; have H3 := Lib.hid hl; have G3 := Lib.hid hk; clear hl hk)
    | (go_at_call 14; (with_reducible refine (t_block _ _ H3.out P4.out.1 P4.out.2).mono ?_); rintro e w8 ⟨rfl, hl, hk⟩; have H4 := Lib.hid hl; have G4 := Lib.hid hk; clear hl hk)
    | (go_at_call 12; (with_reducible refine (t_go _ _ H4.out P5.out.1 P5.out.2).mono ?_); rintro e w9 ⟨rfl, hl, hk⟩; have H5 := Lib.hid hl; have G5 := Lib.hid hk; clear hl hk)
    | (go_at_call 16; (with_reducible refine (t_done _ H5.out P6.out.1 P6.out.2).mono ?_); rintro e w10 ⟨rfl, hl, hk⟩; have H6 := Lib.hid hl; have G6 := Lib.hid hk; clear hl hk)
    | (go_at_call 27; (with_reducible refine (t_task _ H6.out X3.out).mono ?_); rintro e w11 ⟨rfl, hg⟩; have H7 := Lib.hid (H6.out.grow hg); have G7 := Lib.hid hg; clear hg)
    | (go_at_call 19; (with_reducible refine (t_free _ H7.out P8.out.1 P8.out.2).mono ?_); rintro e w12 ⟨A, cc, rfl, hs, hn, hl, hk⟩; have H8 := Lib.hid hl; have G8 := Lib.hid hk; clear hs hn hl hk)
    | (go_at_call 19; (with_reducible refine (t_free _ H8.out P9.out.1 P9.out.2).mono ?_); rintro e w12a ⟨A2, cc2, rfl, hs, hn, hl, hk⟩; have H8a := Lib.hid hl; have G8a := Lib.hid hk; clear hs hn hl hk)
    | (go_at_call 16; (with_reducible refine (t_done _ H8a.out P10.out.1 P10.out.2).mono ?_); rintro e w12b ⟨rfl, hl, hk⟩; have H9 := Lib.hid hl; have G9 := Lib.hid hk; clear hl hk)
    | (go_at_call 12; (with_reducible refine (t_go _ _ H10.out P11.out.1 P11.out.2).mono ?_); rintro e w14 ⟨rfl, hl, hk⟩; have H11 := Lib.hid hl; have G11 := Lib.hid hk; clear hl hk)
    | (go_at_call 10; (with_reducible refine (t_wake _ _ H11.out P12.out.1 P12.out.2).mono ?_); rintro e w15 ⟨rfl, hl, hk⟩; have H12 := Lib.hid hl; have G12 := Lib.hid hk; clear hl hk)
    | (go_at_call 27; (with_reducible refine (t_task _ H12.out X6.out).mono ?_); rintro e w16 ⟨rfl, hg⟩; have H13 := Lib.hid (H12.out.grow hg); have G13 := Lib.hid hg; clear hg)
    | (go_at_call 21; (with_reducible refine (t_pick _ H13.out (P14.out _)).mono ?_); rintro e w17 ⟨rfl, hg⟩; have G14 := Lib.hid hg; clear hg))
  go_ret
  have KG : ∀ {a b : World}, Grow a b → Kept (At D) a b := fun h => Grow.kept h
  have hall := ((((((((((((((G1.out.trans G2.out).trans G3.out).trans G4.out).trans G5.out).trans G6.out).trans (KG G7.out)).trans G8.out).trans G8a.out).trans G9.out).trans (KG HGE.out)).trans G11.out).trans G12.out).trans (KG G13.out)).trans (KG G14.out))
  exact ⟨rfl, Grow.below (Kept.then G0.out hall fun k hk ho => by have ho : k = D := ho; have := HD.out.2; omega)⟩

/-! ### THE ROW's STEP: WRITTEN OUT: LEAVE IT -/
set_option maxRecDepth 100000 in
theorem lifted (os : Os) (started : os.Started) (H : Type) (enc : TypeId × Value → H) :
    ReturnsInHanded {} Try.checked os 6 .any (Rows.schedTurnsSpec.pre6 enc Try.prog Try.f6 Rows.schedTurnsRow.domain false) (Rows.schedTurnsSpec.post enc Try.prog Try.f6 false true false false) := by
  refine returnsInHanded_of_change (C := Try.checked) own started (by kernel_rfl) Try.func6
    (ChangeSpec.witness6 (enc := enc) (C := Try.checked) false ⟨#[], #[.int .i64 0, .int .i64 0, .int .i64 0, .int .i64 0], []⟩ 8 (by kernel_rfl) (by kernel_rfl) (by kernel_rfl) (by kernel_rfl)) ?_
  intro W base args ds gs before hval0 hW hcnd _
  have hval : ∀ (j : Nat) t v, Try.f6.params[j]? = some t → args[j]? = some v → Value.okWide Try.prog W .any base t v := hval0
  have hW' := hW
  obtain ⟨p, q, hA0, hV, rfl, hfz, hnd⟩ := hW
  have hA : DataW.TrodAll enc Try.prog W 0 (fun _ => true) true Try.f6.params.toList args.toList ds p := hA0
  rw [Try.params6] at hA hval
  obtain ⟨v0, vs0, d0, ds0, p0, q0, hargs, rfl, rfl, h0, r0⟩ := trodAll_cons hA
  obtain ⟨v1, vs1, d1, ds1, p1, q1, rfl, rfl, rfl, h1, r1⟩ := trodAll_cons r0
  obtain ⟨v2, vs2, d2, ds2, p2, q2, rfl, rfl, rfl, h2, r2⟩ := trodAll_cons r1
  obtain ⟨v3, vs3, d3, ds3, p3, q3, rfl, rfl, rfl, h3, r3⟩ := trodAll_cons r2
  obtain ⟨rfl, rfl, rfl⟩ := trodAll_nil r3
  obtain rfl : args = #[v0, v1, v2, v3] := by cases args; simp_all
  obtain ⟨rfl, rfl⟩ := trodVars_none hV
  obtain ⟨a0, rfl, rfl, rfl, w0⟩ := open_int Try.underlying3 (hval 0 3 v0 rfl rfl) h0
  obtain ⟨a1, rfl, rfl, rfl, w1⟩ := open_int Try.underlying3 (hval 1 3 v1 rfl rfl) h1
  obtain ⟨a2, rfl, rfl, rfl, w2⟩ := open_int Try.underlying3 (hval 2 3 v2 rfl rfl) h2
  obtain ⟨a3, rfl, rfl, rfl, w3⟩ := open_int Try.underlying3 (hval 3 3 v3 rfl rfl) h3
  clear hA0 hval0
  refine (walk a0 a1 a2 a3 W w0 w1 w2 w3).mono fun e W' ⟨he, bel⟩ => ?_
  subst he
  exact ⟨_, rfl, _, _, _, [], _, [], hW', trodAll_mk1 (shut_bool Try.underlying4 _), (trodAll_cons_mk (shut_int Try.underlying3 w0) (trodAll_cons_mk (shut_int Try.underlying3 w1) (trodAll_cons_mk (shut_int Try.underlying3 w2) (trodAll_cons_mk (shut_int Try.underlying3 w3) trodAll_mk0)))), rfl, bel.frame _, fun h => by cases h⟩

theorem over : Rows.schedTurnsRow.holds Try.pinned (OpenSpec.ofChange Rows.schedTurnsSpec) :=
  OpenClaim.holds_of_wide 6 Try.f6 rfl rfl rfl rfl rfl rfl rfl ⟨rfl, rfl, rfl, rfl, rfl⟩ rfl rfl rfl rfl rfl (by kernel_rfl) Try.func6 (by kernel_rfl)
    (of_decide_eq_true (by kernel_rfl)) (by unfold Func.isWrapper; first | (rw [if_pos (by decide +kernel)]; kernel_rfl) | (rw [if_neg (by decide +kernel)]; exact ⟨rfl, rfl⟩))
    (fun os started H enc _ => lifted os started H enc)

/-- ████ THE STATEMENT ████ -/
theorem proved : Rows.SchedTurnsSaid := over
#print axioms proved
end Go.Proofs.Ytboglnaagigcmaa.schedTurns
