/-
  For every input the call of lavabolaw5.TableOwn returns true and leaves its arguments as they were; no condition.
-/
import Derived.Test.YtnoofichbadkoaaTold5
import Derived.Test.YtnoofichbadkoaaRows
import Derived.WalkKit
import Derived.ProofKit
import Derived.OpenShut
import Derived.ShutString
import Derived.ChangeOld
import Derived.Below
namespace Go.Proofs.Ytnoofichbadkoaa.tableOwn
open Go.ChangeShapes Go.WideShapes Go.ChangeAt Go.RowKit
open Go.ChangeMaps (open_string shut_string)
open Go.Proofs.Ytnoofichbadkoaa.Mem Go.Proofs.Ytnoofichbadkoaa.Blk Go.Proofs.Ytnoofichbadkoaa.Cells Go.Proofs.Ytnoofichbadkoaa.TabM Go.Proofs.Ytnoofichbadkoaa.TabC Go.Proofs.Ytnoofichbadkoaa.TabD Go.Proofs.Ytnoofichbadkoaa.TabO Go.Proofs.Ytnoofichbadkoaa.Told5 Go.Proofs.Ytnoofichbadkoaa.Stages
set_option linter.unusedVariables false

theorem own : ownKnob Try.prog.godebug = none := by kernel_rfl
theorem laidOut : laidOutB Try.prog = true := by kernel_rfl

/-- WHAT THE WALK IS TOLD OF A SLICE OF INTEGERS THAT CAME IN: it is nil; or it leads to a row of 'cap' cells, the numbers 'zs' (the first 'len' are its elements, the rest its spare room), each fitting its kind. -/
def IsRow (k : IntKind) (w : World) (a : Option Addr) (len cap : Nat) (zs : List Int) : Prop :=
  (a = none ∧ len = 0 ∧ cap = 0 ∧ zs = []) ∨
  ∃ x, a = some x ∧ len ≤ cap ∧ cap ≤ maxLen ∧ zs.length = cap ∧ (∀ i, i < zs.length → w.cell? (x.add i) = some (.int k (zs.getD i 0))) ∧ ∀ n ∈ zs, (Lit.int k n).wf = true

theorem own_math (k : Nat) (v : Int) (hk : k < 1000) : ∃ T : Tb, (fresh 8).putC (k : Int) = 0 ∧ (fresh 8).put (k : Int) v = T ∧ T.n = 8 ∧ T.cnt = 1 ∧ T.get (k : Int) = v ∧ T.get 5000 = -1 := by
  have A0 := abs_fresh (n := 8) (by omega) (fun _ => 0)
  obtain ⟨c1, A1, n1⟩ := A0.put_new (k := k) rfl (by rw [cnt_fresh]; show 0 < 8; omega) v
  rw [cnt_fresh] at n1
  have m1 : ((fresh 8).put (k : Int) v).n = 8 := put_n _
  refine ⟨_, c1, rfl, m1, n1, ?_, ?_⟩
  · rw [A1.get k, upd_same, upd_same]; rfl
  · have := A1.get 5000
    rw [upd_other _ _ (by omega)] at this
    exact this
/-! ### STEP 1: THE WALK: the Go text returns true, AND WRITES NOTHING THAT WAS THERE: 'Below w.heap.size w w'' (Derived/Below.lean: '.refl', '.alloc', '.drew', '.setCell' at a new block, '.trans'). Open each 'IsRow' by 'rcases' AHEAD of 'go_enter'; part every test ahead of the walk. -/
set_option maxHeartbeats 2000000 in
theorem walk (a0 : Int) (a1 : Int) (w : World) (w0 : (Lit.int .i64 a0).wf = true) (w1 : (Lit.int .i64 a1).wf = true) :
    Calls Try.prog 3 #[.int .i64 a0, .int .i64 a1] w fun e w' => e = .returned (.bool true) ∧ Below w.heap.size w w' := by
  have k0 := bounds_i64 w0
  have k1 := bounds_i64 w1
  obtain ⟨K, hn, hK⟩ := tmod_nat a0 1000 (by omega)
  simp only [Int.cast_ofNat_Int] at hn
  have hKz : (K : Int) < 1000 := by omega
  obtain ⟨T, p1, q1, m1, n1, g1, g2⟩ := own_math K a1 hK
  have P1 := Lib.hid p1
  have Q1 := Lib.hid q1
  have M1 := Lib.hid m1
  have N1 := Lib.hid n1
  have X1 := Lib.hid g1
  have X2 := Lib.hid g2
  have CN := Lib.hid fun (wx : World) => new_good (w := wx) 8 (by omega) (by omega)
  simp only [Int.cast_ofNat_Int] at CN
  have CS : Hid (∀ wx d D, TabAt wx d D T → Calls Try.prog 11 #[.pointer (some ⟨d, 0, none⟩)] wx fun e w' => ∃ g c, e = .returned (.slice (some ⟨g, 0, none⟩) 8 c) ∧ Slots w' g T ∧ wx.heap.size ≤ g ∧ Grow wx w') := fun wx d D h => by
    refine (slots_any h).mono ?_
    rintro e w' ⟨g, c, h1, h2, h3, _, h4⟩
    rw [m1] at h1
    exact ⟨g, c, h1, h2, h3, h4⟩
  have CL : Hid (∀ wx d D, TabAt wx d D T → Calls Try.prog 14 #[.pointer (some ⟨d, 0, none⟩)] wx fun e w' => e = .returned (.int .i64 1) ∧ wx = w') := fun wx d D h => t_len h N1.out
  clear p1 q1 m1 n1 g1 g2 hK
  go_enter Try.func3, Try.ntmps3
  go_wp2_with (first
    | (go_at_call 9; (with_reducible refine (CN.out _).mono ?_); rintro e w1 ⟨d, D, rfl, hl, hd1, hd2, hg⟩; have H0 := Lib.hid hl; have HD := Lib.hid (And.intro hd1 hd2); have G0 := Lib.hid hg; clear hl hd1 hd2 hg)
    | (go_at_call 10; (with_reducible refine (t_put (K : Int) a1 H0.out P1.out Q1.out).mono ?_); rintro e w2 ⟨rfl, hl, hk⟩; have H1 := Lib.hid hl; have G1 := Lib.hid hk; clear hl hk)
    | (go_at_call 11; (with_reducible refine (CS.out _ _ _ H1.out).mono ?_); rintro e w3 ⟨g, c, rfl, hs, hb, hg⟩; have HS := Lib.hid hs; have HB := Lib.hid hb; have G2 := Lib.hid hg; clear hs hb hg))
  have H2 := Lib.hid (TabAt.grow H1.out G2.out)
  go_loopg [8] 8 (fun gx i wr => ∃ (j : Nat) (U : Tb), j + gx = 8 ∧ i = .int .i64 (j : Int) ∧ U.n = 8 ∧ Slots wr g U ∧ Kept (· = g) w3 wr)
  case atStart => exact ⟨0, T, by omega, rfl, M1.out, HS.out, Kept.refl _ _⟩
  case round =>
    obtain ⟨j, U, hg, rfl, hU, hs, hk⟩ := hrel
    have HG := Lib.hid hg
    have HSL := Lib.hid hs
    have HK := Lib.hid hk
    have HU := Lib.hid hU
    clear hk hg
    by_cases hj : j < 8
    · have hjz : (j : Int) < 8 := by omega
      have f1 := Row.frozen hs
      have r0 := hs.k (p := j) (by omega)
      have r1 := hs.v (p := j) (by omega)
      clear hs hU
      go_wp2
      go_roundg (gk - 1)
      case measure => have := HG.out; omega
      case rel => exact ⟨j + 1, U.set j 5000 1, by have := HG.out; omega, by go_num, HU.out, HSL.out.set j 5000 1, (HK.out.setCell (fun _ => rfl) _).setCell (fun _ => rfl) _⟩
    · obtain rfl : j = 8 := by have := HG.out; omega
      clear hs hU hj
      simp only [Int.cast_ofNat_Int]
      have HNG : Hid (¬ Own d D g) := fun h => by
        have := Raw.lt H1.out
        have := HB.out
        rcases h with h | h <;> omega
      have H3 := Lib.hid (TabAt.kept H2.out HK.out (fun k e h => HNG.out (e ▸ h)))
      have HBL : Hid (Below w.heap.size w wr) := by
        refine Kept.below (F := fun k => Own d D k ∨ k = g) ((Grow.kept G0.out).trans ((G1.out.mono fun k _ h => .inl h).trans ((Grow.kept G2.out).trans (HK.out.mono fun k _ h => .inr h)))) (fun k ho => ?_) (Nat.le_refl _)
        have h1 := HD.out.1
        have h2 := HD.out.2
        have h3 := HB.out
        have h4 := G0.out.size
        have h5 := G1.out.size
        rcases ho with (h | h) | h <;> omega
      go_wp2_with (first
        | (go_at_call 12; (with_reducible refine (told_any _).mono ?_); rintro e w5 ⟨rfl, hge⟩; have HGE := Lib.hid hge; clear hge)
        | (go_at_call 13; (with_reducible refine (t_get (K : Int) (TabAt.grow H3.out HGE.out) X1.out).mono ?_); rintro e w' ⟨rfl, rfl⟩)
        | (go_at_call 13; (with_reducible refine (t_get 5000 (TabAt.grow H3.out HGE.out) X2.out).mono ?_); rintro e w' ⟨rfl, rfl⟩)
        | (go_at_call 14; (with_reducible refine (CL.out _ _ _ (TabAt.grow H3.out HGE.out)).mono ?_); rintro e w' ⟨rfl, rfl⟩))
      go_ret
      exact ⟨rfl, HBL.out.trans ((Grow.below HGE.out).mono HBL.out.size)⟩

/-! ### THE ROW's STEP: WRITTEN OUT: LEAVE IT -/
set_option maxRecDepth 100000 in
theorem lifted (os : Os) (started : os.Started) (H : Type) (enc : TypeId × Value → H) :
    ReturnsInHanded {} Try.checked os 3 .any (Rows.tableOwnSpec.pre6 enc Try.prog Try.f3 Rows.tableOwnRow.domain false) (Rows.tableOwnSpec.post enc Try.prog Try.f3 false true false false) := by
  refine returnsInHanded_of_change (C := Try.checked) own started (by kernel_rfl) Try.func3
    (ChangeSpec.witness6 (enc := enc) (C := Try.checked) false ⟨#[], #[.int .i64 0, .int .i64 0], []⟩ 8 (by kernel_rfl) (by kernel_rfl) (by kernel_rfl) (by kernel_rfl)) ?_
  intro W base args ds gs before hval0 hW hcnd _
  have hval : ∀ (j : Nat) t v, Try.f3.params[j]? = some t → args[j]? = some v → Value.okWide Try.prog W .any base t v := hval0
  have hW' := hW
  obtain ⟨p, q, hA0, hV, rfl, hfz, hnd⟩ := hW
  have hA : DataW.TrodAll enc Try.prog W 0 (fun _ => true) true Try.f3.params.toList args.toList ds p := hA0
  rw [Try.params3] at hA hval
  obtain ⟨v0, vs0, d0, ds0, p0, q0, hargs, rfl, rfl, h0, r0⟩ := trodAll_cons hA
  obtain ⟨v1, vs1, d1, ds1, p1, q1, rfl, rfl, rfl, h1, r1⟩ := trodAll_cons r0
  obtain ⟨rfl, rfl, rfl⟩ := trodAll_nil r1
  obtain rfl : args = #[v0, v1] := by cases args; simp_all
  obtain ⟨rfl, rfl⟩ := trodVars_none hV
  obtain ⟨a0, rfl, rfl, rfl, w0⟩ := open_int Try.underlying3 (hval 0 3 v0 rfl rfl) h0
  obtain ⟨a1, rfl, rfl, rfl, w1⟩ := open_int Try.underlying3 (hval 1 3 v1 rfl rfl) h1
  clear hA0 hval0
  refine (walk a0 a1 W w0 w1).mono fun e W' ⟨he, bel⟩ => ?_
  subst he
  exact ⟨_, rfl, _, _, _, [], _, [], hW', trodAll_mk1 (shut_bool Try.underlying4 _), (trodAll_cons_mk (shut_int Try.underlying3 w0) (trodAll_cons_mk (shut_int Try.underlying3 w1) trodAll_mk0)), rfl, bel.frame _, fun h => by cases h⟩

theorem over : Rows.tableOwnRow.holds Try.pinned (OpenSpec.ofChange Rows.tableOwnSpec) :=
  OpenClaim.holds_of_wide 3 Try.f3 rfl rfl rfl rfl rfl rfl rfl ⟨rfl, rfl, rfl, rfl, rfl⟩ rfl rfl rfl rfl rfl (by kernel_rfl) Try.func3 (by kernel_rfl)
    (of_decide_eq_true (by kernel_rfl)) (by unfold Func.isWrapper; first | (rw [if_pos (by decide +kernel)]; kernel_rfl) | (rw [if_neg (by decide +kernel)]; exact ⟨rfl, rfl⟩))
    (fun os started H enc _ => lifted os started H enc)

/-- ████ THE STATEMENT ████ -/
theorem proved : Rows.TableOwnSaid := over
#print axioms proved
end Go.Proofs.Ytnoofichbadkoaa.tableOwn
