/-
  For every input the call of lavabolaw10.ArenaSizes returns true and leaves its arguments as they were; no condition.
-/
import Derived.Test.YtcebjeemganhdaaTold10
import Derived.Test.YtcebjeemganhdaaRows
import Derived.WalkKit
import Derived.ProofKit
import Derived.OpenShut
import Derived.ShutString
import Derived.ChangeOld
import Derived.Below
namespace Go.Proofs.Ytcebjeemganhdaa.arenaSizes
open Go.ChangeShapes Go.WideShapes Go.ChangeAt Go.RowKit
open Go.ChangeMaps (open_string shut_string)
open Go.Proofs.Ytcebjeemganhdaa.Mem Go.Proofs.Ytcebjeemganhdaa.Blk Go.Proofs.Ytcebjeemganhdaa.Cells Go.Proofs.Ytcebjeemganhdaa.TabM Go.Proofs.Ytcebjeemganhdaa.ArM Go.Proofs.Ytcebjeemganhdaa.ArC Go.Proofs.Ytcebjeemganhdaa.ArD Go.Proofs.Ytcebjeemganhdaa.ArR Go.Proofs.Ytcebjeemganhdaa.ArA Go.Proofs.Ytcebjeemganhdaa.ArN Go.Proofs.Ytcebjeemganhdaa.Told10 Go.Proofs.Ytcebjeemganhdaa.Stages
set_option linter.unusedVariables false

theorem own : ownKnob Try.prog.godebug = none := by kernel_rfl
theorem laidOut : laidOutB Try.prog = true := by kernel_rfl

/-- WHAT THE WALK IS TOLD OF A SLICE OF INTEGERS THAT CAME IN: it is nil; or it leads to a row of 'cap' cells, the numbers 'zs' (the first 'len' are its elements, the rest its spare room), each fitting its kind. -/
def IsRow (k : IntKind) (w : World) (a : Option Addr) (len cap : Nat) (zs : List Int) : Prop :=
  (a = none ∧ len = 0 ∧ cap = 0 ∧ zs = []) ∨
  ∃ x, a = some x ∧ len ≤ cap ∧ cap ≤ maxLen ∧ zs.length = cap ∧ (∀ i, i < zs.length → w.cell? (x.add i) = some (.int k (zs.getD i 0))) ∧ ∀ n ∈ zs, (Lit.int k n).wf = true

/-- Behind i times Retire. -/
structure RS (a : Ar) (k i : Nat) : Prop where
  n : a.n = k
  q : a.Q = (List.range k).drop i
  st : ∀ x, x < k → ((a.F x).st = 4 ↔ x < i)
theorem rs_zero (k : Nat) : RS (ArM.fresh k) k 0 := ⟨rfl, rfl, fun x hx => ⟨fun h => by have h : (0 : Int) = 4 := h; omega, fun h => by omega⟩⟩
theorem rs_step {a : Ar} {k i : Nat} (h : RS a k i) (hi : i < k) : ListM.first a.Q = (i : Int) ∧ RS a.ret k (i + 1) := by
  have e : a.Q = i :: (List.range k).drop (i + 1) := by
    rw [h.q, List.drop_eq_getElem_cons (by simpa using hi), List.getElem_range]
  have e2 : a.ret = ⟨a.n, upd a.F i fGone, a.B, (List.range k).drop (i + 1)⟩ := by unfold Ar.ret; rw [e]; rfl
  refine ⟨by rw [e]; rfl, ?_⟩
  rw [e2]
  refine ⟨h.n, rfl, fun x hx => ?_⟩
  show (upd a.F i fGone x).st = 4 ↔ _
  by_cases ex : x = i
  · subst ex; rw [upd_same]; exact ⟨fun _ => by omega, fun _ => rfl⟩
  · rw [upd_other _ _ ex, h.st x hx]; omega
theorem rs_end {a : Ar} {k i : Nat} (h : RS a k i) (hi : ¬ i < k) : ListM.first a.Q = -1 ∧ a.ret = a := by
  have e : a.Q = [] := by rw [h.q]; exact List.drop_of_length_le (by simpa using hi)
  exact ⟨by rw [e]; rfl, by unfold Ar.ret; rw [e]; rfl⟩
/-- Behind i times Add. -/
structure AS (a : Ar) (k g i : Nat) : Prop where
  n : a.n = min 32 (k + (i - g))
  st : ∀ x, x < a.n → ((a.F x).st = 4 ↔ i ≤ x ∧ x < g)
  l : a.Q.length = min (32 - (g - i)) (k - g + i)
theorem as_zero {a : Ar} {k m : Nat} (h : RS a k (min k m)) (hk : k ≤ 32) : AS a k (min k m) 0 := by
  refine ⟨by rw [h.n]; omega, fun x hx => ?_, ?_⟩
  · rw [h.st x (by rw [← h.n]; exact hx)]; omega
  · rw [h.q, List.length_drop, List.length_range]; omega
theorem as_old {a : Ar} {k g i : Nat} (h : AS a k g i) (hg : g ≤ k) (hk : k ≤ 32) (hi : i < g) : a.addC = (i : Int) ∧ AS a.add k g (i + 1) := by
  have hn := h.n
  have es : a.spare = i := least_eq (by omega) (decide_eq_true ((h.st i (by omega)).2 ⟨Nat.le_refl _, hi⟩)) fun x hx => decide_eq_false fun e => by have := (h.st x (by omega)).1 e; omega
  unfold Ar.addC Ar.add
  rw [es, if_pos (by omega), if_pos (by omega)]
  refine ⟨rfl, ?_⟩
  unfold Ar.addF
  rw [if_pos (by omega)]
  refine ⟨by show a.n = _; omega, fun x hx => ?_, ?_⟩
  · show (upd a.F i fFree x).st = 4 ↔ _
    by_cases ex : x = i
    · subst ex; rw [upd_same]; exact ⟨fun h => by have h : (0 : Int) = 4 := h; omega, fun h => by omega⟩
    · rw [upd_other _ _ ex, h.st x hx]; omega
  · show (a.Q ++ [i]).length = _
    rw [List.length_append, h.l]
    simp
    omega
theorem as_new {a : Ar} {k g i : Nat} (h : AS a k g i) (hg : g ≤ k) (hi : ¬ i < g) (hn : k + i - g < 32) : a.addC = ((k + i - g : Nat) : Int) ∧ AS a.add k g (i + 1) := by
  have hn' := h.n
  have es : a.spare = a.n := least_all fun x hx => decide_eq_false fun e => by have := (h.st x hx).1 e; omega
  unfold Ar.addC Ar.add
  rw [es, if_pos (by omega), if_pos (by omega)]
  refine ⟨by rw [hn']; congr 1; omega, ?_⟩
  unfold Ar.addF
  rw [if_neg (by omega)]
  refine ⟨by show a.n + 1 = _; omega, fun x hx => ?_, ?_⟩
  · have hx : x < a.n + 1 := hx
    show (upd a.F a.n fFree x).st = 4 ↔ _
    by_cases ex : x = a.n
    · subst ex; rw [upd_same]; exact ⟨fun h => by have h : (0 : Int) = 4 := h; omega, fun h => by omega⟩
    · rw [upd_other _ _ ex, h.st x (by omega)]; omega
  · show (a.Q ++ [a.n]).length = _
    rw [List.length_append, h.l]
    simp
    omega
theorem as_full {a : Ar} {k g i : Nat} (h : AS a k g i) (hg : g ≤ k) (hk : k ≤ 32) (hi : ¬ i < g) (hn : ¬ k + i - g < 32) : a.addC = -1 ∧ a.add = a ∧ AS a k g (i + 1) := by
  have hn' := h.n
  have es : a.spare = a.n := least_all fun x hx => decide_eq_false fun e => by have := (h.st x hx).1 e; omega
  unfold Ar.addC Ar.add
  rw [es, if_neg (by omega), if_neg (by omega)]
  refine ⟨rfl, rfl, by omega, fun x hx => ?_, ?_⟩
  · rw [h.st x hx]; omega
  · rw [h.l]; omega
def Least (v : Value) (k i : Nat) : Prop := v = .int .i64 ((min k i : Nat) : Int)
def ALoop (w : World) (k q j0 g : Nat) (i : Value) (wx : World) : Prop := ∃ (j : Nat) (a : Ar), j + g = j0 ∧ i = .int .i64 (j : Int) ∧ ArAt wx (w.heap.size ≤ ·) w.heap.size a ∧ AS a k q j ∧ Grow w wx
def RLoop (w : World) (k m g : Nat) (i : Value) (wx : World) : Prop := ∃ (j : Nat) (a : Ar), j + g = m ∧ i = .int .i64 (j : Int) ∧ ArAt wx (w.heap.size ≤ ·) w.heap.size a ∧ RS a k (min k j) ∧ Grow w wx

/-! ### STEP 1: THE WALK: the Go text returns true, AND WRITES NOTHING THAT WAS THERE: 'Below w.heap.size w w'' (Derived/Below.lean: '.refl', '.alloc', '.drew', '.setCell' at a new block, '.trans'). Open each 'IsRow' by 'rcases' AHEAD of 'go_enter'; part every test ahead of the walk. -/
set_option maxHeartbeats 2000000 in
set_option maxRecDepth 100000 in
theorem walk (a0 : Int) (a1 : Int) (a2 : Int) (w : World) (w0 : (Lit.int .i64 a0).wf = true) (w1 : (Lit.int .i64 a1).wf = true) (w2 : (Lit.int .i64 a2).wf = true) :
    Calls Try.prog 7 #[.int .i64 a0, .int .i64 a1, .int .i64 a2] w fun e w' => e = .returned (.bool true) ∧ Below w.heap.size w w' := by
  have k0 := bounds_i64 w0
  have k1 := bounds_i64 w1
  have k2 := bounds_i64 w2
  obtain ⟨k, hk, hk33⟩ := tmod_nat a0 33 (by omega)
  obtain ⟨m, hm, hm40⟩ := tmod_nat a1 40 (by omega)
  obtain ⟨j0, hj, hj40⟩ := tmod_nat a2 40 (by omega)
  simp only [Int.cast_ofNat_Int] at hk hm hj
  have hkz : (k : Int) < 33 := by omega
  have hmz : (m : Int) < 40 := by omega
  have hjz : (j0 : Int) < 40 := by omega
  have HN := Lib.hid (new_good (w := w) k (by omega))
  go_enter Try.func7, Try.ntmps7
  go_wp2_with (go_at_call 8; (with_reducible refine HN.out.mono ?_); rintro e w1 ⟨rfl, ha, hg⟩; have HA := Lib.hid ha; have G0 := Lib.hid hg; clear ha hg)
  clear hk hm hj
  go_loopg [11] m (RLoop w k m)
  case atStart => exact ⟨0, _, by omega, rfl, HA.out, by rw [show min k 0 = 0 by omega]; exact rs_zero k, G0.out⟩
  case round =>
    obtain ⟨i, a, hg, rfl, har, hrs, hgr⟩ := hrel
    have HG := Lib.hid hg
    have HAR := Lib.hid har
    have HRS := Lib.hid hrs
    have HGR := Lib.hid hgr
    clear hg har hrs hgr
    by_cases hi : i < m
    · have hiz : (i : Int) < (m : Int) := by omega
      have HRET := Lib.hid (retire_any HAR.out)
      by_cases hik : i < k
      · have hikz : (i : Int) < (k : Int) := by omega
        have h1 := HRS.out
        rw [show min k i = i by omega] at h1
        obtain ⟨e1, e2⟩ := rs_step h1 hik
        have HR2 : Hid (RS a.ret k (min k (i + 1))) := by show RS _ _ _; rw [show min k (i + 1) = i + 1 by omega]; exact e2
        rw [e1] at HRET
        clear h1 e1 e2 HRS
        go_wp2_with (go_at_call 25; (with_reducible refine HRET.out.mono ?_); rintro e w2 ⟨rfl, ha, hk⟩; have HA2 := Lib.hid ha; have HK2 := Lib.hid hk; clear ha hk)
        go_roundg (gk - 1)
        case measure => have := HG.out; omega
        case rel => exact ⟨i + 1, _, by have := HG.out; omega, by go_num, HA2.out, HR2.out, HGR.out.then HK2.out fun k hk e => by omega⟩
      · have hikz : (k : Int) ≤ (i : Int) := by omega
        have h1 := HRS.out
        rw [show min k i = k by omega] at h1
        obtain ⟨e1, e2⟩ := rs_end h1 (by omega)
        have HR2 : Hid (RS a k (min k (i + 1))) := by show RS _ _ _; rw [show min k (i + 1) = k by omega]; exact h1
        rw [e1, e2] at HRET
        clear h1 e1 e2 HRS
        go_wp2_with (go_at_call 25; (with_reducible refine HRET.out.mono ?_); rintro e w2 ⟨rfl, ha, hk⟩; have HA2 := Lib.hid ha; have HK2 := Lib.hid hk; clear ha hk)
        go_roundg (gk - 1)
        case measure => have := HG.out; omega
        case rel => exact ⟨i + 1, _, by have := HG.out; omega, by go_num, HA2.out, HR2.out, HGR.out.then HK2.out fun k hk e => by omega⟩
    · obtain rfl : i = m := by have := HG.out; omega
      have HAS := Lib.hid (as_zero HRS.out (by omega))
      clear HRS hi
      go_upto_region 11 with (fail)
      go_cut [13] (fun s13 wx => Least s13 k i ∧ wr = wx)
      case first =>
        go_wp2_with fail
        all_goals (go_meet; exact ⟨by unfold Least; congr 1; omega, rfl⟩)
      case rest =>
        obtain ⟨hcv, rfl⟩ := hcut
        unfold Least at hcv
        subst hcv
        obtain ⟨q, hq⟩ : ∃ q, q = min k i := ⟨_, rfl⟩
        rw [← hq] at HAS ⊢
        have HQ := Lib.hid hq
        have hqk : q ≤ k := by omega
        have hqz : (q : Int) ≤ (k : Int) := by omega
        have hq0 : (q : Int) < 40 := by omega
        clear hq
        go_wp2_with (fail)
        go_loopg [14] j0 (ALoop w k q j0)
        case atStart => exact ⟨0, _, by omega, rfl, HAR.out, HAS.out, HGR.out⟩
        case round =>
          clear HAR HAS HGR HG HA G0
          obtain ⟨j, a, hg, rfl, har, has, hgr⟩ := hrel
          have HG := Lib.hid hg
          have HAR := Lib.hid har
          have HAS := Lib.hid has
          have HGR := Lib.hid hgr
          clear hg har has hgr
          by_cases hj : j < j0
          · have hjz0 : (j : Int) < (j0 : Int) := by omega
            have HADD := Lib.hid (add_any HAR.out fun k hk => by have := HGR.out.size; omega)
            by_cases hjq : j < q
            · have hjqz : (j : Int) < (q : Int) := by omega
              have hlt : (j : Int) < 32 := by omega
              obtain ⟨e1, e2⟩ := as_old HAS.out hqk (by omega) hjq
              have HA2 := Lib.hid e2
              rw [e1] at HADD
              clear e1 e2 HAS hj hjq
              go_wp2_with (go_at_call 23; (with_reducible refine HADD.out.mono ?_); rintro e w2 ⟨rfl, ha, hk⟩; have HR2 := Lib.hid ha; have HK2 := Lib.hid hk; clear ha hk)
              go_roundg (gk - 1)
              case measure => have := HG.out; omega
              case rel => exact ⟨j + 1, _, by have := HG.out; omega, by go_num, HR2.out, HA2.out, HGR.out.then HK2.out fun k hk e => by omega⟩
            · have hjqz : (q : Int) ≤ (j : Int) := by omega
              by_cases h32 : k + j - q < 32
              · obtain ⟨e1, e2⟩ := as_new HAS.out hqk hjq h32
                rw [show ((k + j - q : Nat) : Int) = (k : Int) + (j : Int) - (q : Int) by omega] at e1
                have hlt : (k : Int) + (j : Int) - (q : Int) < 32 := by omega
                have HA2 := Lib.hid e2
                rw [e1] at HADD
                clear e1 e2 HAS hj hjq h32
                go_wp2_with (go_at_call 23; (with_reducible refine HADD.out.mono ?_); rintro e w2 ⟨rfl, ha, hk⟩; have HR2 := Lib.hid ha; have HK2 := Lib.hid hk; clear ha hk)
                go_roundg (gk - 1)
                case measure => have := HG.out; omega
                case rel => exact ⟨j + 1, _, by have := HG.out; omega, by go_num, HR2.out, HA2.out, HGR.out.then HK2.out fun k hk e => by omega⟩
              · obtain ⟨e1, e2, e3⟩ := as_full HAS.out hqk (by omega) hjq h32
                have hlt : 32 ≤ (k : Int) + (j : Int) - (q : Int) := by omega
                have HA2 : Hid (AS a.add k q (j + 1)) := by show AS _ _ _ _; rw [e2]; exact e3
                rw [e1] at HADD
                clear e1 e2 e3 HAS hj hjq h32
                go_wp2_with (go_at_call 23; (with_reducible refine HADD.out.mono ?_); rintro e w2 ⟨rfl, ha, hk⟩; have HR2 := Lib.hid ha; have HK2 := Lib.hid hk; clear ha hk)
                go_roundg (gk - 1)
                case measure => have := HG.out; omega
                case rel => exact ⟨j + 1, _, by have := HG.out; omega, by go_num, HR2.out, HA2.out, HGR.out.then HK2.out fun k hk e => by omega⟩
          · obtain rfl : j = j0 := by have := HG.out; omega
            have hl := HAS.out.l
            have HL := Lib.hid hl
            clear hl hj
            generalize hQ : a.Q.length = L at HL
            have HF : Hid (∀ wx, Grow wr wx → Calls Try.prog 30 #[.pointer (some ⟨w.heap.size, 0, none⟩)] wx fun e w' => e = .returned (.int .i64 (L : Int)) ∧ wx = w') := fun wx hk => by rw [← hQ]; exact free_any (HAR.out.grow hk)
            clear hQ
            go_wp2_with (first
              | (go_at_call 10; (with_reducible refine (told_any _).mono ?_); rintro e w3 ⟨rfl, hge⟩; have HGE := Lib.hid hge; clear hge)
              | (go_at_call 30; (with_reducible refine (HF.out _ HGE.out).mono ?_); rintro e w' ⟨rfl, rfl⟩))
            · go_ret
              exact ⟨by rw [show ((L : Int) == (k : Int) - (q : Int) + (j : Int)) = true from beq_iff_eq.2 (by have := HL.out; omega)]; rfl, Grow.below (HGR.out.trans HGE.out)⟩
            · go_ret
              exact ⟨by rw [show ((L : Int) == (k : Int) - (q : Int) + (j : Int)) = true from beq_iff_eq.2 (by have := HL.out; omega)]; rfl, Grow.below (HGR.out.trans HGE.out)⟩
            · go_ret
              exact ⟨by rw [show ((L : Int) == 32 - ((q : Int) - (j : Int))) = true from beq_iff_eq.2 (by have := HL.out; omega)]; rfl, Grow.below (HGR.out.trans HGE.out)⟩
            · go_ret
              exact ⟨by rw [show ((L : Int) == 32) = true from beq_iff_eq.2 (by have := HL.out; omega)]; rfl, Grow.below (HGR.out.trans HGE.out)⟩

/-! ### THE ROW's STEP: WRITTEN OUT: LEAVE IT -/
set_option maxRecDepth 100000 in
theorem lifted (os : Os) (started : os.Started) (H : Type) (enc : TypeId × Value → H) :
    ReturnsInHanded {} Try.checked os 7 .any (Rows.arenaSizesSpec.pre6 enc Try.prog Try.f7 Rows.arenaSizesRow.domain false) (Rows.arenaSizesSpec.post enc Try.prog Try.f7 false true false false) := by
  refine returnsInHanded_of_change (C := Try.checked) own started (by kernel_rfl) Try.func7
    (ChangeSpec.witness6 (enc := enc) (C := Try.checked) false ⟨#[], #[.int .i64 0, .int .i64 0, .int .i64 0], []⟩ 8 (by kernel_rfl) (by kernel_rfl) (by kernel_rfl) (by kernel_rfl)) ?_
  intro W base args ds gs before hval0 hW hcnd _
  have hval : ∀ (j : Nat) t v, Try.f7.params[j]? = some t → args[j]? = some v → Value.okWide Try.prog W .any base t v := hval0
  have hW' := hW
  obtain ⟨p, q, hA0, hV, rfl, hfz, hnd⟩ := hW
  have hA : DataW.TrodAll enc Try.prog W 0 (fun _ => true) true Try.f7.params.toList args.toList ds p := hA0
  rw [Try.params7] at hA hval
  obtain ⟨v0, vs0, d0, ds0, p0, q0, hargs, rfl, rfl, h0, r0⟩ := trodAll_cons hA
  obtain ⟨v1, vs1, d1, ds1, p1, q1, rfl, rfl, rfl, h1, r1⟩ := trodAll_cons r0
  obtain ⟨v2, vs2, d2, ds2, p2, q2, rfl, rfl, rfl, h2, r2⟩ := trodAll_cons r1
  obtain ⟨rfl, rfl, rfl⟩ := trodAll_nil r2
  obtain rfl : args = #[v0, v1, v2] := by cases args; simp_all
  obtain ⟨rfl, rfl⟩ := trodVars_none hV
  obtain ⟨a0, rfl, rfl, rfl, w0⟩ := open_int Try.underlying3 (hval 0 3 v0 rfl rfl) h0
  obtain ⟨a1, rfl, rfl, rfl, w1⟩ := open_int Try.underlying3 (hval 1 3 v1 rfl rfl) h1
  obtain ⟨a2, rfl, rfl, rfl, w2⟩ := open_int Try.underlying3 (hval 2 3 v2 rfl rfl) h2
  clear hA0 hval0
  refine (walk a0 a1 a2 W w0 w1 w2).mono fun e W' ⟨he, bel⟩ => ?_
  subst he
  exact ⟨_, rfl, _, _, _, [], _, [], hW', trodAll_mk1 (shut_bool Try.underlying4 _), (trodAll_cons_mk (shut_int Try.underlying3 w0) (trodAll_cons_mk (shut_int Try.underlying3 w1) (trodAll_cons_mk (shut_int Try.underlying3 w2) trodAll_mk0))), rfl, bel.frame _, fun h => by cases h⟩

theorem over : Rows.arenaSizesRow.holds Try.pinned (OpenSpec.ofChange Rows.arenaSizesSpec) :=
  OpenClaim.holds_of_wide 7 Try.f7 rfl rfl rfl rfl rfl rfl rfl ⟨rfl, rfl, rfl, rfl, rfl⟩ rfl rfl rfl rfl rfl (by kernel_rfl) Try.func7 (by kernel_rfl)
    (of_decide_eq_true (by kernel_rfl)) (by unfold Func.isWrapper; first | (rw [if_pos (by decide +kernel)]; kernel_rfl) | (rw [if_neg (by decide +kernel)]; exact ⟨rfl, rfl⟩))
    (fun os started H enc _ => lifted os started H enc)

/-- ████ THE STATEMENT ████ -/
theorem proved : Rows.ArenaSizesSaid := over
#print axioms proved
end Go.Proofs.Ytcebjeemganhdaa.arenaSizes
