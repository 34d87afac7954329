/-
  For every input the call of lavabolaw12.HandlePins returns true and leaves its arguments as they were; no condition.
-/
import Derived.Test.YtcbefohnicjkjaaTold12
import Derived.Test.YtcbefohnicjkjaaHdSteps
import Derived.Test.YtcbefohnicjkjaaRows
import Derived.WalkKit
import Derived.ProofKit
import Derived.OpenShut
import Derived.ShutString
import Derived.ChangeOld
import Derived.Below
namespace Go.Proofs.Ytcbefohnicjkjaa.handlePins
open Go.ChangeShapes Go.WideShapes Go.ChangeAt Go.RowKit
open Go.ChangeMaps (open_string shut_string)
open Go.Proofs.Ytcbefohnicjkjaa.Mem Go.Proofs.Ytcbefohnicjkjaa.Blk Go.Proofs.Ytcbefohnicjkjaa.Cells Go.Proofs.Ytcbefohnicjkjaa.Orow Go.Proofs.Ytcbefohnicjkjaa.HdM Go.Proofs.Ytcbefohnicjkjaa.HdC Go.Proofs.Ytcbefohnicjkjaa.HdO Go.Proofs.Ytcbefohnicjkjaa.HdA Go.Proofs.Ytcbefohnicjkjaa.HdF Go.Proofs.Ytcbefohnicjkjaa.Told12 Go.Proofs.Ytcbefohnicjkjaa.Ops12 Go.Proofs.Ytcbefohnicjkjaa.Stages
set_option linter.unusedVariables false

theorem own : ownKnob Try.prog.godebug = none := by kernel_rfl
theorem laidOut : laidOutB Try.prog = true := by kernel_rfl

/-- WHAT THE WALK IS TOLD OF A SLICE OF INTEGERS THAT CAME IN: it is nil; or it leads to a row of 'cap' cells, the numbers 'zs' (the first 'len' are its elements, the rest its spare room), each fitting its kind. -/
def IsRow (k : IntKind) (w : World) (a : Option Addr) (len cap : Nat) (zs : List Int) : Prop :=
  (a = none ∧ len = 0 ∧ cap = 0 ∧ zs = []) ∨
  ∃ x, a = some x ∧ len ≤ cap ∧ cap ≤ maxLen ∧ zs.length = cap ∧ (∀ i, i < zs.length → w.cell? (x.add i) = some (.int k (zs.getD i 0))) ∧ ∀ n ∈ zs, (Lit.int k n).wf = true

def ind (a b : Int) : Nat := if a = b then 1 else 0
theorem cnt_sum (f : Nat → Int) (p : Int) : ∀ m, cnt f p m = sum (fun j => ind (f j) p) m
  | 0 => rfl
  | m + 1 => by show cnt f p m + _ = sum _ m + _; rw [cnt_sum f p m]; rfl
theorem sum_same {g g' : Nat → Nat} : ∀ m, (∀ i, i < m → g' i = g i) → sum g' m = sum g m
  | 0, _ => rfl
  | m + 1, h => by
    show sum g' m + g' m = sum g m + g m
    rw [sum_same m fun i hi => h i (by omega), h m (by omega)]
theorem sum_one {g g' : Nat → Nat} {c : Nat} (h : ∀ i, i ≠ c → g' i = g i) : ∀ m, c < m → sum g' m + g c = sum g m + g' c
  | 0, hc => absurd hc (Nat.not_lt_zero c)
  | m + 1, hc => by
    show sum g' m + g' m + g c = sum g m + g m + g' c
    by_cases e : c = m
    · subst e
      rw [sum_same c fun i hi => h i (by omega)]
      omega
    · have := sum_one h m (by omega)
      rw [h m (by omega)]
      omega
theorem sum_pt {g g' u v : Nat → Nat} : ∀ m, (∀ i, i < m → g' i + u i = g i + v i) → sum g' m + sum u m = sum g m + sum v m
  | 0, _ => rfl
  | m + 1, h => by
    have h1 := sum_pt m fun i hi => h i (by omega)
    have h2 := h m (by omega)
    show sum g' m + g' m + (sum u m + u m) = sum g m + g m + (sum v m + v m)
    omega
theorem ind_sum {y : Int} (h0 : 0 ≤ y) (h5 : y < 5) : sum (fun x => ind y (x : Int)) 5 = 1 := by
  have : y = 0 ∨ y = 1 ∨ y = 2 ∨ y = 3 ∨ y = 4 := by omega
  rcases this with rfl | rfl | rfl | rfl | rfl <;> decide
theorem ind_none : sum (fun x => ind (-1) (x : Int)) 5 = 0 := by decide
/-- The pins of all pages. -/
def pin (a : Hs) (x : Nat) : Nat := a.pins (x : Int)
def tot (a : Hs) : Nat := sum (pin a) 5
theorem pin_put {a : Hs} {c j : Nat} (hc : c < a.n) (hj : j < 6) (y : Int) (x : Nat) : pin (a.put c j y) x + ind (a.H c j) (x : Int) = pin a x + ind y (x : Int) := by
  have hx : ¬ (x : Int) < 0 := by omega
  have h1 : pin (a.put c j y) x = sum ((a.put c j y).has (x : Int)) a.n := pins_up hx
  have h2 : pin a x = sum (a.has (x : Int)) a.n := pins_up hx
  have h3 := sum_one (g := a.has (x : Int)) (g' := (a.put c j y).has (x : Int)) (c := c) (fun i hi => by
    show cnt ((a.put c j y).H i) _ 6 = cnt (a.H i) _ 6
    rw [cnt_sum, cnt_sum]
    exact sum_same 6 fun k _ => by
      show ind ((a.put c j y).H i k) _ = ind (a.H i k) _
      rw [put_other _ _ fun z => hi z.1]) a.n hc
  have h4 : (a.put c j y).has (x : Int) c + ind (a.H c j) (x : Int) = a.has (x : Int) c + ind y (x : Int) := by
    show cnt ((a.put c j y).H c) _ 6 + _ = cnt (a.H c) _ 6 + _
    rw [cnt_sum, cnt_sum]
    have := sum_one (g := fun k => ind (a.H c k) (x : Int)) (g' := fun k => ind ((a.put c j y).H c k) (x : Int)) (c := j) (fun k hk => by
      show ind ((a.put c j y).H c k) _ = ind (a.H c k) _
      rw [put_other _ _ fun z => hk z.2]) 6 hj
    rw [put_same] at this
    exact this
  omega
theorem tot_put {a : Hs} {c j : Nat} (hc : c < a.n) (hj : j < 6) (y : Int) : tot (a.put c j y) + sum (fun x => ind (a.H c j) (x : Int)) 5 = tot a + sum (fun x => ind y (x : Int)) 5 :=
  sum_pt 5 fun x _ => pin_put hc hj y x
/-- Three clients, five pages. -/
structure PS (a : Hs) : Prop where
  n : a.n = 3
  lo : ∀ c j, -1 ≤ a.H c j
  hi : ∀ c j, a.H c j < 5
theorem ps_fresh : PS (fresh 3) ∧ tot (fresh 3) = 0 := ⟨⟨rfl, fun _ _ => Int.le_refl _, fun _ _ => by show (-1 : Int) < 5; omega⟩, by decide⟩
theorem PS.put {a : Hs} (h : PS a) (c j : Nat) {y : Int} (h0 : -1 ≤ y) (h5 : y < 5) : PS (a.put c j y) := ⟨h.n, fun x z => by
    by_cases e : x = c ∧ z = j
    · rw [e.1, e.2, put_same]; exact h0
    · rw [put_other _ _ e]; exact h.lo x z, fun x z => by
    by_cases e : x = c ∧ z = j
    · rw [e.1, e.2, put_same]; exact h5
    · rw [put_other _ _ e]; exact h.hi x z⟩
theorem pin_le {a : Hs} (h : PS a) (x : Nat) : pin a x ≤ 18 := by
  have hx : ¬ (x : Int) < 0 := by omega
  have h2 : pin a x = sum (a.has (x : Int)) a.n := pins_up hx
  have := sum_le (g := a.has (x : Int)) (b := 6) (fun i => cnt_le _ _ _) a.n
  have := h.n
  omega
theorem tot_le {a : Hs} (h : PS a) (m : Nat) (hm : m ≤ 5) : sum (pin a) m ≤ 90 := by
  have := sum_le (g := pin a) (b := 18) (pin_le h) m
  omega
theorem ps_give {a : Hs} (h : PS a) {c : Nat} (hc : c < 3) {p : Int} (h0 : 0 ≤ p) (h5 : p < 5) : (a.give (c : Int) p = -1 ∧ a.gave (c : Int) p = a) ∨ ((0 ≤ a.give (c : Int) p) ∧ PS (a.gave (c : Int) p) ∧ tot (a.gave (c : Int) p) = tot a + 1) := by
  have hn : c < a.n := by rw [h.n]; exact hc
  have e1 := give_in (a := a) hn (show ¬ p < 0 by omega)
  rcases hnd_cases (a.H c) 6 with ⟨e2, _⟩ | ⟨j, hj, e2, e3, _⟩
  · rw [e2] at e1
    exact .inl ⟨e1, gave_not e1⟩
  · rw [e2] at e1
    refine .inr ⟨by rw [e1]; omega, ?_⟩
    rw [gave_at e1]
    have := tot_put hn hj p
    rw [e3, ind_sum h0 h5, ind_none] at this
    exact ⟨h.put c j (by omega) h5, by omega⟩
theorem ps_back {a : Hs} (h : PS a) {c j : Nat} (hc : c < 3) (hj : j < 6) : (a.page (c : Int) (j : Int) = -1 ∧ a.back (c : Int) (j : Int) = a) ∨ (0 ≤ a.page (c : Int) (j : Int) ∧ PS (a.back (c : Int) (j : Int)) ∧ tot a = tot (a.back (c : Int) (j : Int)) + 1) := by
  have hn : c < a.n := by rw [h.n]; exact hc
  have e1 := page_in (a := a) hn hj
  by_cases e : a.page (c : Int) (j : Int) = -1
  · exact .inl ⟨e, back_not e⟩
  · have hlo := h.lo c j
    rw [← e1] at hlo
    refine .inr ⟨by omega, ?_⟩
    rw [back_at e]
    have := tot_put hn hj (-1)
    rw [ind_sum (y := a.H c j) (by rw [← e1]; omega) (h.hi c j), ind_none] at this
    exact ⟨h.put c j (by omega) (by omega), by omega⟩
def SInv (w : World) (B : Nat) (n : Value) (wx : World) : Prop := ∃ a, n = .int .i64 (tot a : Int) ∧ PS a ∧ HAt wx (B ≤ ·) B a ∧ Grow w wx
def SLoop (w : World) (B M g : Nat) (n i : Value) (wx : World) : Prop := ∃ j : Nat, j + g = M ∧ i = .int .i64 (j : Int) ∧ SInv w B n wx

/-! ### STEP 1: THE WALK: the Go text returns true, AND WRITES NOTHING THAT WAS THERE: 'Below w.heap.size w w'' (Derived/Below.lean: '.refl', '.alloc', '.drew', '.setCell' at a new block, '.trans'). Open each 'IsRow' by 'rcases' AHEAD of 'go_enter'; part every test ahead of the walk. -/
set_option maxHeartbeats 4000000 in
set_option maxRecDepth 100000 in
theorem walk (a0 : Option Addr) (len0 cap0 : Nat) (w : World) (w0 : OpsAt w a0 len0 cap0) :
    Calls Try.prog 6 #[.slice a0 len0 cap0] w fun e w' => e = .returned (.bool true) ∧ Below w.heap.size w w' := by
  obtain ⟨hlc, hcm, hops⟩ := w0
  unfold maxLen at hcm
  have HOPS := Lib.hid hops
  clear hops
  have HN := Lib.hid (new_good (w := w) 3 (by omega) (by omega))
  simp only [Int.cast_ofNat_Int] at HN
  obtain ⟨B, hB⟩ : ∃ B, B = w.heap.size := ⟨_, rfl⟩
  have HB := Lib.hid hB
  have CN : Hid (Calls Try.prog 7 #[.int .i64 3] w fun e w' => e = .returned (.pointer (some ⟨B, 0, none⟩)) ∧ HAt w' (B ≤ ·) B (fresh 3) ∧ Grow w w') := by rw [hB]; exact HN
  clear hB HN
  obtain ⟨M, hM⟩ : ∃ M : Nat, M = min len0 100 := ⟨_, rfl⟩
  have HM := Lib.hid hM
  have hM1 : M ≤ len0 := by omega
  have hM100 : M ≤ 100 := by omega
  clear hM
  go_enter Try.func6, Try.ntmps6
  go_wp2_with (go_at_call 7; (with_reducible refine CN.out.mono ?_); rintro e w1 ⟨rfl, ha, hg⟩; have HA := Lib.hid ha; have G0 := Lib.hid hg; clear ha hg)
  go_loopg [4, 5] M (SLoop w B M)
  case atStart => exact ⟨0, by omega, rfl, _, by rw [ps_fresh.2]; rfl, ps_fresh.1, HA.out, G0.out⟩
  case round =>
    obtain ⟨j, hg, rfl, a, rfl, hps, har, hgr⟩ := hrel
    have HG := Lib.hid hg
    have HPS := Lib.hid hps
    have HAR := Lib.hid har
    have HGR := Lib.hid hgr
    have htot : (tot a : Int) ≤ 90 := by have := tot_le hps 5 (by omega); show ((sum (pin a) 5 : Nat) : Int) ≤ 90; omega
    clear hg har hgr HA G0 hps
    by_cases hj : j < M
    · have HJ := Lib.hid hj
      have hjz : (j : Int) < (len0 : Int) := by omega
      have hj100 : (j : Int) < 100 := by omega
      obtain ⟨ab, ao, rfl, hab, hall⟩ := HOPS.out (by omega)
      obtain ⟨x, hx⟩ := hall j (by omega)
      have ck := HGR.out.cellN hx.k id
      have cc := HGR.out.cellN hx.c id
      have cp := HGR.out.cellN hx.p id
      have ch := HGR.out.cellN hx.h id
      obtain ⟨C, hC, hC3⟩ := tmod_nat x.c 3 (by omega)
      obtain ⟨P, hP, hP5⟩ := tmod_nat x.p 5 (by omega)
      obtain ⟨Hh, hH, hH6⟩ := tmod_nat x.h 6 (by omega)
      simp only [Int.cast_ofNat_Int] at hC hP hH
      have hCz : (C : Int) < 3 := by omega
      have hPz : (P : Int) < 5 := by omega
      have hHz : (Hh : Int) < 6 := by omega
      have HGI := Lib.hid (ps_give HPS.out hC3 (p := (P : Int)) (by omega) hPz)
      have HBA := Lib.hid (ps_back HPS.out hC3 hH6)
      clear hall hx hj hC3 hP5 hH6
      obtain ⟨kk, hkk⟩ : ∃ kk, bits BinOp.and IntKind.i64 x.k 1 = kk := ⟨_, rfl⟩
      go_upto_if 36 with (fail)
      clear ck cc hkk hC
      go_cut [4] from 36 to 64 (fun n wx => SInv w B n wx)
      case first =>
        by_cases hk0 : kk = 0
        · subst hk0
          have HT := Lib.hid (give_any HAR.out (C : Int) (P : Int))
          rcases HGI.out with ⟨e1, e2⟩ | ⟨e1, e2, e3⟩
          · rw [e1, e2] at HT
            clear e1 e2
            go_wp2_with (go_at_call 8; (with_reducible refine HT.out.mono ?_); rintro e w2 ⟨rfl, ha, hk⟩; have HA2 := Lib.hid ha; have HK2 := Lib.hid hk; clear ha hk)
            go_meet
            exact ⟨a, rfl, HPS.out, HA2.out, HGR.out.then HK2.out fun k hk e => by have := HB.out; have e : B ≤ k := e; omega⟩
          · have HE := Lib.hid (And.intro e2 e3)
            generalize a.give (C : Int) (P : Int) = z at HT e1
            generalize a.gave (C : Int) (P : Int) = a2 at HT HE
            clear e2 e3
            go_wp2_with (go_at_call 8; (with_reducible refine HT.out.mono ?_); rintro e w2 ⟨rfl, ha, hk⟩; have HA2 := Lib.hid ha; have HK2 := Lib.hid hk; clear ha hk)
            go_meet
            exact ⟨a2, by rw [HE.out.2]; go_num, HE.out.1, HA2.out, HGR.out.then HK2.out fun k hk e => by have := HB.out; have e : B ≤ k := e; omega⟩
        · have hk1 : (kk == 0) = false := beq_eq_false_iff_ne.2 hk0
          have HT := Lib.hid (back_any HAR.out (C : Int) (Hh : Int))
          clear hk0
          rcases HBA.out with ⟨e1, e2⟩ | ⟨e1, e2, e3⟩
          · rw [e1, e2] at HT
            clear e1 e2
            go_wp2_with (go_at_call 15; (with_reducible refine HT.out.mono ?_); rintro e w2 ⟨rfl, ha, hk⟩; have HA2 := Lib.hid ha; have HK2 := Lib.hid hk; clear ha hk)
            go_meet
            exact ⟨a, rfl, HPS.out, HA2.out, HGR.out.then HK2.out fun k hk e => by have := HB.out; have e : B ≤ k := e; omega⟩
          · have HE := Lib.hid (And.intro e2 e3)
            have ht1 : 1 ≤ (tot a : Int) := by omega
            generalize a.page (C : Int) (Hh : Int) = z at HT e1
            generalize a.back (C : Int) (Hh : Int) = a2 at HT HE
            clear e2 e3
            go_wp2_with (go_at_call 15; (with_reducible refine HT.out.mono ?_); rintro e w2 ⟨rfl, ha, hk⟩; have HA2 := Lib.hid ha; have HK2 := Lib.hid hk; clear ha hk)
            go_meet
            exact ⟨a2, by rw [HE.out.2]; go_num, HE.out.1, HA2.out, HGR.out.then HK2.out fun k hk e => by have := HB.out; have e : B ≤ k := e; omega⟩
      case rest =>
        obtain ⟨a2, rfl, hps2, ha2, hgr2⟩ := hcut
        have HPS2 := Lib.hid hps2
        have HA2 := Lib.hid ha2
        have HGR2 := Lib.hid hgr2
        have htot2 : (tot a2 : Int) ≤ 90 := by have := tot_le hps2 5 (by omega); show ((sum (pin a2) 5 : Nat) : Int) ≤ 90; omega
        clear hps2 ha2 hgr2 HAR HGR HPS HGI HBA cp ch hP hH
        go_wp2
        go_loopg [7, 8] 5 (fun gx s i wx => ∃ t : Nat, t + gx = 5 ∧ i = .int .i64 (t : Int) ∧ s = .int .i64 ((sum (pin a2) t : Nat) : Int) ∧ wx = wc)
        case atStart => exact ⟨0, by omega, rfl, rfl, rfl⟩
        case round =>
          obtain ⟨t, hg, rfl, rfl, rfl⟩ := hrel
          have HT := Lib.hid hg
          clear hg
          by_cases ht : t < 5
          · have htz : (t : Int) < 5 := by omega
            have hsum : ((sum (pin a2) t : Nat) : Int) ≤ 90 := by have := tot_le HPS2.out t (by omega); omega
            have hpt : ((a2.pins (t : Int) : Nat) : Int) ≤ 18 := by have := pin_le HPS2.out t; show ((pin a2 t : Nat) : Int) ≤ 18; omega
            have HP := Lib.hid (pins_any HA2.out (t : Int))
            have HS : Hid (sum (pin a2) (t + 1) = sum (pin a2) t + a2.pins (t : Int)) := rfl
            clear ht
            generalize a2.pins (t : Int) = pz at HP HS hpt
            go_wp2_with (go_at_call 12; (with_reducible refine HP.out.mono ?_); rintro e w' ⟨rfl, rfl⟩)
            go_roundg (gk - 1)
            case measure => have := HT.out; omega
            case rel => exact ⟨t + 1, by have := HT.out; omega, by go_num, by rw [HS.out]; go_num, rfl⟩
          · obtain rfl : t = 5 := by have := HT.out; omega
            clear ht
            have hss : ((sum (pin a2) 5 : Nat) : Int) = (tot a2 : Int) := rfl
            rw [hss]
            have hne : ((tot a2 : Int) != (tot a2 : Int)) = false := by simp
            clear hss
            go_wp2
            go_roundg (M - (j + 1))
            case measure => have := HG.out; have := HJ.out; omega
            case rel => exact ⟨j + 1, by have := HG.out; have := HJ.out; omega, by go_num, a2, rfl, HPS2.out, HA2.out, HGR2.out⟩
    · obtain rfl : j = M := by have := HG.out; omega
      clear hj
      by_cases hlen : j < len0
      · have hz1 : (j : Int) < (len0 : Int) := by omega
        have hz2 : 100 ≤ (j : Int) := by have := HM.out; omega
        clear hlen HOPS
        go_wp2_with (go_at_call 10; (with_reducible refine (told_any _).mono ?_); rintro e w3 ⟨rfl, hge⟩; have HGE := Lib.hid hge; clear hge)
        go_ret
        exact ⟨rfl, Grow.below (HGR.out.trans HGE.out)⟩
      · have hz1 : (len0 : Int) ≤ (j : Int) := by omega
        clear hlen HOPS
        go_wp2_with (go_at_call 10; (with_reducible refine (told_any _).mono ?_); rintro e w3 ⟨rfl, hge⟩; have HGE := Lib.hid hge; clear hge)
        go_ret
        exact ⟨rfl, Grow.below (HGR.out.trans HGE.out)⟩

/-! ### THE ROW's STEP: WRITTEN OUT: LEAVE IT -/
set_option maxRecDepth 100000 in
theorem lifted (os : Os) (started : os.Started) (H : Type) (enc : TypeId × Value → H) :
    ReturnsInHanded {} Try.checked os 6 .any (Rows.handlePinsSpec.pre6 enc Try.prog Try.f6 Rows.handlePinsRow.domain false) (Rows.handlePinsSpec.post enc Try.prog Try.f6 false true false false) := by
  refine returnsInHanded_of_change (C := Try.checked) own started (by kernel_rfl) Try.func6
    (ChangeSpec.witness6 (enc := enc) (C := Try.checked) false ⟨#[], #[.slice none 0 0], []⟩ 8 (by kernel_rfl) (by kernel_rfl) (by kernel_rfl) (by kernel_rfl)) ?_
  intro W base args ds gs before hval0 hW hcnd _
  have hval : ∀ (j : Nat) t v, Try.f6.params[j]? = some t → args[j]? = some v → Value.okWide Try.prog W .any base t v := hval0
  have hW' := hW
  obtain ⟨p, q, hA0, hV, rfl, hfz, hnd⟩ := hW
  have hA : DataW.TrodAll enc Try.prog W 0 (fun _ => true) true Try.f6.params.toList args.toList ds p := hA0
  rw [Try.params6] at hA hval
  obtain ⟨v0, vs0, d0, ds0, p0, q0, hargs, rfl, rfl, h0, r0⟩ := trodAll_cons hA
  obtain ⟨rfl, rfl, rfl⟩ := trodAll_nil r0
  obtain rfl : args = #[v0] := by cases args; simp_all
  obtain ⟨rfl, rfl⟩ := trodVars_none hV
  obtain ⟨a0, len0, cap0, rfl⟩ := okWide_slice Try.underlying32 (hval 0 32 v0 rfl rfl)
  have k0 := h0
  have lt0 : ∀ x ∈ p0, x.block < W.heap.size := by obtain ⟨m, hm⟩ := k0; exact DataW.trod_lt m _ _ _ hm
  have w0 : OpsAt W a0 len0 cap0 := by obtain ⟨fuel, hf⟩ := h0; exact ops_open hf
  clear hA0 hval0
  refine (walk a0 len0 cap0 W w0).mono fun e W' ⟨he, bel⟩ => ?_
  subst he
  exact ⟨_, rfl, _, _, _, [], _, [], hW', trodAll_mk1 (shut_bool Try.underlying4 _), (trodAll_cons_mk (Below.trod laidOut (by kernel_rfl) (of_decide_eq_true (by kernel_rfl)) k0 bel lt0) trodAll_mk0), rfl, bel.frame _, fun h => by cases h⟩

theorem over : Rows.handlePinsRow.holds Try.pinned (OpenSpec.ofChange Rows.handlePinsSpec) :=
  OpenClaim.holds_of_wide 6 Try.f6 rfl rfl rfl rfl rfl rfl rfl ⟨rfl, rfl, rfl, rfl, rfl⟩ rfl rfl rfl rfl rfl (by kernel_rfl) Try.func6 (by kernel_rfl)
    (of_decide_eq_true (by kernel_rfl)) (by unfold Func.isWrapper; first | (rw [if_pos (by decide +kernel)]; kernel_rfl) | (rw [if_neg (by decide +kernel)]; exact ⟨rfl, rfl⟩))
    (fun os started H enc _ => lifted os started H enc)

/-- ████ THE STATEMENT ████ -/
theorem proved : Rows.HandlePinsSaid := over
#print axioms proved
end Go.Proofs.Ytcbefohnicjkjaa.handlePins
