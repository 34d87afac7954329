/-
  For every input the call of lavabolaw12.HandleOwn returns true and leaves its arguments as they were; no condition.
-/
import Derived.Test.YtcbefohnicjkjaaTold12
import Derived.Test.YtcbefohnicjkjaaRows
import Derived.WalkKit
import Derived.ProofKit
import Derived.OpenShut
import Derived.ShutString
import Derived.ChangeOld
import Derived.Below
namespace Go.Proofs.Ytcbefohnicjkjaa.handleOwn
open Go.ChangeShapes Go.WideShapes Go.ChangeAt Go.RowKit
open Go.ChangeMaps (open_string shut_string)
open Go.Proofs.Ytcbefohnicjkjaa.Mem Go.Proofs.Ytcbefohnicjkjaa.Blk Go.Proofs.Ytcbefohnicjkjaa.Cells Go.Proofs.Ytcbefohnicjkjaa.Orow Go.Proofs.Ytcbefohnicjkjaa.HdM Go.Proofs.Ytcbefohnicjkjaa.HdC Go.Proofs.Ytcbefohnicjkjaa.HdO Go.Proofs.Ytcbefohnicjkjaa.HdA Go.Proofs.Ytcbefohnicjkjaa.HdF Go.Proofs.Ytcbefohnicjkjaa.Told12 Go.Proofs.Ytcbefohnicjkjaa.Stages
set_option linter.unusedVariables false

theorem own : ownKnob Try.prog.godebug = none := by kernel_rfl
theorem laidOut : laidOutB Try.prog = true := by kernel_rfl

/-- WHAT THE WALK IS TOLD OF A SLICE OF INTEGERS THAT CAME IN: it is nil; or it leads to a row of 'cap' cells, the numbers 'zs' (the first 'len' are its elements, the rest its spare room), each fitting its kind. -/
def IsRow (k : IntKind) (w : World) (a : Option Addr) (len cap : Nat) (zs : List Int) : Prop :=
  (a = none ∧ len = 0 ∧ cap = 0 ∧ zs = []) ∨
  ∃ x, a = some x ∧ len ≤ cap ∧ cap ≤ maxLen ∧ zs.length = cap ∧ (∀ i, i < zs.length → w.cell? (x.add i) = some (.int k (zs.getD i 0))) ∧ ∀ n ∈ zs, (Lit.int k n).wf = true

/-- One handle of two clients' has a page. -/
theorem one_give {C : Nat} {p : Int} (hC : C < 2) (h0 : 0 ≤ p) (h1 : p < 41) : (fresh 2).give (C : Int) p = 0 ∧ ∀ a, (fresh 2).gave (C : Int) p = a → a.page (C : Int) 0 = p ∧ a.page (1 - (C : Int)) 0 = -1 ∧ ((a.pins 77 : Nat) : Int) = 0 ∧ ((a.pins p : Nat) : Int) = 1 ∧ a.n = 2 := by
  have e1 : (fresh 2).give (C : Int) p = ((0 : Nat) : Int) := (give_in (a := fresh 2) hC (by omega)).trans (hnd_at (fun j hj => absurd hj (Nat.not_lt_zero j)) (by omega) rfl)
  have e2 : (fresh 2).gave (C : Int) p = (fresh 2).put C 0 p := gave_at e1
  refine ⟨e1, fun a ha => ?_⟩
  rw [e2] at ha
  subst ha
  have hn : ¬ p < 0 := by omega
  have h77 : ¬ p = 77 := by omega
  have hm1 : ¬ (-1 : Int) = p := by omega
  have hc : C = 0 ∨ C = 1 := by omega
  rcases hc with rfl | rfl
  · refine ⟨(page_in (a := (fresh 2).put 0 0 p) (k := 0) (j := 0) (show 0 < 2 by omega) (by omega)).trans (put_same _ _ _ _), (page_in (a := (fresh 2).put 0 0 p) (k := 1) (j := 0) (show 1 < 2 by omega) (by omega)).trans (put_other _ _ (by omega)), ?_, ?_, rfl⟩
    · simp [Hs.pins, sum, Hs.has, cnt, Hs.put, fresh, h77]
    · simp [Hs.pins, sum, Hs.has, cnt, Hs.put, fresh, hn, hm1]
  · refine ⟨(page_in (a := (fresh 2).put 1 0 p) (k := 1) (j := 0) (show 1 < 2 by omega) (by omega)).trans (put_same _ _ _ _), (page_in (a := (fresh 2).put 1 0 p) (k := 0) (j := 0) (show 0 < 2 by omega) (by omega)).trans (put_other _ _ (by omega)), ?_, ?_, rfl⟩
    · simp [Hs.pins, sum, Hs.has, cnt, Hs.put, fresh, h77]
    · simp [Hs.pins, sum, Hs.has, cnt, Hs.put, fresh, hn, hm1]
/-- What was told may be written: its rows are there, and nothing else has turned. -/
structure Wr (w : World) (q cp : Nat → Nat) (wx : World) : Prop where
  k : Kept (fun k => ∃ i, i < 2 ∧ q i = k) w wx
  r : ∀ i, i < 2 → ∃ f, OR wx (q i) 3 1 (cp i) 6 f
theorem wr_set {w wx : World} {q cp : Nat → Nat} (h : Wr w q cp wx) (hne : ∀ i j, i < 2 → j < 2 → q i = q j → i = j) {i : Nat} (hi : i < 2) (j : Nat) (v : Value) : Wr w q cp (wx.setCell ⟨q i, j, none⟩ v) := by
  refine ⟨h.k.trans ((kept_set wx (q i) j v).mono fun k _ e => ⟨i, hi, e.symm⟩), fun x hx => ?_⟩
  obtain ⟨f, hf⟩ := h.r x hx
  by_cases e : x = i
  · subst e; exact ⟨_, hf.set j v⟩
  · exact ⟨f, hf.other (p := ⟨q i, j, none⟩) (fun e2 => e (hne x i hx hi e2)) v⟩

/-! ### STEP 1: THE WALK: the Go text returns true, AND WRITES NOTHING THAT WAS THERE: 'Below w.heap.size w w'' (Derived/Below.lean: '.refl', '.alloc', '.drew', '.setCell' at a new block, '.trans'). Open each 'IsRow' by 'rcases' AHEAD of 'go_enter'; part every test ahead of the walk. -/
set_option maxHeartbeats 4000000 in
set_option maxRecDepth 100000 in
theorem walk (a0 : Int) (a1 : Int) (w : World) (w0 : (Lit.int .i64 a0).wf = true) (w1 : (Lit.int .i64 a1).wf = true) :
    Calls Try.prog 3 #[.int .i64 a0, .int .i64 a1] w fun e w' => e = .returned (.bool true) ∧ Below w.heap.size w w' := by
  obtain ⟨p, hp, hp41⟩ := tmod_nat a0 41 (by omega)
  obtain ⟨C, hC, hC2⟩ := tmod_nat a1 2 (by omega)
  simp only [Int.cast_ofNat_Int] at hp hC
  have hpz : (p : Int) < 41 := by omega
  have hCz : (C : Int) < 2 := by omega
  have HE := Lib.hid (one_give (p := (p : Int)) hC2 (by omega) hpz)
  have HN := Lib.hid (new_good (w := w) 2 (by omega) (by omega))
  simp only [Int.cast_ofNat_Int] at HN
  obtain ⟨B, hB⟩ : ∃ B, B = w.heap.size := ⟨_, rfl⟩
  have HB := Lib.hid hB
  have CN : Hid (Calls Try.prog 7 #[.int .i64 2] w fun e w' => e = .returned (.pointer (some ⟨B, 0, none⟩)) ∧ HAt w' (B ≤ ·) B (fresh 2) ∧ Grow w w') := by rw [hB]; exact HN
  obtain ⟨a, ha⟩ : ∃ a, (fresh 2).gave (C : Int) (p : Int) = a := ⟨_, rfl⟩
  have HEQ := Lib.hid ha
  have HF := Lib.hid (HE.out.2 a ha)
  clear hB HN hp41 hC2 ha
  go_enter Try.func3, Try.ntmps3
  go_upto_region 6 with (first
    | (go_at_call 7; (with_reducible refine CN.out.mono ?_); rintro e w1 ⟨rfl, ha, hg⟩; have HA := Lib.hid ha; have G0 := Lib.hid hg; clear ha hg)
    | (go_at_call 8; (with_reducible refine (t_give HA.out (C : Int) (p : Int) HE.out.1 HEQ.out).mono ?_); rintro e w2 ⟨rfl, ha, hk⟩; have HA2 := Lib.hid ha; have HK2 := Lib.hid hk; clear ha hk)
    | (go_at_call 9; (with_reducible refine (all_any HA2.out).mono ?_); rintro e w3 ⟨v, q, cp, rfl, hgr, hk⟩; have HGR := Lib.hid hgr; have HK3 := Lib.hid hk; clear hgr hk))
  have HA3 : Hid (HAt w3 (fun k => B ≤ k ∧ k < w2.heap.size) B a) := (HA2.out.mono (X := fun k => B ≤ k ∧ k < w2.heap.size) fun k h1 h2 => ⟨h2, h1⟩).grow HK3.out
  have G2 : Hid (Grow w w2) := G0.out.then HK2.out fun k hk e => by have := HB.out; have e : B ≤ k := e; omega
  have hgn := HF.out.2.2.2.2
  have hgr := HGR.out
  rw [hgn] at hgr
  obtain ⟨g, cap, rfl, hor, hgG⟩ := hgr.out.form (by omega)
  have HOR := Lib.hid hor
  have HGR2 := Lib.hid hgr
  clear hgn hgr hor hgG HGR HA HA2 G0 HK2
  have HW0 : Hid (Wr w3 q cp w3) := ⟨Kept.refl _ _, fun i hi => ⟨_, HGR2.out.row i hi⟩⟩
  have HFG : Hid (¬ ∃ i, i < 2 ∧ q i = g) := fun ⟨i, hi, e⟩ => HGR2.out.off i hi (by rw [e]; rfl)
  go_wp2
  go_loopg [9] 2 (fun gx i wr => ∃ j : Nat, j + gx = 2 ∧ i = .int .i64 (j : Int) ∧ Wr w3 q cp wr)
  case atStart => exact ⟨0, by omega, rfl, HW0.out⟩
  case round =>
    obtain ⟨j, hg, rfl, hwr⟩ := hrel
    have HG := Lib.hid hg
    have HWR := Lib.hid hwr
    clear hg hwr HW0
    by_cases hj : j < 2
    · have hjz : (j : Int) < 2 := by omega
      have HJ := Lib.hid hj
      clear hj
      obtain ⟨wo, hwo⟩ : ∃ wo, wo = wr := ⟨_, rfl⟩
      go_wp2
      go_loopg [10] 6 (fun gx i wr => ∃ t : Nat, t + gx = 6 ∧ i = .int .i64 (t : Int) ∧ Wr w3 q cp wr)
      case atStart => exact ⟨0, by omega, rfl, by rw [← hwo]; exact hwo ▸ HWR.out⟩
      case round =>
        obtain ⟨t, hg, rfl, hwr⟩ := hrel
        have HT := Lib.hid hg
        have HWR2 := Lib.hid hwr
        clear hg hwr
        have c1 : wr.cell? ⟨g, j, none⟩ = some (scell q cp j) := HWR2.out.k.cellN (HOR.out.cell (by have := HJ.out; omega)) HFG.out
        unfold scell at c1
        by_cases ht : t < 6
        · have htz : (t : Int) < 6 := by omega
          obtain ⟨f, hf⟩ := HWR2.out.r j HJ.out
          have r1 := hf.cell (i := t) (by omega)
          have rf := hf.frozen t
          have HS := Lib.hid (wr_set HWR2.out HGR2.out.ne HJ.out t (.int .i64 77))
          clear hf ht
          go_wp2
          go_roundg (gk - 1)
          case measure => have := HT.out; omega
          case rel => exact ⟨t + 1, by have := HT.out; omega, by go_num, HS.out⟩
        · obtain rfl : t = 6 := by have := HT.out; omega
          clear ht
          go_wp2
          go_roundg (2 - (j + 1))
          case measure => have := HG.out; have := HJ.out; omega
          case rel => exact ⟨j + 1, by have := HG.out; have := HJ.out; omega, by go_num, HWR2.out⟩
    · obtain rfl : j = 2 := by have := HG.out; omega
      clear hj
      have HA4 : Hid (HAt wr (fun k => B ≤ k ∧ k < w2.heap.size) B a) := HA3.out.kept HWR.out.k fun k h ⟨i, hi, e⟩ => by
        have h1 : w2.heap.size ≤ q i := HGR2.out.inG i hi
        omega
      have HK4 : Hid (Grow w wr) := (G2.out.trans HK3.out).then HWR.out.k fun k hk ⟨i, hi, e⟩ => by
        have h1 : w2.heap.size ≤ q i := HGR2.out.inG i hi
        have := G2.out.size
        omega
      go_wp2_with (first
        | (go_at_call 10; (with_reducible refine (told_any _).mono ?_); rintro e w5 ⟨rfl, hge⟩; have HA5 := Lib.hid (HA4.out.grow hge); have HK5 := Lib.hid (HK4.out.trans hge); clear hge)
        | (go_at_call 11; (with_reducible refine (t_page HA5.out (C : Int) 0 HF.out.1).mono ?_); rintro e w' ⟨rfl, rfl⟩)
        | (go_at_call 11; (with_reducible refine (t_page HA5.out (1 - (C : Int)) 0 HF.out.2.1).mono ?_); rintro e w' ⟨rfl, rfl⟩)
        | (go_at_call 12; (with_reducible refine (t_pins HA5.out 77 HF.out.2.2.1).mono ?_); rintro e w' ⟨rfl, rfl⟩)
        | (go_at_call 12; (with_reducible refine (t_pins HA5.out (p : Int) HF.out.2.2.2.1).mono ?_); rintro e w' ⟨rfl, rfl⟩))
      go_ret
      exact ⟨rfl, Grow.below HK5.out⟩

/-! ### THE ROW's STEP: WRITTEN OUT: LEAVE IT -/
set_option maxRecDepth 100000 in
theorem lifted (os : Os) (started : os.Started) (H : Type) (enc : TypeId × Value → H) :
    ReturnsInHanded {} Try.checked os 3 .any (Rows.handleOwnSpec.pre6 enc Try.prog Try.f3 Rows.handleOwnRow.domain false) (Rows.handleOwnSpec.post enc Try.prog Try.f3 false true false false) := by
  refine returnsInHanded_of_change (C := Try.checked) own started (by kernel_rfl) Try.func3
    (ChangeSpec.witness6 (enc := enc) (C := Try.checked) false ⟨#[], #[.int .i64 0, .int .i64 0], []⟩ 8 (by kernel_rfl) (by kernel_rfl) (by kernel_rfl) (by kernel_rfl)) ?_
  intro W base args ds gs before hval0 hW hcnd _
  have hval : ∀ (j : Nat) t v, Try.f3.params[j]? = some t → args[j]? = some v → Value.okWide Try.prog W .any base t v := hval0
  have hW' := hW
  obtain ⟨p, q, hA0, hV, rfl, hfz, hnd⟩ := hW
  have hA : DataW.TrodAll enc Try.prog W 0 (fun _ => true) true Try.f3.params.toList args.toList ds p := hA0
  rw [Try.params3] at hA hval
  obtain ⟨v0, vs0, d0, ds0, p0, q0, hargs, rfl, rfl, h0, r0⟩ := trodAll_cons hA
  obtain ⟨v1, vs1, d1, ds1, p1, q1, rfl, rfl, rfl, h1, r1⟩ := trodAll_cons r0
  obtain ⟨rfl, rfl, rfl⟩ := trodAll_nil r1
  obtain rfl : args = #[v0, v1] := by cases args; simp_all
  obtain ⟨rfl, rfl⟩ := trodVars_none hV
  obtain ⟨a0, rfl, rfl, rfl, w0⟩ := open_int Try.underlying3 (hval 0 3 v0 rfl rfl) h0
  obtain ⟨a1, rfl, rfl, rfl, w1⟩ := open_int Try.underlying3 (hval 1 3 v1 rfl rfl) h1
  clear hA0 hval0
  refine (walk a0 a1 W w0 w1).mono fun e W' ⟨he, bel⟩ => ?_
  subst he
  exact ⟨_, rfl, _, _, _, [], _, [], hW', trodAll_mk1 (shut_bool Try.underlying4 _), (trodAll_cons_mk (shut_int Try.underlying3 w0) (trodAll_cons_mk (shut_int Try.underlying3 w1) trodAll_mk0)), rfl, bel.frame _, fun h => by cases h⟩

theorem over : Rows.handleOwnRow.holds Try.pinned (OpenSpec.ofChange Rows.handleOwnSpec) :=
  OpenClaim.holds_of_wide 3 Try.f3 rfl rfl rfl rfl rfl rfl rfl ⟨rfl, rfl, rfl, rfl, rfl⟩ rfl rfl rfl rfl rfl (by kernel_rfl) Try.func3 (by kernel_rfl)
    (of_decide_eq_true (by kernel_rfl)) (by unfold Func.isWrapper; first | (rw [if_pos (by decide +kernel)]; kernel_rfl) | (rw [if_neg (by decide +kernel)]; exact ⟨rfl, rfl⟩))
    (fun os started H enc _ => lifted os started H enc)

/-- ████ THE STATEMENT ████ -/
theorem proved : Rows.HandleOwnSaid := over
#print axioms proved
end Go.Proofs.Ytcbefohnicjkjaa.handleOwn
