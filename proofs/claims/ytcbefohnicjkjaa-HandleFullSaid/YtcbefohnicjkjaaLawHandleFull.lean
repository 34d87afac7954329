/-
  For every input the call of lavabolaw12.HandleFull returns true and leaves its arguments as they were; no condition.
-/
import Derived.Test.YtcbefohnicjkjaaTold12
import Derived.Test.YtcbefohnicjkjaaRows
import Derived.WalkKit
import Derived.ProofKit
import Derived.OpenShut
import Derived.ShutString
import Derived.ChangeOld
import Derived.Below
namespace Go.Proofs.Ytcbefohnicjkjaa.handleFull
open Go.ChangeShapes Go.WideShapes Go.ChangeAt Go.RowKit
open Go.ChangeMaps (open_string shut_string)
open Go.Proofs.Ytcbefohnicjkjaa.Mem Go.Proofs.Ytcbefohnicjkjaa.Blk Go.Proofs.Ytcbefohnicjkjaa.Cells Go.Proofs.Ytcbefohnicjkjaa.Orow Go.Proofs.Ytcbefohnicjkjaa.HdM Go.Proofs.Ytcbefohnicjkjaa.HdC Go.Proofs.Ytcbefohnicjkjaa.HdO Go.Proofs.Ytcbefohnicjkjaa.HdA Go.Proofs.Ytcbefohnicjkjaa.HdF Go.Proofs.Ytcbefohnicjkjaa.Told12 Go.Proofs.Ytcbefohnicjkjaa.Stages
set_option linter.unusedVariables false

theorem own : ownKnob Try.prog.godebug = none := by kernel_rfl
theorem laidOut : laidOutB Try.prog = true := by kernel_rfl

/-- WHAT THE WALK IS TOLD OF A SLICE OF INTEGERS THAT CAME IN: it is nil; or it leads to a row of 'cap' cells, the numbers 'zs' (the first 'len' are its elements, the rest its spare room), each fitting its kind. -/
def IsRow (k : IntKind) (w : World) (a : Option Addr) (len cap : Nat) (zs : List Int) : Prop :=
  (a = none ∧ len = 0 ∧ cap = 0 ∧ zs = []) ∨
  ∃ x, a = some x ∧ len ≤ cap ∧ cap ≤ maxLen ∧ zs.length = cap ∧ (∀ i, i < zs.length → w.cell? (x.add i) = some (.int k (zs.getD i 0))) ∧ ∀ n ∈ zs, (Lit.int k n).wf = true

/-- Of two clients the first has page p in its first i handles, the second none. -/
structure Fl (a : Hs) (i : Nat) (p : Int) : Prop where
  n : a.n = 2
  f : ∀ j, j < i → a.H 0 j = p
  r : ∀ j, i ≤ j → a.H 0 j = -1
  o : ∀ j, a.H 1 j = -1
theorem fl_fresh (p : Int) : Fl (fresh 2) 0 p := ⟨rfl, fun j h => absurd h (Nat.not_lt_zero j), fun _ _ => rfl, fun _ => rfl⟩
theorem fl_give {a : Hs} {i : Nat} {p : Int} (h : Fl a i p) (hp : ¬ p < 0) (hi : i < 6) : a.give 0 p = (i : Int) ∧ Fl (a.gave 0 p) (i + 1) p := by
  have h0 : 0 < a.n := by rw [h.n]; omega
  have e1 : a.give 0 p = (i : Int) := (give_in (k := 0) h0 hp).trans (hnd_at (fun j hj => by rw [h.f j hj]; omega) hi (h.r i (Nat.le_refl _)))
  have e2 : a.gave 0 p = a.put 0 i p := gave_at (k := 0) e1
  rw [e2]
  refine ⟨e1, h.n, fun j hj => ?_, fun j hj => ?_, fun j => ?_⟩
  · by_cases e : j = i
    · subst e; exact put_same _ _ _ _
    · rw [put_other _ _ fun x => e x.2]; exact h.f j (by omega)
  · rw [put_other _ _ fun x => by omega]; exact h.r j (by omega)
  · rw [put_other _ _ fun x => by omega]; exact h.o j
theorem fl_full {a : Hs} {p : Int} (h : Fl a 6 p) (hp : ¬ p < 0) : a.give 0 p = -1 ∧ a.gave 0 p = a ∧ a.room 0 = false := by
  have h0 : 0 < a.n := by rw [h.n]; omega
  have e0 : hnd (a.H 0) 6 = -1 := hnd_none fun j hj => by rw [h.f j hj]; omega
  have e1 : a.give 0 p = -1 := (give_in (k := 0) h0 hp).trans e0
  refine ⟨e1, gave_not e1, ?_⟩
  have := room_in (a := a) (k := 0) h0
  rw [e0] at this
  exact this
theorem fl_back {a : Hs} {p : Int} {W : Nat} (h : Fl a 6 p) (hp : ¬ p < 0) (hW : W < 6) : a.page 0 (W : Int) = p ∧ (a.back 0 (W : Int)).give 0 1 = (W : Int) ∧ (∀ b, (a.back 0 (W : Int)).gave 0 1 = b → b.page 1 (W : Int) = -1 ∧ b.give 1 p = 0 ∧ (b.gave 1 p).room 1 = true) := by
  have h0 : 0 < a.n := by rw [h.n]; omega
  have e1 : a.page 0 (W : Int) = p := (page_in (k := 0) h0 hW).trans (h.f W hW)
  have e2 : a.back 0 (W : Int) = a.put 0 W (-1) := back_at (k := 0) (j := W) (by show a.page 0 (W : Int) ≠ -1; omega)
  have e3 : (a.put 0 W (-1)).give 0 1 = (W : Int) := (give_in (a := a.put 0 W (-1)) (k := 0) h0 (by omega)).trans (hnd_at (fun j hj => by rw [put_other _ _ fun x => by omega, h.f j (by omega)]; omega) hW (put_same _ _ _ _))
  have e4 : (a.put 0 W (-1)).gave 0 1 = (a.put 0 W (-1)).put 0 W 1 := gave_at (k := 0) e3
  rw [e2]
  refine ⟨e1, e3, fun b hb => ?_⟩
  rw [e4] at hb
  subst hb
  have hn : ((a.put 0 W (-1)).put 0 W 1).n = 2 := h.n
  have ho : ∀ j, ((a.put 0 W (-1)).put 0 W 1).H 1 j = -1 := fun j => by rw [put_other _ _ fun x => by omega, put_other _ _ fun x => by omega]; exact h.o j
  generalize (a.put 0 W (-1)).put 0 W 1 = b at hn ho ⊢
  have h1 : 1 < b.n := by rw [hn]; omega
  have g1 : b.give 1 p = ((0 : Nat) : Int) := (give_in (k := 1) h1 hp).trans (hnd_at (fun j hj => absurd hj (Nat.not_lt_zero j)) (by omega) (ho 0))
  have g2 : b.gave 1 p = b.put 1 0 p := gave_at (k := 1) g1
  refine ⟨(page_in (k := 1) h1 hW).trans (ho W), g1, ?_⟩
  rw [g2]
  have e5 : hnd ((b.put 1 0 p).H 1) 6 = ((1 : Nat) : Int) := hnd_at (fun j hj => by
    have : j = 0 := by omega
    subst this
    rw [put_same]; omega) (by omega) (by rw [put_other _ _ fun x => by omega]; exact ho 1)
  have := room_in (a := b.put 1 0 p) (k := 1) h1
  rw [e5] at this
  exact this

/-! ### STEP 1: THE WALK: the Go text returns true, AND WRITES NOTHING THAT WAS THERE: 'Below w.heap.size w w'' (Derived/Below.lean: '.refl', '.alloc', '.drew', '.setCell' at a new block, '.trans'). Open each 'IsRow' by 'rcases' AHEAD of 'go_enter'; part every test ahead of the walk. -/
set_option maxHeartbeats 4000000 in
set_option maxRecDepth 100000 in
theorem walk (a0 : Int) (a1 : Int) (w : World) (w0 : (Lit.int .i64 a0).wf = true) (w1 : (Lit.int .i64 a1).wf = true) :
    Calls Try.prog 5 #[.int .i64 a0, .int .i64 a1] w fun e w' => e = .returned (.bool true) ∧ Below w.heap.size w w' := by
  obtain ⟨p, hp, hp48⟩ := tmod_nat a0 48 (by omega)
  obtain ⟨W, hW, hW6⟩ := tmod_nat a1 6 (by omega)
  simp only [Int.cast_ofNat_Int] at hp hW
  have hpz : 0 ≤ (p : Int) := by omega
  have hW6z : (W : Int) < 6 := by omega
  have HN := Lib.hid (new_good (w := w) 2 (by omega) (by omega))
  simp only [Int.cast_ofNat_Int] at HN
  obtain ⟨B, hB⟩ : ∃ B, B = w.heap.size := ⟨_, rfl⟩
  have HB := Lib.hid hB
  have CN : Hid (Calls Try.prog 7 #[.int .i64 2] w fun e w' => e = .returned (.pointer (some ⟨B, 0, none⟩)) ∧ HAt w' (B ≤ ·) B (fresh 2) ∧ Grow w w') := by rw [hB]; exact HN
  have HP := Lib.hid hpz
  have HW6 := Lib.hid hW6
  clear hB HN hpz hW6
  have hp48z : (p : Int) < 48 := by omega
  clear hp48
  go_enter Try.func5, Try.ntmps5
  go_wp2_with (go_at_call 7; (with_reducible refine CN.out.mono ?_); rintro e w1 ⟨rfl, ha, hg⟩; have HA := Lib.hid ha; have G0 := Lib.hid hg; clear ha hg)
  go_loopg [8] 6 (fun gx i wr => ∃ (j : Nat) (a : Hs), j + gx = 6 ∧ i = .int .i64 (j : Int) ∧ Fl a j (p : Int) ∧ HAt wr (B ≤ ·) B a ∧ Grow w wr)
  case atStart => exact ⟨0, _, by omega, rfl, fl_fresh _, HA.out, G0.out⟩
  case round =>
    obtain ⟨j, a, hg, rfl, hf, ha, hgr⟩ := hrel
    have HG := Lib.hid hg
    have HF := Lib.hid hf
    have HA1 := Lib.hid ha
    have HGR := Lib.hid hgr
    clear hg hf ha hgr HA G0
    by_cases hj : j < 6
    · have hjz : (j : Int) < 6 := by omega
      obtain ⟨e1, e2⟩ := fl_give HF.out (by have := HP.out; omega) hj
      have HE := Lib.hid e1
      have HF2 := Lib.hid e2
      clear e1 e2 hj
      have hjj : ((j : Int) != (j : Int)) = false := by simp
      go_wp2_with (go_at_call 8; (with_reducible refine (t_give HA1.out 0 (p : Int) HE.out rfl).mono ?_); rintro e w2 ⟨rfl, ha, hk⟩; have HA2 := Lib.hid ha; have HK2 := Lib.hid hk; clear ha hk)
      go_roundg (gk - 1)
      case measure => have := HG.out; omega
      case rel => exact ⟨j + 1, _, by have := HG.out; omega, by go_num, HF2.out, HA2.out, HGR.out.then HK2.out fun k hk e => by have := HB.out; have e : B ≤ k := e; omega⟩
    · obtain rfl : j = 6 := by have := HG.out; omega
      clear hj
      obtain ⟨e1, e2, e3⟩ := fl_full HF.out (by have := HP.out; omega)
      obtain ⟨e4, e5, e6⟩ := fl_back HF.out (by have := HP.out; omega) HW6.out
      obtain ⟨a2, ha2⟩ : ∃ a2, a.back 0 (W : Int) = a2 := ⟨_, rfl⟩
      rw [ha2] at e5 e6
      obtain ⟨a3, ha3⟩ : ∃ a3, a2.gave 0 1 = a3 := ⟨_, rfl⟩
      obtain ⟨e7, e8, e9⟩ := e6 a3 ha3
      obtain ⟨a4, ha4⟩ : ∃ a4, a3.gave 1 (p : Int) = a4 := ⟨_, rfl⟩
      rw [ha4] at e9
      have E1 := Lib.hid (And.intro e1 e2)
      have E3 := Lib.hid e3
      have E4 := Lib.hid (And.intro e4 ha2)
      have E5 := Lib.hid (And.intro e5 ha3)
      have E7 := Lib.hid e7
      have E8 := Lib.hid (And.intro e8 ha4)
      have E9 := Lib.hid e9
      clear e1 e2 e3 e4 e5 e6 e7 e8 e9 ha2 ha3 ha4 HF
      go_wp2_with (first
        | (go_at_call 8; (with_reducible refine (t_give HA1.out 0 (p : Int) E1.out.1 E1.out.2).mono ?_); rintro e w2 ⟨rfl, ha, hk⟩; have HA2 := Lib.hid ha; have HK2 := Lib.hid hk; clear ha hk)
        | (go_at_call 19; (with_reducible refine (t_room HA2.out 0 E3.out).mono ?_); rintro e w' ⟨rfl, rfl⟩)
        | (go_at_call 15; (with_reducible refine (t_back HA2.out 0 (W : Int) E4.out.1 E4.out.2).mono ?_); rintro e w3 ⟨rfl, ha, hk⟩; have HA3 := Lib.hid ha; have HK3 := Lib.hid (HK2.out.trans hk); clear ha hk)
        | (go_at_call 8; (with_reducible refine (t_give HA3.out 0 1 E5.out.1 E5.out.2).mono ?_); rintro e w4 ⟨rfl, ha, hk⟩; have HA4 := Lib.hid ha; have HK4 := Lib.hid (HK3.out.trans hk); clear ha hk)
        | (go_at_call 10; (with_reducible refine (told_any _).mono ?_); rintro e w5 ⟨rfl, hge⟩; have HA5 := Lib.hid (HA4.out.grow hge); have HK5 := Lib.hid (HK4.out.trans hge.kept); clear hge)
        | (go_at_call 11; (with_reducible refine (t_page HA5.out 1 (W : Int) E7.out).mono ?_); rintro e w' ⟨rfl, rfl⟩)
        | (go_at_call 8; (with_reducible refine (t_give HA5.out 1 (p : Int) E8.out.1 E8.out.2).mono ?_); rintro e w6 ⟨rfl, ha, hk⟩; have HA6 := Lib.hid ha; have HK6 := Lib.hid (HK5.out.trans hk); clear ha hk)
        | (go_at_call 19; (with_reducible refine (t_room HA6.out 1 E9.out).mono ?_); rintro e w' ⟨rfl, rfl⟩))
      go_ret
      exact ⟨rfl, Grow.below (HGR.out.then HK6.out fun k hk e => by have := HB.out; have e : B ≤ k := e; omega)⟩

/-! ### THE ROW's STEP: WRITTEN OUT: LEAVE IT -/
set_option maxRecDepth 100000 in
theorem lifted (os : Os) (started : os.Started) (H : Type) (enc : TypeId × Value → H) :
    ReturnsInHanded {} Try.checked os 5 .any (Rows.handleFullSpec.pre6 enc Try.prog Try.f5 Rows.handleFullRow.domain false) (Rows.handleFullSpec.post enc Try.prog Try.f5 false true false false) := by
  refine returnsInHanded_of_change (C := Try.checked) own started (by kernel_rfl) Try.func5
    (ChangeSpec.witness6 (enc := enc) (C := Try.checked) false ⟨#[], #[.int .i64 0, .int .i64 0], []⟩ 8 (by kernel_rfl) (by kernel_rfl) (by kernel_rfl) (by kernel_rfl)) ?_
  intro W base args ds gs before hval0 hW hcnd _
  have hval : ∀ (j : Nat) t v, Try.f5.params[j]? = some t → args[j]? = some v → Value.okWide Try.prog W .any base t v := hval0
  have hW' := hW
  obtain ⟨p, q, hA0, hV, rfl, hfz, hnd⟩ := hW
  have hA : DataW.TrodAll enc Try.prog W 0 (fun _ => true) true Try.f5.params.toList args.toList ds p := hA0
  rw [Try.params5] at hA hval
  obtain ⟨v0, vs0, d0, ds0, p0, q0, hargs, rfl, rfl, h0, r0⟩ := trodAll_cons hA
  obtain ⟨v1, vs1, d1, ds1, p1, q1, rfl, rfl, rfl, h1, r1⟩ := trodAll_cons r0
  obtain ⟨rfl, rfl, rfl⟩ := trodAll_nil r1
  obtain rfl : args = #[v0, v1] := by cases args; simp_all
  obtain ⟨rfl, rfl⟩ := trodVars_none hV
  obtain ⟨a0, rfl, rfl, rfl, w0⟩ := open_int Try.underlying3 (hval 0 3 v0 rfl rfl) h0
  obtain ⟨a1, rfl, rfl, rfl, w1⟩ := open_int Try.underlying3 (hval 1 3 v1 rfl rfl) h1
  clear hA0 hval0
  refine (walk a0 a1 W w0 w1).mono fun e W' ⟨he, bel⟩ => ?_
  subst he
  exact ⟨_, rfl, _, _, _, [], _, [], hW', trodAll_mk1 (shut_bool Try.underlying4 _), (trodAll_cons_mk (shut_int Try.underlying3 w0) (trodAll_cons_mk (shut_int Try.underlying3 w1) trodAll_mk0)), rfl, bel.frame _, fun h => by cases h⟩

theorem over : Rows.handleFullRow.holds Try.pinned (OpenSpec.ofChange Rows.handleFullSpec) :=
  OpenClaim.holds_of_wide 5 Try.f5 rfl rfl rfl rfl rfl rfl rfl ⟨rfl, rfl, rfl, rfl, rfl⟩ rfl rfl rfl rfl rfl (by kernel_rfl) Try.func5 (by kernel_rfl)
    (of_decide_eq_true (by kernel_rfl)) (by unfold Func.isWrapper; first | (rw [if_pos (by decide +kernel)]; kernel_rfl) | (rw [if_neg (by decide +kernel)]; exact ⟨rfl, rfl⟩))
    (fun os started H enc _ => lifted os started H enc)

/-- ████ THE STATEMENT ████ -/
theorem proved : Rows.HandleFullSaid := over
#print axioms proved
end Go.Proofs.Ytcbefohnicjkjaa.handleFull
