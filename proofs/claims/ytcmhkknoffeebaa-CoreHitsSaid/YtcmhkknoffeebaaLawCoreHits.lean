/-
  For every input the call of lavabolaw11.CoreHits returns true and leaves its arguments as they were; no condition.
-/
import Derived.Test.YtcmhkknoffeebaaTold11
import Derived.Test.YtcmhkknoffeebaaRows
import Derived.WalkKit
import Derived.ProofKit
import Derived.OpenShut
import Derived.ShutString
import Derived.ChangeOld
import Derived.Below
namespace Go.Proofs.Ytcmhkknoffeebaa.coreHits
open Go.ChangeShapes Go.WideShapes Go.ChangeAt Go.RowKit
open Go.ChangeMaps (open_string shut_string)
open Go.Proofs.Ytcmhkknoffeebaa.Mem Go.Proofs.Ytcmhkknoffeebaa.Blk Go.Proofs.Ytcmhkknoffeebaa.Cells Go.Proofs.Ytcmhkknoffeebaa.Orow Go.Proofs.Ytcmhkknoffeebaa.ArM Go.Proofs.Ytcmhkknoffeebaa.ArC Go.Proofs.Ytcmhkknoffeebaa.ArD Go.Proofs.Ytcmhkknoffeebaa.CoM Go.Proofs.Ytcmhkknoffeebaa.CoC Go.Proofs.Ytcmhkknoffeebaa.CoO Go.Proofs.Ytcmhkknoffeebaa.CoS Go.Proofs.Ytcmhkknoffeebaa.Told11 Go.Proofs.Ytcmhkknoffeebaa.Stages
set_option linter.unusedVariables false

theorem own : ownKnob Try.prog.godebug = none := by kernel_rfl
theorem laidOut : laidOutB Try.prog = true := by kernel_rfl

/-- WHAT THE WALK IS TOLD OF A SLICE OF INTEGERS THAT CAME IN: it is nil; or it leads to a row of 'cap' cells, the numbers 'zs' (the first 'len' are its elements, the rest its spare room), each fitting its kind. -/
def IsRow (k : IntKind) (w : World) (a : Option Addr) (len cap : Nat) (zs : List Int) : Prop :=
  (a = none ∧ len = 0 ∧ cap = 0 ∧ zs = []) ∨
  ∃ x, a = some x ∧ len ≤ cap ∧ cap ≤ maxLen ∧ zs.length = cap ∧ (∀ i, i < zs.length → w.cell? (x.add i) = some (.int k (zs.getD i 0))) ∧ ∀ n ∈ zs, (Lit.int k n).wf = true

/-- Two frames: the page p has the first one, pinned i times; the other one is free. -/
structure HI (p i : Int) (c : Co) : Prop where
  t : Tidy c
  n : c.a.n = 2
  f : c.a.F 0 = ⟨1, p, i, false⟩
  s : (c.a.F 1).st = 0
section
variable {p i : Int} {c : Co}
theorem hi_find (h : HI p i c) : c.a.find p = ((0 : Nat) : Int) := find_at h.t.g (by rw [h.n]; omega) (by rw [h.f]) (by rw [h.f])
theorem hi_turn {a : Ar} {v : Fr} (hn : a.n = 2) (hs : (a.F 1).st = 0) : (a.turn 0 v).n = 2 ∧ (a.turn 0 v).F 0 = v ∧ ((a.turn 0 v).F 1).st = 0 := by
  refine ⟨hn, (show TabM.upd a.F 0 v 0 = v from TabM.upd_same _ _ _), ?_⟩
  show (TabM.upd a.F 0 v 1).st = 0
  rw [TabM.upd_other _ _ (by omega), hs]
theorem hi_room (h0 : 0 ≤ p) (h1 : p < 48) : (CoM.fresh 2).roomC p = ⟨0, 0, -1⟩ ∧ HI p 1 ((CoM.fresh 2).room p) := by
  have ef : (CoM.fresh 2).a.find p = -1 := find_none fun x hx hs => by have hs : (0 : Int) = 1 := hs; omega
  have eq : (CoM.fresh 2).a.Q = [0, 1] := rfl
  have e1 : (CoM.fresh 2).room p = (CoM.fresh 2).takeF p 0 := by
    unfold Co.room
    rw [if_neg (by omega), if_neg (by omega), eq]
  have hc := can_of h0 h1 ef
  have e2 := take_eq hc eq
  have e3 := pin_at (a := (CoM.fresh 2).a.take p) (f := 0) (by rw [e2]; show 0 < 2; omega) (by rw [e2]; show (TabM.upd (CoM.fresh 2).a.F 0 (fUsed p) 0).st = 1; rw [TabM.upd_same]; rfl) (by rw [e2]; show (TabM.upd (CoM.fresh 2).a.F 0 (fUsed p) 0).pn < 1000; rw [TabM.upd_same]; show (0 : Int) < 1000; omega)
  refine ⟨?_, ?_⟩
  · unfold Co.roomC
    rw [if_neg (by omega), if_neg (by omega), eq]
    rfl
  · rw [e1]
    have ht := (tidy_fresh (n := 2) (by omega)).takeF hc eq
    have ea : ((CoM.fresh 2).takeF p 0).a = _ := e3.2
    have k := hi_turn (a := (CoM.fresh 2).a.take p) (v := ⟨(((CoM.fresh 2).a.take p).F 0).st, (((CoM.fresh 2).a.take p).F 0).pg, (((CoM.fresh 2).a.take p).F 0).pn + 1, (((CoM.fresh 2).a.take p).F 0).di⟩) (by rw [e2]; rfl) (by rw [e2]; show (TabM.upd (CoM.fresh 2).a.F 0 (fUsed p) 1).st = 0; rw [TabM.upd_other _ _ (by omega)]; rfl)
    refine ⟨ht, by rw [ea]; exact k.1, ?_, by rw [ea]; exact k.2.2⟩
    rw [ea, k.2.1, e2]
    show Fr.mk (TabM.upd (CoM.fresh 2).a.F 0 (fUsed p) 0).st (TabM.upd (CoM.fresh 2).a.F 0 (fUsed p) 0).pg ((TabM.upd (CoM.fresh 2).a.F 0 (fUsed p) 0).pn + 1) (TabM.upd (CoM.fresh 2).a.F 0 (fUsed p) 0).di = _
    rw [TabM.upd_same]
    rfl
theorem hi_hit (h : HI p i c) (hi : i < 1000) : c.hitC p = 0 ∧ HI p (i + 1) (c.hit p) := by
  have ef := hi_find h
  have e3 := pin_at (a := c.a) (f := 0) (by rw [h.n]; omega) (by rw [h.f]) (by rw [h.f]; exact hi)
  have k := hi_turn (v := ⟨(c.a.F 0).st, (c.a.F 0).pg, (c.a.F 0).pn + 1, (c.a.F 0).di⟩) h.n h.s
  have ea : (c.hit p).a = c.a.turn 0 ⟨(c.a.F 0).st, (c.a.F 0).pg, (c.a.F 0).pn + 1, (c.a.F 0).di⟩ := by
    unfold Co.hit
    rw [ef, if_pos e3.1]
    exact e3.2
  exact ⟨by unfold Co.hitC; rw [ef, if_pos e3.1]; rfl, h.t.hit p, by rw [ea]; exact k.1, by rw [ea]; exact k.2.1.trans (by rw [h.f]), by rw [ea]; exact k.2.2⟩
theorem hi_let (h : HI p i c) (hi : i ≠ 0) : c.a.unpinC 0 = 0 ∧ HI p (i - 1) (c.unpin 0) := by
  have e3 := unpin_at (a := c.a) (f := 0) (by rw [h.n]; omega) (by rw [h.f]) (by rw [h.f]; exact hi)
  have k := hi_turn (v := ⟨(c.a.F 0).st, (c.a.F 0).pg, (c.a.F 0).pn - 1, (c.a.F 0).di⟩) h.n h.s
  have ea : (c.unpin 0).a = c.a.turn 0 ⟨(c.a.F 0).st, (c.a.F 0).pg, (c.a.F 0).pn - 1, (c.a.F 0).di⟩ := e3.2
  exact ⟨e3.1, h.t.unpin 0, by rw [ea]; exact k.1, by rw [ea]; exact k.2.1.trans (by rw [h.f]), by rw [ea]; exact k.2.2⟩
theorem hi_none (h : HI p 0 c) : c.a.unpinC 0 = 12 := by
  have hu : c.a.used 0 = true := used_iff.2 ⟨0, rfl, by rw [h.n]; omega, by rw [h.f]⟩
  unfold Ar.unpinC
  rw [if_pos hu]
  show (if (c.a.F 0).pn = 0 then (12 : Int) else 0) = 12
  rw [h.f]
  rfl
theorem hi_len (h : HI p i c) : c.L.length = 1 := by
  have hm : ∀ x, x ∈ c.L ↔ x = 0 := fun x => by
    rw [h.t.m x, h.n]
    constructor
    · rintro ⟨h1, h2⟩
      have : x = 0 ∨ x = 1 := by omega
      rcases this with rfl | rfl
      · rfl
      · have := h.s; omega
    · rintro rfl; exact ⟨by omega, by rw [h.f]⟩
  have hn := h.t.L.1
  match e : c.L with
  | [] => have := (hm 0).2 rfl; rw [e] at this; cases this
  | [x] => rfl
  | x :: y :: l =>
    rw [e] at hn hm
    have h1 := (hm x).1 (by simp)
    have h2 := (hm y).1 (by simp)
    have := (List.nodup_cons.1 hn).1
    exact absurd (by simp [h1, h2]) this
end
def Rel (w : World) (B d : Nat) (p : Int) (P : Int → Int) (M : Nat) (g : Nat) (i : Value) (wx : World) : Prop := ∃ (j : Nat) (c : Co), j + g = M ∧ i = .int .i64 (j : Int) ∧ HI p (P j) c ∧ CoAt wx (B ≤ ·) B d c ∧ Grow w wx
/-! ### STEP 1: THE WALK: the Go text returns true, AND WRITES NOTHING THAT WAS THERE: 'Below w.heap.size w w'' (Derived/Below.lean: '.refl', '.alloc', '.drew', '.setCell' at a new block, '.trans'). Open each 'IsRow' by 'rcases' AHEAD of 'go_enter'; part every test ahead of the walk. -/
set_option maxHeartbeats 4000000 in
set_option maxRecDepth 100000 in
theorem walk (a0 : Int) (a1 : Int) (w : World) (w0 : (Lit.int .i64 a0).wf = true) (w1 : (Lit.int .i64 a1).wf = true) :
    Calls Try.prog 6 #[.int .i64 a0, .int .i64 a1] w fun e w' => e = .returned (.bool true) ∧ Below w.heap.size w w' := by
  obtain ⟨k, hk, hk51⟩ := tmod_nat a0 51 (by omega)
  obtain ⟨p, hp, hp48⟩ := tmod_nat a1 48 (by omega)
  simp only [Int.cast_ofNat_Int] at hk hp
  have hpz : (p : Int) < 48 := by omega
  have hkz : (k : Int) < 51 := by omega
  obtain ⟨B, hB⟩ : ∃ B, B = w.heap.size := ⟨_, rfl⟩
  have HB := Lib.hid hB
  have CN := Lib.hid (new_good (w := w) 2 (by omega))
  simp only [Int.cast_ofNat_Int] at CN
  have HRM := Lib.hid (hi_room (p := (p : Int)) (by omega) (by omega))
  clear hB hp48 hk51
  go_enter Try.func6, Try.ntmps6
  go_wp2_with (first
    | (go_at_call 7; (with_reducible refine CN.out.mono ?_); rintro e w1 ⟨d, rfl, hr, hg⟩; rw [← HB.out] at hr; have H0 := Lib.hid hr; have G0 := Lib.hid hg; clear hr hg)
    | (go_at_call 8; (with_reducible refine (t_arena H0.out).mono ?_); rintro e w' ⟨⟨da1, dl1, Dl1, dr1, rfl, _⟩, rfl⟩)
    | (go_at_call 11; (with_reducible refine (t_room H0.out (tidy_fresh (by omega)) (p : Int) HRM.out.1 rfl).mono ?_); rintro e w2 ⟨rfl, hr, hk⟩; have H1 := Lib.hid hr; have G1 := Lib.hid (grow_cf G0.out hk HB.out); clear hr hk))
  go_loopg [11] k (Rel w B d p (fun j => 1 + j) k)
  case atStart => exact ⟨0, _, by omega, rfl, HRM.out.2, H1.out, G1.out⟩
  case round =>
    obtain ⟨j, c, hg, rfl, hi, hc, hgr⟩ := hrel
    dsimp only at hi
    have HG := Lib.hid hg
    have HII := Lib.hid hi
    have HC := Lib.hid hc
    have HGR := Lib.hid hgr
    clear hg hi hc hgr
    by_cases hj : j < k
    · have hjz : (j : Int) < (k : Int) := by omega
      have HJ := Lib.hid hj
      have HH := Lib.hid (hi_hit HII.out (by omega))
      clear hj
      go_wp2_with (go_at_call 10; (with_reducible refine (t_hit HC.out HII.out.t (p : Int) HH.out.1 rfl).mono ?_); rintro e w3 ⟨rfl, hr, hk⟩; have H3 := Lib.hid hr; have G3 := Lib.hid (grow_cf HGR.out hk HB.out); clear hr hk)
      go_roundg (gk - 1)
      case measure => have := HG.out; have := HJ.out; omega
      case rel => exact ⟨j + 1, _, by have := HG.out; have := HJ.out; omega, by go_num, by have := HH.out.2; rw [show (1 : Int) + (j : Int) + 1 = 1 + ((j + 1 : Nat) : Int) by omega] at this; exact this, H3.out, G3.out⟩
    · obtain rfl : j = k := by have := HG.out; omega
      have HL := Lib.hid (hi_len HII.out)
      clear hj
      go_upto_region 14 with (first
        | (go_at_call 8; (with_reducible refine (t_arena HC.out).mono ?_); rintro e w' ⟨⟨da2, dl2, Dl2, dr2, rfl, hp⟩, rfl⟩; have HP := Lib.hid hp; clear hp)
        | (go_at_call 9; (with_reducible refine (t_frames HP.out.ar HII.out.n (by omega)).mono ?_); rintro e w4 ⟨g, c4, rfl, ho, hgg, hg⟩; have HO := Lib.hid ho; have HG4 := Lib.hid hg; clear ho hg hgg))
      have f2 := FR.c2 HO.out (f := 0) (by omega)
      rw [HII.out.f] at f2
      simp only [Nat.zero_mul, Nat.zero_add] at f2
      have HC4 := Lib.hid (HC.out.grow HG4.out)
      have HGR4 := Lib.hid (HGR.out.trans HG4.out)
      go_wp2
      clear f2
      go_loopg [13] (j + 1) (Rel w B d p (fun i => 1 + j - i) (j + 1))
      case atStart => exact ⟨0, c, by omega, rfl, by have := HII.out; rw [show (1 : Int) + (j : Int) = 1 + (j : Int) - ((0 : Nat) : Int) by omega] at this; exact this, HC4.out, HGR4.out⟩
      case round =>
        clear HC4 HGR4 HII HC HGR HL HG HP HO HG4
        obtain ⟨i, c, hg, rfl, hi, hc, hgr⟩ := hrel
        dsimp only at hi
        have HG := Lib.hid hg
        have HII := Lib.hid hi
        have HC := Lib.hid hc
        have HGR := Lib.hid hgr
        clear hg hi hc hgr
        by_cases hij : i < j + 1
        · have hjz : (i : Int) ≤ (j : Int) := by omega
          have HJ := Lib.hid hij
          have HH := Lib.hid (hi_let HII.out (by omega))
          clear hij
          go_wp2_with (go_at_call 13; (with_reducible refine (t_let HC.out 0 HH.out.1 rfl).mono ?_); rintro e w3 ⟨rfl, hr, hk⟩; have H3 := Lib.hid hr; have G3 := Lib.hid (grow_cf HGR.out hk HB.out); clear hr hk)
          go_roundg (gk - 1)
          case measure => have := HG.out; have := HJ.out; omega
          case rel => exact ⟨i + 1, _, by have := HG.out; have := HJ.out; omega, by go_num, by have := HH.out.2; rw [show (1 : Int) + (j : Int) - (i : Int) - 1 = 1 + (j : Int) - ((i + 1 : Nat) : Int) by omega] at this; exact this, H3.out, G3.out⟩
        · obtain rfl : i = j + 1 := by have := HG.out; omega
          have hfi : Hid (HI p 0 c) := by have := HII.out; rw [show (1 : Int) + (j : Int) - ((j + 1 : Nat) : Int) = 0 by omega] at this; exact this
          have HN := Lib.hid (hi_none hfi.out)
          have HL : Hid ((c.unpin 0).L.length = 1) := (hi_len hfi.out : c.L.length = 1)
          clear hij
          go_wp2_with (first
            | (go_at_call 15; (with_reducible refine (told_any _).mono ?_); rintro e w5 ⟨rfl, hg⟩; have HG5 := Lib.hid hg; have H5 := Lib.hid (HC.out.grow hg); clear hg)
            | (go_at_call 13; (with_reducible refine (t_let H5.out 0 HN.out rfl).mono ?_); rintro e w6 ⟨rfl, hr, hk⟩; have H6 := Lib.hid hr; have G6 := Lib.hid (grow_cf (HGR.out.trans HG5.out) hk HB.out); clear hr hk)
            | (go_at_call 16; (with_reducible refine (t_order_len H6.out (hfi.out.t.unpin 0) HL.out).mono ?_); rintro e w7 ⟨⟨A, cp, rfl⟩, _, hk⟩; have G7 := Lib.hid (grow_cf G6.out hk HB.out); clear hk))
          go_ret
          exact ⟨rfl, Grow.below G7.out⟩

/-! ### THE ROW's STEP: WRITTEN OUT: LEAVE IT -/
set_option maxRecDepth 100000 in
theorem lifted (os : Os) (started : os.Started) (H : Type) (enc : TypeId × Value → H) :
    ReturnsInHanded {} Try.checked os 6 .any (Rows.coreHitsSpec.pre6 enc Try.prog Try.f6 Rows.coreHitsRow.domain false) (Rows.coreHitsSpec.post enc Try.prog Try.f6 false true false false) := by
  refine returnsInHanded_of_change (C := Try.checked) own started (by kernel_rfl) Try.func6
    (ChangeSpec.witness6 (enc := enc) (C := Try.checked) false ⟨#[], #[.int .i64 0, .int .i64 0], []⟩ 8 (by kernel_rfl) (by kernel_rfl) (by kernel_rfl) (by kernel_rfl)) ?_
  intro W base args ds gs before hval0 hW hcnd _
  have hval : ∀ (j : Nat) t v, Try.f6.params[j]? = some t → args[j]? = some v → Value.okWide Try.prog W .any base t v := hval0
  have hW' := hW
  obtain ⟨p, q, hA0, hV, rfl, hfz, hnd⟩ := hW
  have hA : DataW.TrodAll enc Try.prog W 0 (fun _ => true) true Try.f6.params.toList args.toList ds p := hA0
  rw [Try.params6] at hA hval
  obtain ⟨v0, vs0, d0, ds0, p0, q0, hargs, rfl, rfl, h0, r0⟩ := trodAll_cons hA
  obtain ⟨v1, vs1, d1, ds1, p1, q1, rfl, rfl, rfl, h1, r1⟩ := trodAll_cons r0
  obtain ⟨rfl, rfl, rfl⟩ := trodAll_nil r1
  obtain rfl : args = #[v0, v1] := by cases args; simp_all
  obtain ⟨rfl, rfl⟩ := trodVars_none hV
  obtain ⟨a0, rfl, rfl, rfl, w0⟩ := open_int Try.underlying3 (hval 0 3 v0 rfl rfl) h0
  obtain ⟨a1, rfl, rfl, rfl, w1⟩ := open_int Try.underlying3 (hval 1 3 v1 rfl rfl) h1
  clear hA0 hval0
  refine (walk a0 a1 W w0 w1).mono fun e W' ⟨he, bel⟩ => ?_
  subst he
  exact ⟨_, rfl, _, _, _, [], _, [], hW', trodAll_mk1 (shut_bool Try.underlying4 _), (trodAll_cons_mk (shut_int Try.underlying3 w0) (trodAll_cons_mk (shut_int Try.underlying3 w1) trodAll_mk0)), rfl, bel.frame _, fun h => by cases h⟩

theorem over : Rows.coreHitsRow.holds Try.pinned (OpenSpec.ofChange Rows.coreHitsSpec) :=
  OpenClaim.holds_of_wide 6 Try.f6 rfl rfl rfl rfl rfl rfl rfl ⟨rfl, rfl, rfl, rfl, rfl⟩ rfl rfl rfl rfl rfl (by kernel_rfl) Try.func6 (by kernel_rfl)
    (of_decide_eq_true (by kernel_rfl)) (by unfold Func.isWrapper; first | (rw [if_pos (by decide +kernel)]; kernel_rfl) | (rw [if_neg (by decide +kernel)]; exact ⟨rfl, rfl⟩))
    (fun os started H enc _ => lifted os started H enc)

/-- ████ THE STATEMENT ████ -/
theorem proved : Rows.CoreHitsSaid := over
#print axioms proved
end Go.Proofs.Ytcmhkknoffeebaa.coreHits
