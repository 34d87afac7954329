/-
  For every input the call of lavabolaw4.ListEnds returns true and leaves its arguments as they were; no condition.
-/
import Derived.Test.YtkcfgmonpbgkgaaTold4
import Derived.Test.YtkcfgmonpbgkgaaRows
import Derived.WalkKit
import Derived.ProofKit
import Derived.OpenShut
import Derived.ShutString
import Derived.ChangeOld
import Derived.Below
namespace Go.Proofs.Ytkcfgmonpbgkgaa.listEnds
open Go.ChangeShapes Go.WideShapes Go.ChangeAt Go.RowKit
open Go.ChangeMaps (open_string shut_string)
open Go.Proofs.Ytkcfgmonpbgkgaa.Mem Go.Proofs.Ytkcfgmonpbgkgaa.Blk Go.Proofs.Ytkcfgmonpbgkgaa.ListM Go.Proofs.Ytkcfgmonpbgkgaa.Rowed Go.Proofs.Ytkcfgmonpbgkgaa.ListC Go.Proofs.Ytkcfgmonpbgkgaa.ListD Go.Proofs.Ytkcfgmonpbgkgaa.Told4 Go.Proofs.Ytkcfgmonpbgkgaa.Stages
set_option linter.unusedVariables false

theorem own : ownKnob Try.prog.godebug = none := by kernel_rfl
theorem laidOut : laidOutB Try.prog = true := by kernel_rfl

/-- WHAT THE WALK IS TOLD OF A SLICE OF INTEGERS THAT CAME IN: it is nil; or it leads to a row of 'cap' cells, the numbers 'zs' (the first 'len' are its elements, the rest its spare room), each fitting its kind. -/
def IsRow (k : IntKind) (w : World) (a : Option Addr) (len cap : Nat) (zs : List Int) : Prop :=
  (a = none ∧ len = 0 ∧ cap = 0 ∧ zs = []) ∨
  ∃ x, a = some x ∧ len ≤ cap ∧ cap ≤ maxLen ∧ zs.length = cap ∧ (∀ i, i < zs.length → w.cell? (x.add i) = some (.int k (zs.getD i 0))) ∧ ∀ n ∈ zs, (Lit.int k n).wf = true

def ALoop (w1 : World) (d D N : Nat) (g : Nat) (i : Value) (wx : World) : Prop := ∃ (j : Nat) (zs : List Nat), j + g = N ∧ i = .int .i64 (j : Int) ∧ ListAt wx d D 40 zs ∧ zs.length = j ∧ (∀ x ∈ zs, x < j) ∧ Kept (Own d D) w1 wx
def BLoop (w1 : World) (d D : Nat) (g : Nat) (i : Value) (wx : World) : Prop := ∃ zs : List Nat, i = .int .i64 (g : Int) ∧ ListAt wx d D 40 zs ∧ zs.length = g ∧ Kept (Own d D) w1 wx
theorem first_mem {zs : List Nat} (h : 0 < zs.length) : ∃ x, x ∈ zs ∧ first zs = ((x : Nat) : Int) := by
  cases zs with
  | nil => simp at h
  | cons x l => exact ⟨x, by simp, rfl⟩
theorem last_mem {zs : List Nat} (h : 0 < zs.length) : ∃ x, x ∈ zs ∧ last zs = ((x : Nat) : Int) := by
  rcases List.eq_nil_or_concat zs with rfl | ⟨l, x, rfl⟩
  · simp at h
  · exact ⟨x, by simp, by unfold last; simp⟩

/-! ### STEP 1: THE WALK: the Go text returns true, AND WRITES NOTHING THAT WAS THERE: 'Below w.heap.size w w'' (Derived/Below.lean: '.refl', '.alloc', '.drew', '.setCell' at a new block, '.trans'). Open each 'IsRow' by 'rcases' AHEAD of 'go_enter'; part every test ahead of the walk. -/
set_option maxHeartbeats 2000000 in
theorem walk (a0 : Int) (a1 : Int) (w : World) (w0 : (Lit.int .i64 a0).wf = true) (w1 : (Lit.int .i64 a1).wf = true) :
    Calls Try.prog 6 #[.int .i64 a0, .int .i64 a1] w fun e w' => e = .returned (.bool true) ∧ Below w.heap.size w w' := by
  have k0 := bounds_i64 w0
  have k1 := bounds_i64 w1
  obtain ⟨N, hn, hN⟩ := tmod_nat a0 41 (by omega)
  simp only [Int.cast_ofNat_Int] at hn
  have hnz : (N : Int) < 41 := by omega
  have CN := Lib.hid fun (wx : World) => new_good (w := wx) 40 (by omega)
  simp only [Int.cast_ofNat_Int] at CN
  go_enter Try.func6, Try.ntmps6
  go_wp2_with (go_at_call 7; (with_reducible refine (CN.out _).mono ?_); rintro e w1 ⟨d, D, rfl, hl, hd1, hd2, hg⟩; have H0 := Lib.hid hl; have HD := Lib.hid (And.intro hd1 hd2); have G0 := Lib.hid hg; clear hl hd1 hd2 hg)
  go_loopg [7] N (ALoop w1 d D N)
  case atStart => exact ⟨0, [], by omega, rfl, H0.out, rfl, fun x hx => absurd hx (by simp), Kept.refl _ _⟩
  case round =>
    obtain ⟨j, zs, hg, rfl, hl, hlen, hlt, hk⟩ := hrel
    have HG := Lib.hid hg
    have HL := Lib.hid hl
    have HK := Lib.hid hk
    have HZ := Lib.hid (And.intro hlen hlt)
    clear hg hl hk hlen hlt
    by_cases hj : j < N
    · have hjz : (j : Int) < (N : Int) := by omega
      have hjm : j ∉ zs := fun hm => by have := HZ.out.2 j hm; omega
      have hok : okF 40 zs (j : Int) = true := by
        simp only [okF, Int.toNat_natCast, hjm]
        simp
        omega
      have hlast : last (zs ++ [j]) = (j : Int) := by unfold last; simp
      have hln : ∀ ys : List Nat, ys.length = j + 1 → ((ys.length : Nat) : Int) = (j : Int) + 1 := fun ys h => by omega
      have CF : Hid (Calls Try.prog 9 #[.pointer (some ⟨d, 0, none⟩), .int .i64 (j : Int)] wr (ListPost d D 40 wr (.bool true) (j :: zs))) := front_good HL.out j (by omega) hjm
      have CB : Hid (Calls Try.prog 11 #[.pointer (some ⟨d, 0, none⟩), .int .i64 (j : Int)] wr (ListPost d D 40 wr (.bool true) (zs ++ [j]))) := back_good HL.out j (by omega) hjm
      have C1 : Hid (∀ wx, ListAt wx d D 40 (j :: zs) → Calls Try.prog 16 #[.pointer (some ⟨d, 0, none⟩)] wx fun e w' => e = .returned (.int .i64 (j : Int)) ∧ wx = w') := fun wx h => first_any h
      have C2 : Hid (∀ wx, ListAt wx d D 40 (zs ++ [j]) → Calls Try.prog 18 #[.pointer (some ⟨d, 0, none⟩)] wx fun e w' => e = .returned (.int .i64 (j : Int)) ∧ wx = w') := fun wx h => by
        have := last_any h
        rwa [hlast] at this
      have C3 : Hid (∀ wx ys, ListAt wx d D 40 ys → ys.length = j + 1 → Calls Try.prog 15 #[.pointer (some ⟨d, 0, none⟩)] wx fun e w' => e = .returned (.int .i64 ((j : Int) + 1)) ∧ wx = w') := fun wx ys h e => by
        have := len_any h
        rwa [hln ys e] at this
      have HF1 : Hid ((j :: zs).length = j + 1) := by show _ = _; rw [List.length_cons, HZ.out.1]
      have HB1 : Hid ((zs ++ [j]).length = j + 1) := by show _ = _; rw [List.length_append, HZ.out.1]; rfl
      have HF2 : Hid (∀ x ∈ j :: zs, x < j + 1) := fun x hx => by
        rcases List.mem_cons.1 hx with rfl | hx
        · omega
        · have := HZ.out.2 x hx; omega
      have HB2 : Hid (∀ x ∈ zs ++ [j], x < j + 1) := fun x hx => by
        rcases List.mem_append.1 hx with hx | hx
        · have := HZ.out.2 x hx; omega
        · have : x = j := by simpa using hx
          omega
      clear hok hlast hln hjm
      go_wp2_with (first
        | (go_at_call 9; (with_reducible refine CF.out.mono ?_); rintro e w2 ⟨rfl, hl, hk, _⟩; have HL2 := Lib.hid hl; have HK2 := Lib.hid hk; have HA2 := HF1; have HA3 := HF2; clear hl hk)
        | (go_at_call 11; (with_reducible refine CB.out.mono ?_); rintro e w2 ⟨rfl, hl, hk, _⟩; have HL2 := Lib.hid hl; have HK2 := Lib.hid hk; have HA2 := HB1; have HA3 := HB2; clear hl hk)
        | (go_at_call 16; (with_reducible refine (C1.out _ HL2.out).mono ?_); rintro e w' ⟨rfl, rfl⟩)
        | (go_at_call 18; (with_reducible refine (C2.out _ HL2.out).mono ?_); rintro e w' ⟨rfl, rfl⟩)
        | (go_at_call 15; (with_reducible refine (C3.out _ _ HL2.out HA2.out).mono ?_); rintro e w' ⟨rfl, rfl⟩))
      all_goals
        go_roundg (N - (j + 1))
        case measure => have := HG.out; omega
        case rel => exact ⟨j + 1, _, by have := HG.out; omega, by go_num, HL2.out, HA2.out, HA3.out, HK.out.trans HK2.out⟩
    · obtain rfl : j = N := by have := HG.out; omega
      have H1 : Hid (BLoop w1 d D j (.int .i64 (j : Int)) wr) := ⟨zs, rfl, HL.out, HZ.out.1, HK.out⟩
      clear HL HZ HK hj HG H0
      go_wp2_with (fail)
      go_loopg [9] j (BLoop w1 d D)
      case atStart => exact H1.out
      case round =>
        obtain ⟨ys, rfl, hl, hlen, hk⟩ := hrel
        have HL := Lib.hid hl
        have HK := Lib.hid hk
        have HZ := Lib.hid hlen
        have hgk : gk ≤ 40 := by have := hl.ring.2.2; omega
        have hgz : (gk : Int) ≤ 40 := by omega
        clear hl hk hlen H1
        by_cases hg : 0 < gk
        · have hg0 : (0 : Int) < (gk : Int) := by omega
          obtain ⟨x, hx, hfx⟩ := first_mem (zs := ys) (by have := HZ.out; omega)
          obtain ⟨y, hy, hly⟩ := last_mem (zs := ys) (by have := HZ.out; omega)
          have C1 : Hid (Calls Try.prog 16 #[.pointer (some ⟨d, 0, none⟩)] wr fun e w' => e = .returned (.int .i64 (x : Int)) ∧ wr = w') := by
            have := first_any HL.out
            rwa [hfx] at this
          have C2 : Hid (Calls Try.prog 18 #[.pointer (some ⟨d, 0, none⟩)] wr fun e w' => e = .returned (.int .i64 (y : Int)) ∧ wr = w') := by
            have := last_any HL.out
            rwa [hly] at this
          have C3 : Hid (∀ z : Nat, z ∈ ys → Calls Try.prog 22 #[.pointer (some ⟨d, 0, none⟩), .int .i64 (z : Int)] wr fun e w' => e = .returned (.bool true) ∧ wr = w') := fun z hz => by
            have := has_any HL.out (z : Int)
            rwa [show okO ys (z : Int) = true by simp [okO, hz]] at this
          have C4 : Hid (∀ z : Nat, z ∈ ys → Calls Try.prog 13 #[.pointer (some ⟨d, 0, none⟩), .int .i64 (z : Int)] wr fun e w' => e = .returned (.bool true) ∧ (∃ us, ListAt w' d D 40 us ∧ us.length = gk - 1) ∧ Kept (Own d D) wr w') := fun z hz => by
            refine (out_good HL.out z hz).mono ?_
            rintro e w' ⟨rfl, h1, h2⟩
            exact ⟨rfl, ⟨_, h1, by rw [List.length_erase, if_pos hz, HZ.out]⟩, h2⟩
          have C5 : Hid (∀ wx us, ListAt wx d D 40 us → us.length = gk - 1 → Calls Try.prog 15 #[.pointer (some ⟨d, 0, none⟩)] wx fun e w' => e = .returned (.int .i64 ((gk : Int) - 1)) ∧ wx = w') := fun wx us h e => by
            have := len_any h
            rwa [show ((us.length : Nat) : Int) = (gk : Int) - 1 by omega] at this
          have HXM := Lib.hid hx
          have HYM := Lib.hid hy
          clear hfx hly hx hy hgk
          go_wp2_with (first
            | (go_at_call 16; (with_reducible refine C1.out.mono ?_); rintro e w' ⟨rfl, rfl⟩)
            | (go_at_call 18; (with_reducible refine C2.out.mono ?_); rintro e w' ⟨rfl, rfl⟩)
            | (go_at_call 22; (with_reducible refine (C3.out _ HYM.out).mono ?_); rintro e w' ⟨rfl, rfl⟩)
            | (go_at_call 22; (with_reducible refine (C3.out _ HXM.out).mono ?_); rintro e w' ⟨rfl, rfl⟩)
            | (go_at_call 13; (with_reducible refine (C4.out _ HYM.out).mono ?_); rintro e w2 ⟨rfl, ⟨us, hl, hn⟩, hk⟩; have HL2 := Lib.hid hl; have HN2 := Lib.hid hn; have HK2 := Lib.hid hk; clear hl hk hn)
            | (go_at_call 13; (with_reducible refine (C4.out _ HXM.out).mono ?_); rintro e w2 ⟨rfl, ⟨us, hl, hn⟩, hk⟩; have HL2 := Lib.hid hl; have HN2 := Lib.hid hn; have HK2 := Lib.hid hk; clear hl hk hn)
            | (go_at_call 15; (with_reducible refine (C5.out _ _ HL2.out HN2.out).mono ?_); rintro e w' ⟨rfl, rfl⟩))
          all_goals
            go_roundg (gk - 1)
            case measure => omega
            case rel => exact ⟨_, by go_num, HL2.out, HN2.out, HK.out.trans HK2.out⟩
        · obtain rfl : gk = 0 := by omega
          have hy0 : ys = [] := List.eq_nil_of_length_eq_zero HZ.out
          subst hy0
          simp only [Int.natCast_zero, Int.cast_ofNat_Int]
          have HB : Hid (Below w.heap.size w wr) := by
            refine Kept.below (F := Own d D) ((Grow.kept G0.out).trans HK.out) (fun k ho => ?_) (Nat.le_refl _)
            have h1 := HD.out.1
            have h2 := HD.out.2
            rcases ho with h | h <;> omega
          go_wp2_with (first
            | (go_at_call 8; (with_reducible refine (told_any _).mono ?_); rintro e w5 ⟨rfl, hge⟩; have HGE := Lib.hid hge; clear hge)
            | (go_at_call 16; (with_reducible refine (first_any (HL.out.grow HGE.out)).mono ?_); rintro e w' ⟨rfl, rfl⟩)
            | (go_at_call 24; (with_reducible refine (all_any (HL.out.grow HGE.out)).mono ?_); rintro e w6 ⟨A, c, rfl, _, _, hk⟩; have HK6 := Lib.hid hk; clear hk))
          go_ret
          exact ⟨rfl, HB.out.trans ((Grow.below (HGE.out.trans HK6.out)).mono HB.out.size)⟩

/-! ### THE ROW's STEP: WRITTEN OUT: LEAVE IT -/
set_option maxRecDepth 100000 in
theorem lifted (os : Os) (started : os.Started) (H : Type) (enc : TypeId × Value → H) :
    ReturnsInHanded {} Try.checked os 6 .any (Rows.listEndsSpec.pre6 enc Try.prog Try.f6 Rows.listEndsRow.domain false) (Rows.listEndsSpec.post enc Try.prog Try.f6 false true false false) := by
  refine returnsInHanded_of_change (C := Try.checked) own started (by kernel_rfl) Try.func6
    (ChangeSpec.witness6 (enc := enc) (C := Try.checked) false ⟨#[], #[.int .i64 0, .int .i64 0], []⟩ 8 (by kernel_rfl) (by kernel_rfl) (by kernel_rfl) (by kernel_rfl)) ?_
  intro W base args ds gs before hval0 hW hcnd _
  have hval : ∀ (j : Nat) t v, Try.f6.params[j]? = some t → args[j]? = some v → Value.okWide Try.prog W .any base t v := hval0
  have hW' := hW
  obtain ⟨p, q, hA0, hV, rfl, hfz, hnd⟩ := hW
  have hA : DataW.TrodAll enc Try.prog W 0 (fun _ => true) true Try.f6.params.toList args.toList ds p := hA0
  rw [Try.params6] at hA hval
  obtain ⟨v0, vs0, d0, ds0, p0, q0, hargs, rfl, rfl, h0, r0⟩ := trodAll_cons hA
  obtain ⟨v1, vs1, d1, ds1, p1, q1, rfl, rfl, rfl, h1, r1⟩ := trodAll_cons r0
  obtain ⟨rfl, rfl, rfl⟩ := trodAll_nil r1
  obtain rfl : args = #[v0, v1] := by cases args; simp_all
  obtain ⟨rfl, rfl⟩ := trodVars_none hV
  obtain ⟨a0, rfl, rfl, rfl, w0⟩ := open_int Try.underlying3 (hval 0 3 v0 rfl rfl) h0
  obtain ⟨a1, rfl, rfl, rfl, w1⟩ := open_int Try.underlying3 (hval 1 3 v1 rfl rfl) h1
  clear hA0 hval0
  refine (walk a0 a1 W w0 w1).mono fun e W' ⟨he, bel⟩ => ?_
  subst he
  exact ⟨_, rfl, _, _, _, [], _, [], hW', trodAll_mk1 (shut_bool Try.underlying4 _), (trodAll_cons_mk (shut_int Try.underlying3 w0) (trodAll_cons_mk (shut_int Try.underlying3 w1) trodAll_mk0)), rfl, bel.frame _, fun h => by cases h⟩

theorem over : Rows.listEndsRow.holds Try.pinned (OpenSpec.ofChange Rows.listEndsSpec) :=
  OpenClaim.holds_of_wide 6 Try.f6 rfl rfl rfl rfl rfl rfl rfl ⟨rfl, rfl, rfl, rfl, rfl⟩ rfl rfl rfl rfl rfl (by kernel_rfl) Try.func6 (by kernel_rfl)
    (of_decide_eq_true (by kernel_rfl)) (by unfold Func.isWrapper; first | (rw [if_pos (by decide +kernel)]; kernel_rfl) | (rw [if_neg (by decide +kernel)]; exact ⟨rfl, rfl⟩))
    (fun os started H enc _ => lifted os started H enc)

/-- ████ THE STATEMENT ████ -/
theorem proved : Rows.ListEndsSaid := over
#print axioms proved
end Go.Proofs.Ytkcfgmonpbgkgaa.listEnds
