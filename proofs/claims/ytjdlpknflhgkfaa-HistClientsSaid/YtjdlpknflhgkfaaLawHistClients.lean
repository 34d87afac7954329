/-
  For every input the call of lavabolaw14.HistClients returns true and leaves its arguments as they were; no condition.
-/
import Derived.Test.YtjdlpknflhgkfaaTold14
import Derived.Test.YtjdlpknflhgkfaaRows
import Derived.WalkKit
import Derived.ProofKit
import Derived.OpenShut
import Derived.ShutString
import Derived.ChangeOld
import Derived.Below
namespace Go.Proofs.Ytjdlpknflhgkfaa.histClients
open Go.ChangeShapes Go.WideShapes Go.ChangeAt Go.RowKit
open Go.ChangeMaps (open_string shut_string)
open Go.Proofs.Ytjdlpknflhgkfaa.Mem Go.Proofs.Ytjdlpknflhgkfaa.Blk Go.Proofs.Ytjdlpknflhgkfaa.Cells Go.Proofs.Ytjdlpknflhgkfaa.MdM Go.Proofs.Ytjdlpknflhgkfaa.HsM Go.Proofs.Ytjdlpknflhgkfaa.HsE Go.Proofs.Ytjdlpknflhgkfaa.HsB Go.Proofs.Ytjdlpknflhgkfaa.HsO Go.Proofs.Ytjdlpknflhgkfaa.HsK Go.Proofs.Ytjdlpknflhgkfaa.HsT Go.Proofs.Ytjdlpknflhgkfaa.Told14 Go.Proofs.Ytjdlpknflhgkfaa.Stages
set_option linter.unusedVariables false

theorem own : ownKnob Try.prog.godebug = none := by kernel_rfl
theorem laidOut : laidOutB Try.prog = true := by kernel_rfl

abbrev ex (c : Nat) : Ev := ⟨(c : Int), ⟨7, 0, 0, 0, 0, []⟩, ⟨0, 0, 0, []⟩, 2, 3, 5⟩
abbrev ey (d g : Nat) : Ev := ⟨(d : Int), ⟨7, 0, 0, 0, 0, []⟩, ⟨0, 0, 0, []⟩, (g : Int), (g : Int) + 1, (g : Int) + 2⟩
theorem run7 {a : Md} {c : Nat} (h : c < a.N) : a.run (c : Int) ⟨7, 0, 0, 0, 0, []⟩ = (⟨0, 0, 0, []⟩, a) := by
  unfold Md.run
  rw [if_neg (by dsimp only; omega), if_neg (by decide), if_neg (by decide), if_neg (by decide), if_neg (by decide), if_neg (by decide), if_neg (by decide), if_pos (by decide)]
  rfl
theorem st7 {a : Md} {x : Ev} {c : Nat} (h : c < a.N) (hx : x.c = (c : Int)) (ho : x.o = ⟨7, 0, 0, 0, 0, []⟩) (hr : x.r = ⟨0, 0, 0, []⟩) : evStep a x = some a := by
  have := step_yes (a := a) (x := x) (.inr (by rw [hx, ho, hr, run7 h]))
  rw [hx, ho, run7 h] at this
  exact this
theorem ok0 {c d g : Nat} (hc : c < 3) : okAt (f2 (ex c) (ey d g)) 3 0 := ok_zero (by show (0 : Int) ≤ (c : Int) ∧ (c : Int) < 3; omega) (by show (0 : Int) < 2; omega) (by show inTn 2 3 5; unfold inTn; simp)
theorem ok1 {c d g : Nat} (hd : d < 3) : okAt (f2 (ex c) (ey d g)) 3 1 ↔ ¬ (g < 2 ∨ (c = d ∧ g ≤ 5)) := by
  constructor
  · intro h hw
    have h1 : (2 : Int) ≤ (g : Int) := h.mono 0 rfl
    rcases hw with hw | ⟨hw, hg⟩
    · omega
    · have h2 : (0 : Int) < 5 ∧ (5 : Int) < (g : Int) := h.busy 0 (by omega) (by show (c : Int) = (d : Int); omega)
      omega
  · intro h
    exact ok_one (by show (0 : Int) ≤ (d : Int) ∧ (d : Int) < 3; omega) (by show (0 : Int) < (g : Int); omega) (by show (2 : Int) ≤ (g : Int); omega)
      (by show inTn (g : Int) ((g : Int) + 1) ((g : Int) + 2); unfold inTn; rw [if_pos (by omega)]; omega) (fun e => by
        have e : (c : Int) = (d : Int) := e
        show (0 : Int) < 5 ∧ (5 : Int) < (g : Int)
        omega)
theorem chk2 {c d g : Nat} (hc : c < 3) (hd : d < 3) (h : g < 2 ∨ (c = d ∧ g ≤ 5)) : Chk (f2 (ex c) (ey d g)) 2 1 3 2 := .inr ⟨by unfold okN; omega, .inl ⟨fst_bad1 (by omega) (ok0 hc) (fun x => (ok1 hd).1 x h), by decide⟩⟩
theorem chk0 {c d g : Nat} (hc : c < 3) (hd : d < 3) (h : ¬ (g < 2 ∨ (c = d ∧ g ≤ 5))) : Chk (f2 (ex c) (ey d g)) 2 1 3 0 := .inr ⟨by unfold okN; omega, .inr ⟨fst_two (ok0 hc) ((ok1 hd).2 h), [0, 1], ord_01 (by show (0 : Int) < 3; omega) (by show (3 : Int) ≤ (g : Int) + 1; omega), by
  show 0 = (runL (f2 (ex c) (ey d g)) [0, 1] (fresh 1 3)).1
  rw [runL_some (st7 (a := fresh 1 3) (c := c) hc rfl rfl rfl), runL_some (st7 (a := fresh 1 3) (c := d) hd rfl rfl rfl), runL_nil]⟩⟩
theorem two_ev {c d g : Nat} (hg : g < 8) (w : World) : EvsAt (w.alloc (.cells #[.int .i64 (c : Int), .int .i64 7, .int .i64 0, .int .i64 0, .int .i64 0, .int .i64 0, .slice none 0 0, .int .i64 0, .int .i64 0, .int .i64 0, .slice none 0 0, .int .i64 2, .int .i64 3, .int .i64 5, .int .i64 (d : Int), .int .i64 7, .int .i64 0, .int .i64 0, .int .i64 0, .int .i64 0, .slice none 0 0, .int .i64 0, .int .i64 0, .int .i64 0, .slice none 0 0, .int .i64 (g : Int), .int .i64 ((g : Int) + 1), .int .i64 ((g : Int) + 2)] 29)) Any (some ⟨w.heap.size, 0, none⟩) 2 (f2 (ex c) (ey d g)) ∧ Grow w (w.alloc (.cells #[.int .i64 (c : Int), .int .i64 7, .int .i64 0, .int .i64 0, .int .i64 0, .int .i64 0, .slice none 0 0, .int .i64 0, .int .i64 0, .int .i64 0, .slice none 0 0, .int .i64 2, .int .i64 3, .int .i64 5, .int .i64 (d : Int), .int .i64 7, .int .i64 0, .int .i64 0, .int .i64 0, .int .i64 0, .slice none 0 0, .int .i64 0, .int .i64 0, .int .i64 0, .slice none 0 0, .int .i64 (g : Int), .int .i64 ((g : Int) + 1), .int .i64 ((g : Int) + 2)] 29)) :=
  ⟨evs_two (x := ex c) (y := ey d g) ⟨rfl, rfl⟩ (by unfold Rng I64; simp) ⟨rfl, rfl⟩ (by unfold Rng I64; simp; omega) w, (Kept.refl _ _).alloc _⟩
set_option maxHeartbeats 4000000 in
set_option maxRecDepth 100000 in
theorem walk (a0 : Int) (a1 : Int) (a2 : Int) (w : World) (w0 : (Lit.int .i64 a0).wf = true) (w1 : (Lit.int .i64 a1).wf = true) (w2 : (Lit.int .i64 a2).wf = true) :
    Calls Try.prog 3 #[.int .i64 a0, .int .i64 a1, .int .i64 a2] w fun e w' => e = .returned (.bool true) ∧ Below w.heap.size w w' := by
  obtain ⟨c, hc, hc3⟩ := tmod_nat a0 3 (by omega)
  obtain ⟨d, hd, hd3⟩ := tmod_nat a1 3 (by omega)
  obtain ⟨g, hg, hg8⟩ := tmod_nat a2 8 (by omega)
  simp only [Int.cast_ofNat_Int] at hc hd hg
  have hcz : (c : Int) < 3 := by omega
  have hdz : (d : Int) < 3 := by omega
  have hgz : (g : Int) < 8 := by omega
  obtain ⟨hev, hgr⟩ := two_ev (c := c) (d := d) hg8 w
  have HC2 := Lib.hid (fun h => chk2 (c := c) (d := d) (g := g) hc3 hd3 h)
  have HC0 := Lib.hid (fun h => chk0 (c := c) (d := d) (g := g) hc3 hd3 h)
  clear hc3 hd3 hg8
  go_enter Try.func3, Try.ntmps3
  go_upto_region 3 with (fail)
  generalize w.alloc (.cells #[.int .i64 (c : Int), .int .i64 7, .int .i64 0, .int .i64 0, .int .i64 0, .int .i64 0, .slice none 0 0, .int .i64 0, .int .i64 0, .int .i64 0, .slice none 0 0, .int .i64 2, .int .i64 3, .int .i64 5, .int .i64 (d : Int), .int .i64 7, .int .i64 0, .int .i64 0, .int .i64 0, .int .i64 0, .slice none 0 0, .int .i64 0, .int .i64 0, .int .i64 0, .slice none 0 0, .int .i64 (g : Int), .int .i64 ((g : Int) + 1), .int .i64 ((g : Int) + 2)] 29) = w1 at hev hgr ⊢
  generalize w.heap.size = f at hev ⊢
  have HEV := Lib.hid hev
  have HGR := Lib.hid hgr
  clear hev hgr
  by_cases h2 : g < 2
  · have h2z : (g : Int) < 2 := by omega
    have HC := Lib.hid (HC2.out (.inl h2))
    have CC : Hid (∀ wx, Grow w1 wx → Calls Try.prog 11 #[.slice (some ⟨f, 0, none⟩) 2 2, .int .i64 1, .int .i64 3] wx (Told14.Told 2 wx)) := fun wx hx => t_check (HEV.out.grow hx) (by omega) HC.out 2
    go_wp2_with (first
      | (go_at_call 10; (with_reducible refine (told_any _).mono ?_); rintro e wt ⟨rfl, hge⟩; have HGE := Lib.hid hge; clear hge)
      | (go_at_call 11; (with_reducible refine (CC.out _ HGE.out).mono ?_); rintro e wk ⟨rfl, hge⟩; have HGK := Lib.hid hge; clear hge))
    go_ret
    exact ⟨rfl, Grow.below ((HGR.out.trans HGE.out).trans HGK.out)⟩
  have h2z : ¬ (g : Int) < 2 := by omega
  by_cases h3 : c = d ∧ g ≤ 5
  · obtain ⟨h3, h5⟩ := h3
    have h5z : (g : Int) ≤ 5 := by omega
    have HC := Lib.hid (HC2.out (.inr ⟨h3, h5⟩))
    subst h3
    have CC : Hid (∀ wx, Grow w1 wx → Calls Try.prog 11 #[.slice (some ⟨f, 0, none⟩) 2 2, .int .i64 1, .int .i64 3] wx (Told14.Told 2 wx)) := fun wx hx => t_check (HEV.out.grow hx) (by omega) HC.out 2
    go_wp2_with (first
      | (go_at_call 10; (with_reducible refine (told_any _).mono ?_); rintro e wt ⟨rfl, hge⟩; have HGE := Lib.hid hge; clear hge)
      | (go_at_call 11; (with_reducible refine (CC.out _ HGE.out).mono ?_); rintro e wk ⟨rfl, hge⟩; have HGK := Lib.hid hge; clear hge))
    go_ret
    exact ⟨rfl, Grow.below ((HGR.out.trans HGE.out).trans HGK.out)⟩
  have HC := Lib.hid (HC0.out (by omega))
  have CC : Hid (∀ wx, Grow w1 wx → Calls Try.prog 11 #[.slice (some ⟨f, 0, none⟩) 2 2, .int .i64 1, .int .i64 3] wx (Told14.Told 0 wx)) := fun wx hx => t_check (HEV.out.grow hx) (by omega) HC.out 2
  by_cases hcd : c = d
  · have h5z : ¬ (g : Int) ≤ 5 := by omega
    subst hcd
    clear h3
    go_wp2_with (first
      | (go_at_call 10; (with_reducible refine (told_any _).mono ?_); rintro e wt ⟨rfl, hge⟩; have HGE := Lib.hid hge; clear hge)
      | (go_at_call 11; (with_reducible refine (CC.out _ HGE.out).mono ?_); rintro e wk ⟨rfl, hge⟩; have HGK := Lib.hid hge; clear hge))
    go_ret
    exact ⟨rfl, Grow.below ((HGR.out.trans HGE.out).trans HGK.out)⟩
  · have hcb : ((c : Int) == (d : Int)) = false := by rw [beq_eq_false_iff_ne]; omega
    clear h3 hcd
    go_wp2_with (first
      | (go_at_call 10; (with_reducible refine (told_any _).mono ?_); rintro e wt ⟨rfl, hge⟩; have HGE := Lib.hid hge; clear hge)
      | (go_at_call 11; (with_reducible refine (CC.out _ HGE.out).mono ?_); rintro e wk ⟨rfl, hge⟩; have HGK := Lib.hid hge; clear hge))
    go_ret
    exact ⟨rfl, Grow.below ((HGR.out.trans HGE.out).trans HGK.out)⟩

set_option maxRecDepth 100000 in
theorem lifted (os : Os) (started : os.Started) (H : Type) (enc : TypeId × Value → H) :
    ReturnsInHanded {} Try.checked os 3 .any (Rows.histClientsSpec.pre6 enc Try.prog Try.f3 Rows.histClientsRow.domain false) (Rows.histClientsSpec.post enc Try.prog Try.f3 false true false false) := by
  refine returnsInHanded_of_change (C := Try.checked) own started (by kernel_rfl) Try.func3
    (ChangeSpec.witness6 (enc := enc) (C := Try.checked) false ⟨#[], #[.int .i64 0, .int .i64 0, .int .i64 0], []⟩ 8 (by kernel_rfl) (by kernel_rfl) (by kernel_rfl) (by kernel_rfl)) ?_
  intro W base args ds gs before hval0 hW hcnd _
  have hval : ∀ (j : Nat) t v, Try.f3.params[j]? = some t → args[j]? = some v → Value.okWide Try.prog W .any base t v := hval0
  have hW' := hW
  obtain ⟨p, q, hA0, hV, rfl, hfz, hnd⟩ := hW
  have hA : DataW.TrodAll enc Try.prog W 0 (fun _ => true) true Try.f3.params.toList args.toList ds p := hA0
  rw [Try.params3] at hA hval
  obtain ⟨v0, vs0, d0, ds0, p0, q0, hargs, rfl, rfl, h0, r0⟩ := trodAll_cons hA
  obtain ⟨v1, vs1, d1, ds1, p1, q1, rfl, rfl, rfl, h1, r1⟩ := trodAll_cons r0
  obtain ⟨v2, vs2, d2, ds2, p2, q2, rfl, rfl, rfl, h2, r2⟩ := trodAll_cons r1
  obtain ⟨rfl, rfl, rfl⟩ := trodAll_nil r2
  obtain rfl : args = #[v0, v1, v2] := by cases args; simp_all
  obtain ⟨rfl, rfl⟩ := trodVars_none hV
  obtain ⟨a0, rfl, rfl, rfl, w0⟩ := open_int Try.underlying3 (hval 0 3 v0 rfl rfl) h0
  obtain ⟨a1, rfl, rfl, rfl, w1⟩ := open_int Try.underlying3 (hval 1 3 v1 rfl rfl) h1
  obtain ⟨a2, rfl, rfl, rfl, w2⟩ := open_int Try.underlying3 (hval 2 3 v2 rfl rfl) h2
  clear hA0 hval0
  refine (walk a0 a1 a2 W w0 w1 w2).mono fun e W' ⟨he, bel⟩ => ?_
  subst he
  exact ⟨_, rfl, _, _, _, [], _, [], hW', trodAll_mk1 (shut_bool Try.underlying4 _), (trodAll_cons_mk (shut_int Try.underlying3 w0) (trodAll_cons_mk (shut_int Try.underlying3 w1) (trodAll_cons_mk (shut_int Try.underlying3 w2) trodAll_mk0))), rfl, bel.frame _, fun h => by cases h⟩

theorem over : Rows.histClientsRow.holds Try.pinned (OpenSpec.ofChange Rows.histClientsSpec) :=
  OpenClaim.holds_of_wide 3 Try.f3 rfl rfl rfl rfl rfl rfl rfl ⟨rfl, rfl, rfl, rfl, rfl⟩ rfl rfl rfl rfl rfl (by kernel_rfl) Try.func3 (by kernel_rfl)
    (of_decide_eq_true (by kernel_rfl)) (by unfold Func.isWrapper; first | (rw [if_pos (by decide +kernel)]; kernel_rfl) | (rw [if_neg (by decide +kernel)]; exact ⟨rfl, rfl⟩))
    (fun os started H enc _ => lifted os started H enc)

/-- ████ THE STATEMENT ████ -/
theorem proved : Rows.HistClientsSaid := over
#print axioms proved
end Go.Proofs.Ytjdlpknflhgkfaa.histClients
