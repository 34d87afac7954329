/-
  For every input the call of lavabolaw2.PageMarks returns true and leaves its arguments as they were; no condition.
-/
import Derived.Test.YtmdafgonnkppoaaTold2
import Derived.Deep.Cut
import Derived.Test.YtmdafgonnkppoaaRows
import Derived.WalkKit
import Derived.ProofKit
import Derived.OpenShut
import Derived.ShutString
import Derived.ChangeOld
import Derived.Below
namespace Go.Proofs.Ytmdafgonnkppoaa.pageMarks
open Go.ChangeShapes Go.WideShapes Go.ChangeAt Go.RowKit
open Go.ChangeMaps (open_string shut_string)
open Go.Proofs.Ytmdafgonnkppoaa.SumM Go.Proofs.Ytmdafgonnkppoaa.Mem Go.Proofs.Ytmdafgonnkppoaa.SumC Go.Proofs.Ytmdafgonnkppoaa.Blk Go.Proofs.Ytmdafgonnkppoaa.PageM Go.Proofs.Ytmdafgonnkppoaa.PageC Go.Proofs.Ytmdafgonnkppoaa.PageR Go.Proofs.Ytmdafgonnkppoaa.Told2 Go.Proofs.Ytmdafgonnkppoaa.Stages
set_option linter.unusedVariables false

theorem own : ownKnob Try.prog.godebug = none := by kernel_rfl
theorem laidOut : laidOutB Try.prog = true := by kernel_rfl

/-- WHAT THE WALK IS TOLD OF A SLICE OF INTEGERS THAT CAME IN: it is nil; or it leads to a row of 'cap' cells, the numbers 'zs' (the first 'len' are its elements, the rest its spare room), each fitting its kind. -/
def IsRow (k : IntKind) (w : World) (a : Option Addr) (len cap : Nat) (zs : List Int) : Prop :=
  (a = none ∧ len = 0 ∧ cap = 0 ∧ zs = []) ∨
  ∃ x, a = some x ∧ len ≤ cap ∧ cap ≤ maxLen ∧ zs.length = cap ∧ (∀ i, i < zs.length → w.cell? (x.add i) = some (.int k (zs.getD i 0))) ∧ ∀ n ∈ zs, (Lit.int k n).wf = true

/-! ### STEP 1: THE WALK: the Go text returns true, AND WRITES NOTHING THAT WAS THERE: 'Below w.heap.size w w'' (Derived/Below.lean: '.refl', '.alloc', '.drew', '.setCell' at a new block, '.trans'). Open each 'IsRow' by 'rcases' AHEAD of 'go_enter'; part every test ahead of the walk. -/
set_option maxHeartbeats 1000000 in
theorem walk (a0 : Int) (a1 : Int) (a2 : Int) (a3 : Int) (w : World) (w0 : (Lit.int .i64 a0).wf = true) (w1 : (Lit.int .u8 a1).wf = true) (w2 : (Lit.int .i64 a2).wf = true) (w3 : (Lit.int .u8 a3).wf = true) :
    Calls Try.prog 6 #[.int .i64 a0, .int .u8 a1, .int .i64 a2, .int .u8 a3] w fun e w' => e = .returned (.bool true) ∧ Below w.heap.size w w' := by
  have k0 := bounds_i64 w0
  have k1 := bounds_u8 w1
  have k2 := bounds_i64 w2
  have k3 := bounds_u8 w3
  have u1 : U8 a1 := ⟨by omega, by omega⟩
  have u3 : U8 a3 := ⟨by omega, by omega⟩
  obtain ⟨p, hp, hp48⟩ := tmod_nat a0 48 (by omega)
  obtain ⟨K, hK, hK16⟩ := tmod_nat a2 16 (by omega)
  simp only [Int.cast_ofNat_Int] at hp hK
  have hp1 : (p : Int) < 48 := by omega
  have HF := Lib.hid (fun w => fill_any a1 a2 a3 K w u1 u3 hK hK16)
  have hfl := fillL_bytes K u1 u3
  have hfn := fillL_len a1 K a3
  have HFN := Lib.hid hfn
  clear hK hfn
  generalize fillL a1 K a3 = body at HF hfl HFN
  go_enter Try.func6, Try.ntmps6
  go_upto_region 3 with (go_at_call 15; (with_reducible refine (HF.out _).mono ?_); rintro e w1 ⟨g, rfl, hg, hblk, hgr⟩; have HBLK := Lib.hid hblk; have HGR := Lib.hid hgr; clear hblk hgr)
  have HS := Lib.hid (seal_good p (some ⟨g, 0, none⟩) 16 _ body w1 (by omega) hp1 hfl (Sl.of_blk0 HBLK.out HFN.out (Blk.lt HBLK.out)) (Nat.le_refl _))
  go_upto_region 6 with (go_at_call 9; (with_reducible refine HS.out.mono ?_); rintro e w2 ⟨g2, rfl, hg2, hblk2, hgr2⟩; have HBLK2 := Lib.hid hblk2; have HGR2 := Lib.hid hgr2; clear hblk2 hgr2)
  have HGA : Hid (Grow w w2.drew) := (HGR.out.trans HGR2.out).drew
  have HB3 : Hid (NBlk w2.drew g2 5 .u8 (sealI p body)) := HBLK2.out
  have HB4 : Hid (NBlk w2.drew g 5 .u8 body) := Blk.drew (Blk.grow HBLK.out HGR2.out)
  refine wp_region_stages Grow (kept_refl _) (kept_trans _) [([], 0)] [1, 2, 3, 4, 5, 6, 7, 8, 9, 10, 11, 12, 13, 14, 15, 16, 17, 18, 19, 20, 21, 22, 23, 24, 25, 26, 27, 28, 29, 30, 31, 32, 33, 34, 35, 36] (by kernel_rfl) (by kernel_rfl) ?_
  simp only [selSt, sel, List.map_cons, List.map_nil, List.getD_cons_succ, List.getD_cons_zero]
  refine st_cons fun K1 hK1 => wpQuiet_nil ?_
  go_wp2_with (go_at_call 8; (with_reducible refine (told_any _).mono ?_); rintro e w4 ⟨rfl, hgr4⟩; have HGR4 := Lib.hid hgr4; clear hgr4)
  refine norm_up (hK1 _ _ HGR4.out (st_nil fun K2 hK2 => ?_))
  clear hK1 K1
  have hb5 := Blk.grow HB3.out HGR4.out
  have hb6 := Blk.grow HB4.out HGR4.out
  have hl2 : (sealI (p : Int) body).length = 24 := by rw [seal_len, HFN.out]
  have c4 := up_cell (F := fun _ => False) (NBlk.at_ hb5 (j := 4) (by rw [hl2]; omega)) id
  have c5 := up_cell (F := fun _ => False) (NBlk.at_ hb5 (j := 5) (by rw [hl2]; omega)) id
  have c6 := up_cell (F := fun _ => False) (NBlk.at_ hb5 (j := 6) (by rw [hl2]; omega)) id
  have c7 := up_cell (F := fun _ => False) (NBlk.at_ hb5 (j := 7) (by rw [hl2]; omega)) id
  rw [show (sealI (p : Int) body).getD 4 0 = p + 1 from rfl] at c4
  rw [show (sealI (p : Int) body).getD 5 0 = 0 from rfl] at c5
  rw [show (sealI (p : Int) body).getD 6 0 = 90 from rfl] at c6
  rw [show (sealI (p : Int) body).getD 7 0 = 165 from rfl] at c7
  have d8 : ((sealI (p : Int) body).drop 8).take 16 = body := List.take_of_length_le (Nat.le_of_eq HFN.out)
  have s1 := up_run (F := fun _ => False) (P := Try.prog) (w := w4) fun w' hk => (Sl.of_blk (B := w'.heap.size) (Blk.grow hb5 hk) 8 16 (by omega) (Blk.lt (Blk.grow hb5 hk))).str 22 9 5 Try.underlying22 Try.underlying5 Try.underlying9 16
  rw [d8] at s1
  have s2 := up_run (F := fun _ => False) (P := Try.prog) (w := w4) fun w' hk => (Sl.of_blk0 (B := w'.heap.size) (Blk.grow hb6 hk) HFN.out (Blk.lt (Blk.grow hb6 hk))).str 22 9 5 Try.underlying22 Try.underlying5 Try.underlying9 16
  clear hl2 d8 hb5 hb6 hp
  repeat (go_big_quiet_step (fail))
  refine wpQuiet_nil (hK2 _ ?_)
  go_wp2
  go_ret
  exact ⟨rfl, Grow.below (HGA.out.trans HGR4.out)⟩

/-! ### THE ROW's STEP: WRITTEN OUT: LEAVE IT -/
set_option maxRecDepth 100000 in
theorem lifted (os : Os) (started : os.Started) (H : Type) (enc : TypeId × Value → H) :
    ReturnsInHanded {} Try.checked os 6 .any (Rows.pageMarksSpec.pre6 enc Try.prog Try.f6 Rows.pageMarksRow.domain false) (Rows.pageMarksSpec.post enc Try.prog Try.f6 false true false false) := by
  refine returnsInHanded_of_change (C := Try.checked) own started (by kernel_rfl) Try.func6
    (ChangeSpec.witness6 (enc := enc) (C := Try.checked) false ⟨#[], #[.int .i64 0, .int .u8 0, .int .i64 0, .int .u8 0], []⟩ 8 (by kernel_rfl) (by kernel_rfl) (by kernel_rfl) (by kernel_rfl)) ?_
  intro W base args ds gs before hval0 hW hcnd _
  have hval : ∀ (j : Nat) t v, Try.f6.params[j]? = some t → args[j]? = some v → Value.okWide Try.prog W .any base t v := hval0
  have hW' := hW
  obtain ⟨p, q, hA0, hV, rfl, hfz, hnd⟩ := hW
  have hA : DataW.TrodAll enc Try.prog W 0 (fun _ => true) true Try.f6.params.toList args.toList ds p := hA0
  rw [Try.params6] at hA hval
  obtain ⟨v0, vs0, d0, ds0, p0, q0, hargs, rfl, rfl, h0, r0⟩ := trodAll_cons hA
  obtain ⟨v1, vs1, d1, ds1, p1, q1, rfl, rfl, rfl, h1, r1⟩ := trodAll_cons r0
  obtain ⟨v2, vs2, d2, ds2, p2, q2, rfl, rfl, rfl, h2, r2⟩ := trodAll_cons r1
  obtain ⟨v3, vs3, d3, ds3, p3, q3, rfl, rfl, rfl, h3, r3⟩ := trodAll_cons r2
  obtain ⟨rfl, rfl, rfl⟩ := trodAll_nil r3
  obtain rfl : args = #[v0, v1, v2, v3] := by cases args; simp_all
  obtain ⟨rfl, rfl⟩ := trodVars_none hV
  obtain ⟨a0, rfl, rfl, rfl, w0⟩ := open_int Try.underlying3 (hval 0 3 v0 rfl rfl) h0
  obtain ⟨a1, rfl, rfl, rfl, w1⟩ := open_int Try.underlying5 (hval 1 5 v1 rfl rfl) h1
  obtain ⟨a2, rfl, rfl, rfl, w2⟩ := open_int Try.underlying3 (hval 2 3 v2 rfl rfl) h2
  obtain ⟨a3, rfl, rfl, rfl, w3⟩ := open_int Try.underlying5 (hval 3 5 v3 rfl rfl) h3
  clear hA0 hval0
  refine (walk a0 a1 a2 a3 W w0 w1 w2 w3).mono fun e W' ⟨he, bel⟩ => ?_
  subst he
  exact ⟨_, rfl, _, _, _, [], _, [], hW', trodAll_mk1 (shut_bool Try.underlying4 _), (trodAll_cons_mk (shut_int Try.underlying3 w0) (trodAll_cons_mk (shut_int Try.underlying5 w1) (trodAll_cons_mk (shut_int Try.underlying3 w2) (trodAll_cons_mk (shut_int Try.underlying5 w3) trodAll_mk0)))), rfl, bel.frame _, fun h => by cases h⟩

theorem over : Rows.pageMarksRow.holds Try.pinned (OpenSpec.ofChange Rows.pageMarksSpec) :=
  OpenClaim.holds_of_wide 6 Try.f6 rfl rfl rfl rfl rfl rfl rfl ⟨rfl, rfl, rfl, rfl, rfl⟩ rfl rfl rfl rfl rfl (by kernel_rfl) Try.func6 (by kernel_rfl)
    (of_decide_eq_true (by kernel_rfl)) (by unfold Func.isWrapper; first | (rw [if_pos (by decide +kernel)]; kernel_rfl) | (rw [if_neg (by decide +kernel)]; exact ⟨rfl, rfl⟩))
    (fun os started H enc _ => lifted os started H enc)

/-- ████ THE STATEMENT ████ -/
theorem proved : Rows.PageMarksSaid := over
#print axioms proved
end Go.Proofs.Ytmdafgonnkppoaa.pageMarks
