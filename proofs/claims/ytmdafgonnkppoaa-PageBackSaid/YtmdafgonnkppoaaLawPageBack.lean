/-
  For every input the call of lavabolaw2.PageBack returns true and leaves its arguments as they were; no condition.
-/
import Derived.Test.YtmdafgonnkppoaaTold2
import Derived.Deep.Cut
import Derived.Laws.BitsAllLaws
import Derived.Test.YtmdafgonnkppoaaRows
import Derived.WalkKit
import Derived.ProofKit
import Derived.OpenShut
import Derived.ShutString
import Derived.ChangeOld
import Derived.Below
namespace Go.Proofs.Ytmdafgonnkppoaa.pageBack
open Go.ChangeShapes Go.WideShapes Go.ChangeAt Go.RowKit
open Go.ChangeMaps (open_string shut_string)
open Go.Proofs.Ytmdafgonnkppoaa.SumM Go.Proofs.Ytmdafgonnkppoaa.Mem Go.Proofs.Ytmdafgonnkppoaa.SumC Go.Proofs.Ytmdafgonnkppoaa.Blk Go.Proofs.Ytmdafgonnkppoaa.PageM Go.Proofs.Ytmdafgonnkppoaa.PageC Go.Proofs.Ytmdafgonnkppoaa.PageR Go.Proofs.Ytmdafgonnkppoaa.Told2 Go.Proofs.Ytmdafgonnkppoaa.Stages
set_option linter.unusedVariables false

theorem own : ownKnob Try.prog.godebug = none := by kernel_rfl
theorem laidOut : laidOutB Try.prog = true := by kernel_rfl

/-- WHAT THE WALK IS TOLD OF A SLICE OF INTEGERS THAT CAME IN: it is nil; or it leads to a row of 'cap' cells, the numbers 'zs' (the first 'len' are its elements, the rest its spare room), each fitting its kind. -/
def IsRow (k : IntKind) (w : World) (a : Option Addr) (len cap : Nat) (zs : List Int) : Prop :=
  (a = none ∧ len = 0 ∧ cap = 0 ∧ zs = []) ∨
  ∃ x, a = some x ∧ len ≤ cap ∧ cap ≤ maxLen ∧ zs.length = cap ∧ (∀ i, i < zs.length → w.cell? (x.add i) = some (.int k (zs.getD i 0))) ∧ ∀ n ∈ zs, (Lit.int k n).wf = true

/-! ### STEP 1: THE WALK: the Go text returns true, AND WRITES NOTHING THAT WAS THERE: 'Below w.heap.size w w'' (Derived/Below.lean: '.refl', '.alloc', '.drew', '.setCell' at a new block, '.trans'). Open each 'IsRow' by 'rcases' AHEAD of 'go_enter'; part every test ahead of the walk. -/
set_option maxHeartbeats 1000000 in
theorem walk (a0 : Int) (a1 : Int) (a2 : Int) (a3 : Int) (a4 : Int) (a5 : Int) (w : World) (w0 : (Lit.int .i64 a0).wf = true) (w1 : (Lit.int .u8 a1).wf = true) (w2 : (Lit.int .i64 a2).wf = true) (w3 : (Lit.int .u8 a3).wf = true) (w4 : (Lit.int .i64 a4).wf = true) (w5 : (Lit.int .u8 a5).wf = true) :
    Calls Try.prog 4 #[.int .i64 a0, .int .u8 a1, .int .i64 a2, .int .u8 a3, .int .i64 a4, .int .u8 a5] w fun e w' => e = .returned (.bool true) ∧ Below w.heap.size w w' := by
  have k0 := bounds_i64 w0
  have k1 := bounds_u8 w1
  have k2 := bounds_i64 w2
  have k3 := bounds_u8 w3
  have k4 := bounds_i64 w4
  have k5 := bounds_u8 w5
  have u1 : U8 a1 := ⟨by omega, by omega⟩
  have u3 : U8 a3 := ⟨by omega, by omega⟩
  obtain ⟨p, hp, hp48⟩ := tmod_nat a0 48 (by omega)
  obtain ⟨K, hK, hK16⟩ := tmod_nat a2 16 (by omega)
  obtain ⟨W, hW, hW24⟩ := tmod_nat a4 24 (by omega)
  simp only [Int.cast_ofNat_Int] at hp hK hW
  have hp1 : (p : Int) < 48 := by omega
  have hW1 : (W : Int) < 24 := by omega
  have HF := Lib.hid (fun w => fill_any a1 a2 a3 K w u1 u3 hK hK16)
  have hfl := fillL_bytes K u1 u3
  have hfn := fillL_len a1 K a3
  have HFN := Lib.hid hfn
  clear hK hfn
  generalize fillL a1 K a3 = body at HF hfl HFN
  go_enter Try.func4, Try.ntmps4
  go_wp2_with (go_at_call 15; (with_reducible refine (HF.out _).mono ?_); rintro e w1 ⟨g, rfl, hg, hblk, hgr⟩; have HBLK := Lib.hid hblk; have HGR := Lib.hid hgr; clear hblk hgr)
  refine (seal_good p (some ⟨g, 0, none⟩) 16 _ body w1 (by omega) hp1 hfl (Sl.of_blk0 HBLK.out HFN.out (Blk.lt HBLK.out)) (Nat.le_refl _)).mono ?_
  rintro e w2 ⟨g2, rfl, hg2, hblk2, hgr2⟩
  have HBLK2 := Lib.hid hblk2
  have HGR2 : Hid (Grow w w2) := HGR.out.trans hgr2
  clear hblk2 hgr2
  have hl2 : (sealI (p : Int) body).length = 24 := by rw [seal_len, HFN.out]
  have HO := Lib.hid (open_is (open_good p (some ⟨g2, 0, none⟩) 24 _ _ w2 (by omega) hp1 (seal_bytes (by omega) hp1 hfl) (Sl.of_blk0 HBLK2.out hl2 (Blk.lt HBLK2.out)) (Nat.le_refl _) (by omega) (by unfold maxLen; omega)) (openC_seal (by omega) hp1 HFN.out) (openB_seal (by omega) hp1 HFN.out) HFN.out)
  clear hl2
  go_upto_region 6 with (go_at_call 11; (with_reducible refine HO.out.mono ?_); rintro e w3 ⟨g3, c3, rfl, hg3, hblk3, hgr3⟩; have HBLK3 := Lib.hid hblk3; have HGR3 := Lib.hid hgr3; clear hblk3 hgr3)
  have HB3 : Hid (NBlk w3.drew g3 5 .u8 (sealI p body)) := Blk.drew HBLK3.out
  have HB2 : Hid (NBlk w3.drew g2 5 .u8 (sealI p body)) := Blk.drew (Blk.grow HBLK2.out HGR3.out)
  have HG3 : Hid (Grow w w3.drew) := (HGR2.out.trans HGR3.out).drew
  refine wp_region_stages Grow (kept_refl _) (kept_trans _) [([0, 1, 2, 3, 4, 5, 6, 7], 8)] [9, 10, 11] (by kernel_rfl) (by kernel_rfl) ?_
  simp only [selSt, sel, List.map_cons, List.map_nil, List.getD_cons_succ, List.getD_cons_zero]
  have d8 : ((sealI (p : Int) body).drop 8).take 16 = body := List.take_of_length_le (Nat.le_of_eq HFN.out)
  have hl8 : 8 + 16 ≤ (sealI (p : Int) body).length := by rw [seal_len, HFN.out]; omega
  have s1 := up_run (F := fun _ => False) (P := Try.prog) (w := w3.drew) fun w' hk => (Sl.of_blk (B := w'.heap.size) (Blk.grow HB3.out hk) 8 16 hl8 (Blk.lt (Blk.grow HB3.out hk))).str 22 9 5 Try.underlying22 Try.underlying5 Try.underlying9 c3
  rw [d8] at s1
  clear d8 hl8 hp
  refine st_cons fun K1 hK1 => ?_
  repeat (go_big_quiet_step (fail))
  refine wpQuiet_nil ?_
  go_wp2_with (go_at_call 15; (with_reducible refine (HF.out _).mono ?_); rintro e w4 ⟨g4, rfl, hg4, hblk4, hgr4⟩; have HBLK4 := Lib.hid hblk4; have HGR4 := Lib.hid hgr4; clear hblk4 hgr4)
  refine norm_up (hK1 _ _ HGR4.out (st_nil fun K2 hK2 => ?_))
  clear hK1 K1
  have s1 := up_run (F := fun _ => False) (P := Try.prog) (w := w4) fun w' hk => (Sl.of_blk0 (B := w'.heap.size) (Blk.grow HBLK4.out hk) HFN.out (Blk.lt (Blk.grow HBLK4.out hk))).str 22 9 5 Try.underlying22 Try.underlying5 Try.underlying9 16
  repeat (go_big_quiet_step (fail))
  refine wpQuiet_nil (hK2 _ ?_)
  clear hK2 K2 s1
  have hb2 : NBlk w4 g2 5 .u8 (sealI p body) := Blk.grow HB2.out HGR4.out
  have hg2w : w.heap.size ≤ g2 := Nat.le_trans HGR.out.size hg2
  have hl2 : (sealI (p : Int) body).length = 24 := by rw [seal_len, HFN.out]
  have hsb := seal_bytes (id := (p : Int)) (by omega) hp1 hfl
  have hv := hsb _ (getD_mem (k := W) (by omega))
  have u5 : U8 a5 := ⟨by omega, by omega⟩
  have hx := u8_xor ((sealI (p : Int) body).getD W 0) a5 hv.1 hv.2 u5.1 u5.2
  have hc := NBlk.at_ hb2 (j := W) (by omega)
  have hf := Blk.frozenAll hb2
  have hset : NBlk (w4.setCell ⟨g2, W, none⟩ (.int .u8 (xr ((sealI (p : Int) body).getD W 0) a5))) g2 5 .u8 ((sealI p body).set W (xr ((sealI (p : Int) body).getD W 0) a5)) := NBlk.set hb2 W _
  have HGA : Hid (Below w.heap.size w (w4.setCell ⟨g2, W, none⟩ (.int .u8 (xr ((sealI (p : Int) body).getD W 0) a5)))) := Grow.below ((HG3.out.trans HGR4.out).setCell (fun h => absurd h (by show ¬ g2 < _; omega)) _)
  have hbs : Bytes ((sealI (p : Int) body).set W (xr ((sealI (p : Int) body).getD W 0) a5)) := fun x h => by
    rcases List.mem_or_eq_of_mem_set h with h | h
    · exact hsb x h
    · rw [h]; exact xr_u8 hv u5
  have hls : ((sealI (p : Int) body).set W (xr ((sealI (p : Int) body).getD W 0) a5)).length = 24 := by rw [List.length_set, hl2]
  have HOP := Lib.hid (open_good p (some ⟨g2, 0, none⟩) 24 _ _ _ (by omega) hp1 hbs (Sl.of_blk0 hset hls (Blk.lt hset)) (Nat.le_refl _) (by omega) (by unfold maxLen; omega))
  by_cases h5 : a5 = 0
  · subst h5
    have e : (sealI (p : Int) body).set W (xr ((sealI (p : Int) body).getD W 0) 0) = sealI p body := by rw [xr_zero hv, set_getD (by omega)]
    rw [e] at HOP
    have HO1 := Lib.hid (open_is HOP.out (openC_seal (by omega) hp1 HFN.out) (openB_seal (by omega) hp1 HFN.out) HFN.out)
    rw [show ((((sealI (p : Int) body).getD W 0).toNat ^^^ (0 : Int).toNat : Nat) : Int) = xr ((sealI (p : Int) body).getD W 0) 0 from rfl] at hx
    clear e HOP hset hbs hls hv u5 hsb hl2 hb2
    generalize xr ((sealI (p : Int) body).getD W 0) 0 = nv at *
    generalize (sealI (p : Int) body).getD W 0 = v at *
    go_wp2_with (first
      | (go_at_call 11; (with_reducible refine HO1.out.mono ?_); rintro e w5 ⟨g5, c5, rfl, hg5, hblk5, hgr5⟩; have HGR5 := Lib.hid hgr5; clear hblk5 hgr5)
      | (go_at_call 8; (with_reducible refine (told_any _).mono ?_); rintro e w6 ⟨rfl, hgr6⟩; have HGR6 := Lib.hid hgr6; clear hgr6))
    go_ret
    exact ⟨rfl, Below.ofKept (Below.ofKept HGA.out HGR5.out HGA.out.size (fun _ _ x => x)) HGR6.out (Nat.le_trans HGA.out.size HGR5.out.size) (fun _ _ x => x)⟩
  · have HO1 := Lib.hid (open_not HOP.out (open_turned (by omega) hp1 HFN.out hfl hW24 (xr_u8 hv u5) (xr_ne hv u5 h5)) (by omega))
    have hne : (a5 != 0) = true := by simpa [bne_iff_ne] using h5
    rw [show ((((sealI (p : Int) body).getD W 0).toNat ^^^ a5.toNat : Nat) : Int) = xr ((sealI (p : Int) body).getD W 0) a5 from rfl] at hx
    clear HOP hset hbs hls hv u5 hsb hl2 hb2 h5
    generalize xr ((sealI (p : Int) body).getD W 0) a5 = nv at *
    generalize (sealI (p : Int) body).getD W 0 = v at *
    go_wp2_with (first
      | (go_at_call 11; (with_reducible refine HO1.out.mono ?_); rintro e w5 ⟨rfl, hgr5⟩; have HGR5 := Lib.hid hgr5; clear hgr5)
      | (go_at_call 8; (with_reducible refine (told_any _).mono ?_); rintro e w6 ⟨rfl, hgr6⟩; have HGR6 := Lib.hid hgr6; clear hgr6))
    go_ret
    exact ⟨rfl, Below.ofKept (Below.ofKept HGA.out HGR5.out HGA.out.size (fun _ _ x => x)) HGR6.out (Nat.le_trans HGA.out.size HGR5.out.size) (fun _ _ x => x)⟩

/-! ### THE ROW's STEP: WRITTEN OUT: LEAVE IT -/
set_option maxRecDepth 100000 in
theorem lifted (os : Os) (started : os.Started) (H : Type) (enc : TypeId × Value → H) :
    ReturnsInHanded {} Try.checked os 4 .any (Rows.pageBackSpec.pre6 enc Try.prog Try.f4 Rows.pageBackRow.domain false) (Rows.pageBackSpec.post enc Try.prog Try.f4 false true false false) := by
  refine returnsInHanded_of_change (C := Try.checked) own started (by kernel_rfl) Try.func4
    (ChangeSpec.witness6 (enc := enc) (C := Try.checked) false ⟨#[], #[.int .i64 0, .int .u8 0, .int .i64 0, .int .u8 0, .int .i64 0, .int .u8 0], []⟩ 8 (by kernel_rfl) (by kernel_rfl) (by kernel_rfl) (by kernel_rfl)) ?_
  intro W base args ds gs before hval0 hW hcnd _
  have hval : ∀ (j : Nat) t v, Try.f4.params[j]? = some t → args[j]? = some v → Value.okWide Try.prog W .any base t v := hval0
  have hW' := hW
  obtain ⟨p, q, hA0, hV, rfl, hfz, hnd⟩ := hW
  have hA : DataW.TrodAll enc Try.prog W 0 (fun _ => true) true Try.f4.params.toList args.toList ds p := hA0
  rw [Try.params4] at hA hval
  obtain ⟨v0, vs0, d0, ds0, p0, q0, hargs, rfl, rfl, h0, r0⟩ := trodAll_cons hA
  obtain ⟨v1, vs1, d1, ds1, p1, q1, rfl, rfl, rfl, h1, r1⟩ := trodAll_cons r0
  obtain ⟨v2, vs2, d2, ds2, p2, q2, rfl, rfl, rfl, h2, r2⟩ := trodAll_cons r1
  obtain ⟨v3, vs3, d3, ds3, p3, q3, rfl, rfl, rfl, h3, r3⟩ := trodAll_cons r2
  obtain ⟨v4, vs4, d4, ds4, p4, q4, rfl, rfl, rfl, h4, r4⟩ := trodAll_cons r3
  obtain ⟨v5, vs5, d5, ds5, p5, q5, rfl, rfl, rfl, h5, r5⟩ := trodAll_cons r4
  obtain ⟨rfl, rfl, rfl⟩ := trodAll_nil r5
  obtain rfl : args = #[v0, v1, v2, v3, v4, v5] := by cases args; simp_all
  obtain ⟨rfl, rfl⟩ := trodVars_none hV
  obtain ⟨a0, rfl, rfl, rfl, w0⟩ := open_int Try.underlying3 (hval 0 3 v0 rfl rfl) h0
  obtain ⟨a1, rfl, rfl, rfl, w1⟩ := open_int Try.underlying5 (hval 1 5 v1 rfl rfl) h1
  obtain ⟨a2, rfl, rfl, rfl, w2⟩ := open_int Try.underlying3 (hval 2 3 v2 rfl rfl) h2
  obtain ⟨a3, rfl, rfl, rfl, w3⟩ := open_int Try.underlying5 (hval 3 5 v3 rfl rfl) h3
  obtain ⟨a4, rfl, rfl, rfl, w4⟩ := open_int Try.underlying3 (hval 4 3 v4 rfl rfl) h4
  obtain ⟨a5, rfl, rfl, rfl, w5⟩ := open_int Try.underlying5 (hval 5 5 v5 rfl rfl) h5
  clear hA0 hval0
  refine (walk a0 a1 a2 a3 a4 a5 W w0 w1 w2 w3 w4 w5).mono fun e W' ⟨he, bel⟩ => ?_
  subst he
  exact ⟨_, rfl, _, _, _, [], _, [], hW', trodAll_mk1 (shut_bool Try.underlying4 _), (trodAll_cons_mk (shut_int Try.underlying3 w0) (trodAll_cons_mk (shut_int Try.underlying5 w1) (trodAll_cons_mk (shut_int Try.underlying3 w2) (trodAll_cons_mk (shut_int Try.underlying5 w3) (trodAll_cons_mk (shut_int Try.underlying3 w4) (trodAll_cons_mk (shut_int Try.underlying5 w5) trodAll_mk0)))))), rfl, bel.frame _, fun h => by cases h⟩

theorem over : Rows.pageBackRow.holds Try.pinned (OpenSpec.ofChange Rows.pageBackSpec) :=
  OpenClaim.holds_of_wide 4 Try.f4 rfl rfl rfl rfl rfl rfl rfl ⟨rfl, rfl, rfl, rfl, rfl⟩ rfl rfl rfl rfl rfl (by kernel_rfl) Try.func4 (by kernel_rfl)
    (of_decide_eq_true (by kernel_rfl)) (by unfold Func.isWrapper; first | (rw [if_pos (by decide +kernel)]; kernel_rfl) | (rw [if_neg (by decide +kernel)]; exact ⟨rfl, rfl⟩))
    (fun os started H enc _ => lifted os started H enc)

/-- ████ THE STATEMENT ████ -/
theorem proved : Rows.PageBackSaid := over
#print axioms proved
end Go.Proofs.Ytmdafgonnkppoaa.pageBack
