/-
  For every input the call of lavabolaw13.ModelPins returns true and leaves its arguments as they were; no condition.
-/
import Derived.Test.YteiodnclpbjbbaaPmLaw
import Derived.Test.YteiodnclpbjbbaaRows
import Derived.WalkKit
import Derived.ProofKit
import Derived.OpenShut
import Derived.ShutString
import Derived.ChangeOld
import Derived.Below
namespace Go.Proofs.Yteiodnclpbjbbaa.modelPins
open Go.ChangeShapes Go.WideShapes Go.ChangeAt Go.RowKit
open Go.ChangeMaps (open_string shut_string)
open Go.Proofs.Yteiodnclpbjbbaa.Mem Go.Proofs.Yteiodnclpbjbbaa.Blk Go.Proofs.Yteiodnclpbjbbaa.Cells Go.Proofs.Yteiodnclpbjbbaa.Orow Go.Proofs.Yteiodnclpbjbbaa.GrC Go.Proofs.Yteiodnclpbjbbaa.MdM Go.Proofs.Yteiodnclpbjbbaa.MdC Go.Proofs.Yteiodnclpbjbbaa.MdD Go.Proofs.Yteiodnclpbjbbaa.PmC Go.Proofs.Yteiodnclpbjbbaa.PmM Go.Proofs.Yteiodnclpbjbbaa.PmS Go.Proofs.Yteiodnclpbjbbaa.PmE Go.Proofs.Yteiodnclpbjbbaa.PmN Go.Proofs.Yteiodnclpbjbbaa.PmF Go.Proofs.Yteiodnclpbjbbaa.Law13 Go.Proofs.Yteiodnclpbjbbaa.Told13 Go.Proofs.Yteiodnclpbjbbaa.Stages
set_option linter.unusedVariables false

theorem own : ownKnob Try.prog.godebug = none := by kernel_rfl
theorem laidOut : laidOutB Try.prog = true := by kernel_rfl

/-- WHAT THE WALK IS TOLD OF A SLICE OF INTEGERS THAT CAME IN: it is nil; or it leads to a row of 'cap' cells, the numbers 'zs' (the first 'len' are its elements, the rest its spare room), each fitting its kind. -/
def IsRow (k : IntKind) (w : World) (a : Option Addr) (len cap : Nat) (zs : List Int) : Prop :=
  (a = none ∧ len = 0 ∧ cap = 0 ∧ zs = []) ∨
  ∃ x, a = some x ∧ len ≤ cap ∧ cap ≤ maxLen ∧ zs.length = cap ∧ (∀ i, i < zs.length → w.cell? (x.add i) = some (.int k (zs.getD i 0))) ∧ ∀ n ∈ zs, (Lit.int k n).wf = true

/-! ### STEP 1: THE WALK: the Go text returns true, AND WRITES NOTHING THAT WAS THERE: 'Below w.heap.size w w'' (Derived/Below.lean: '.refl', '.alloc', '.drew', '.setCell' at a new block, '.trans'). Open each 'IsRow' by 'rcases' AHEAD of 'go_enter'; part every test ahead of the walk. -/
set_option maxHeartbeats 8000000 in
set_option maxRecDepth 100000 in
theorem walk (a0 : Int) (a1 : Int) (w : World) (w0 : (Lit.int .i64 a0).wf = true) (w1 : (Lit.int .i64 a1).wf = true) :
    Calls Try.prog 9 #[.int .i64 a0, .int .i64 a1] w fun e w' => e = .returned (.bool true) ∧ Below w.heap.size w w' := by
  obtain ⟨k, hK, hK13⟩ := tmod_nat a0 13 (by omega)
  simp only [Int.cast_ofNat_Int] at hK
  obtain ⟨M, hM, hM14⟩ := tmod_nat a1 14 (by omega)
  simp only [Int.cast_ofNat_Int] at hM
  have CN : Hid (Calls Try.prog 11 #[.int .i64 2, .int .i64 2] w (NewP 2 2 w)) := new_any 2 2 (by omega) (by omega) (by omega) (by omega) w
  have HK13 := Lib.hid hK13
  have hkz : (k : Int) ≤ 12 := by omega
  have hmz : (M : Int) ≤ 13 := by omega
  clear hK13 hM14
  go_enter Try.func9, Try.ntmps9
  go_upto_region 3 with (go_at_call 11; (with_reducible refine CN.out.mono ?_); rintro e wk ⟨v, rfl, hpa, hg⟩; obtain ⟨AT, cT, AB, cB, AH, cH, rfl⟩ := pat_form hpa; have HPA := Lib.hid hpa; have HGC := Lib.hid hg; clear hpa hg)
  obtain ⟨hs1, hs3⟩ := sb_new HPA.out
  have hgk := HGC.out.trans hs3
  have hmw := HGC.out.size
  obtain ⟨m, hbk⟩ : ∃ m, m = wk.heap.size := ⟨_, rfl⟩
  rw [← hbk] at hs1 hmw ⊢
  have HMW := Lib.hid hmw
  clear hbk hs3 HPA HGC CN hmw
  generalize wk.alloc (.cells #[.slice AT (fresh 2 2).n cT, .slice AB (fresh 2 2).n cB, .slice AH (fresh 2 2).N cH] 28) = w0 at hs1 hgk ⊢
  have HS0 : Hid (SB w0 m m (fresh 2 2)) := hs1
  have HG0 := Lib.hid hgk
  have HML : Hid (m < w0.heap.size) := hs1.lt
  clear hs1 hgk
  obtain ⟨BT0, bt0, ct0, BB0, bb0, cb0, BH0, bh0, ch0, hbx, hpx⟩ := HS0.out
  have z0 := hbx.cell 0
  have z1 := hbx.cell 1
  have z2 := hbx.cell 2
  simp only [List.getElem?_cons_zero, List.getElem?_cons_succ] at z0 z1 z2
  have HP0 := Lib.hid hpx
  clear hbx hpx
  obtain ⟨xm, ym, zm, hbm⟩ := HS0.out.box
  have HBM := Lib.hid hbm
  clear hbm
  go_upto_region 4 with (go_at_call 12; (with_reducible refine (t_do0 HP0.out 0 1 0 0 0 0 (by omega) pq_new).mono ?_); rintro e wk ⟨AT, nT, cT, AB, nB, cB, AH, nH, cH, A1, n1, cap1, rfl, hpa, hre, hg⟩; have HPA := Lib.hid hpa; have HRE1 := Lib.hid hre; have HGC := Lib.hid hg; have hbm := HBM.out.grow hg; have y0 := hbm.cell 0; have y1 := hbm.cell 1; have y2 := hbm.cell 2; have yf := hbm.frozen; simp only [List.getElem?_cons_zero, List.getElem?_cons_succ] at y0 y1 y2; have HBN := Lib.hid hbm; clear hpa hre hg hbm)
  clear z0 z1 z2 y0 y1 y2 yf
  obtain ⟨hs1, hk1⟩ := sb_put (HPA.out.mono (X := fun k => k ≠ m) fun k _ (x : w0.heap.size ≤ k) => Nat.ne_of_gt (Nat.lt_of_lt_of_le (HML.out) x)) HBN.out
  have HK1 := Lib.hid ((Grow.kept (F := fun k => k = m) HGC.out).trans hk1)
  generalize ((wk.setCell ⟨m, 0, none⟩ (.slice AT nT cT)).setCell ⟨m, 1, none⟩ (.slice AB nB cB)).setCell ⟨m, 2, none⟩ (.slice AH nH cH) = w1 at hs1 HK1 ⊢
  have HS1 := Lib.hid hs1
  clear hs1 hk1 HBM HBN HPA HGC
  have HML1 : Hid (m < w1.heap.size) := Nat.lt_of_lt_of_le HML.out HK1.out.size
  obtain ⟨BT1, bt1, ct1, BB1, bb1, cb1, BH1, bh1, ch1, hbx, hpx⟩ := HS1.out
  have z0 := hbx.cell 0
  have z1 := hbx.cell 1
  have z2 := hbx.cell 2
  simp only [List.getElem?_cons_zero, List.getElem?_cons_succ] at z0 z1 z2
  have HP1 := Lib.hid hpx
  clear hbx hpx
  obtain ⟨xm, ym, zm, hbm⟩ := HS1.out.box
  have HBM := Lib.hid hbm
  clear hbm
  go_upto_region 5 with (go_at_call 12; (with_reducible refine (t_do0 HP1.out 0 5 0 0 0 0 (by omega) pq_back).mono ?_); rintro e wk ⟨AT, nT, cT, AB, nB, cB, AH, nH, cH, A2, n2, cap2, rfl, hpa, hre, hg⟩; have HPA := Lib.hid hpa; have HRE2 := Lib.hid hre; have HGC := Lib.hid hg; have hbm := HBM.out.grow hg; have y0 := hbm.cell 0; have y1 := hbm.cell 1; have y2 := hbm.cell 2; have yf := hbm.frozen; simp only [List.getElem?_cons_zero, List.getElem?_cons_succ] at y0 y1 y2; have HBN := Lib.hid hbm; clear hpa hre hg hbm)
  clear z0 z1 z2 y0 y1 y2 yf
  obtain ⟨hs1, hk1⟩ := sb_put (HPA.out.mono (X := fun k => k ≠ m) fun k _ (x : w1.heap.size ≤ k) => Nat.ne_of_gt (Nat.lt_of_lt_of_le (HML1.out) x)) HBN.out
  have HK2 := Lib.hid ((Grow.kept (F := fun k => k = m) HGC.out).trans hk1)
  generalize ((wk.setCell ⟨m, 0, none⟩ (.slice AT nT cT)).setCell ⟨m, 1, none⟩ (.slice AB nB cB)).setCell ⟨m, 2, none⟩ (.slice AH nH cH) = w2 at hs1 HK2 ⊢
  have HS2 := Lib.hid hs1
  clear hs1 hk1 HBM HBN HPA HGC
  have HML2 : Hid (m < w2.heap.size) := Nat.lt_of_lt_of_le HML1.out HK2.out.size
  have HG2 : Hid (Grow w w2) := HG0.out.then (HK1.out.trans HK2.out) fun x hx e => by have e : x = m := e; have := HMW.out; omega
  have hksub : (k : Int) ≤ 12 := hkz
  go_wp2
  go_loopg [7] k (fun gx i wr => ∃ j : Nat, j + gx = k ∧ i = .int .i64 (j : Int) ∧ SB wr m m (PQ 0 j) ∧ Grow w wr ∧ m < wr.heap.size)
  case atStart => exact ⟨0, by omega, rfl, HS2.out, HG2.out, HML2.out⟩
  case round =>
    clear HS0 HG0 HML HS1 HS2 HG2 HML1 HML2 HK1 HK2
    obtain ⟨j, hg, rfl, hs, hgr, hml⟩ := hrel
    obtain ⟨w0, rfl⟩ : ∃ w0, w0 = wr := ⟨_, rfl⟩
    have HG := Lib.hid hg
    have HS0 := Lib.hid hs
    have HG0 := Lib.hid hgr
    have HML := Lib.hid hml
    clear hg hs hgr hml
    by_cases hj : j < k
    · have hjz : (j : Int) < (k : Int) := by omega
      have HJ := Lib.hid hj
      obtain ⟨pc, hpc⟩ : ∃ c : Nat, c = j % 2 := ⟨_, rfl⟩
      obtain ⟨pq, hpq⟩ : ∃ q : Nat, q = j / 2 := ⟨_, rfl⟩
      have E1 := Lib.hid (pq_fetch (i := j) hpc hpq (by have := HK13.out; omega))
      have hrem : (j : Int).tmod 2 = (pc : Int) := by rw [IntWalk.rem_in _ _ (by omega)]; omega
      have hquo : (j : Int).tdiv 2 = (pq : Int) := by rw [Int.tdiv_eq_ediv_of_nonneg (by omega)]; omega
      have hpc1 : (pc : Int) ≤ 1 := by omega
      have hpq1 : (pq : Int) ≤ 5 := by omega
      clear hj hpc hpq
      obtain ⟨BT0, bt0, ct0, BB0, bb0, cb0, BH0, bh0, ch0, hbx, hpx⟩ := HS0.out
      have z0 := hbx.cell 0
      have z1 := hbx.cell 1
      have z2 := hbx.cell 2
      simp only [List.getElem?_cons_zero, List.getElem?_cons_succ] at z0 z1 z2
      have HP0 := Lib.hid hpx
      clear hbx hpx
      go_upto_region 9 with (go_at_call 12; (with_reducible refine (t_do0 HP0.out (pc : Int) 2 0 0 0 0 (by omega) E1.out).mono ?_); rintro e wk ⟨AT, nT, cT, AB, nB, cB, AH, nH, cH, A1, n1, cap1, rfl, hpa, hre, hg⟩; have HPA := Lib.hid hpa; have HRE1 := Lib.hid hre; have HGC := Lib.hid hg; clear hpa hre hg)
      clear z0 z1 z2
      obtain ⟨hs1, hs2, hs3⟩ := sb_step HPA.out (m := m) (HML.out) 0 0 (pq : Int) A1 n1 cap1
      have hzs := sl_grow HRE1.out.1 hs3
      have hgk : Grow w0 ((wk.alloc (.cells #[.slice AT nT cT, .slice AB nB cB, .slice AH nH cH] 28)).alloc (.cells #[.int .i64 0, .int .i64 0, .int .i64 (pq : Int), .slice A1 n1 cap1] 31)) := HGC.out.trans hs3
      obtain ⟨b1, hbk⟩ : ∃ b1, b1 = wk.heap.size := ⟨_, rfl⟩
      rw [← hbk] at hs1 hs2 ⊢
      have hmb : m < b1 := by
        have h1 : m < w0.heap.size := HML.out
        have h2 := HGC.out.size
        omega
      have HMB1 := Lib.hid hmb
      clear hbk hs3 HPA HGC hmb
      generalize ((wk.alloc (.cells #[.slice AT nT cT, .slice AB nB cB, .slice AH nH cH] 28)).alloc (.cells #[.int .i64 0, .int .i64 0, .int .i64 (pq : Int), .slice A1 n1 cap1] 31)) = w1 at hs1 hs2 hzs hgk ⊢
      have HS1 := Lib.hid hs1
      have HR1 := Lib.hid hs2
      have HD1 := Lib.hid hzs
      have HG1 := Lib.hid hgk
      clear hs1 hs2 hzs hgk
      have HML1 : Hid (m < w1.heap.size) := Nat.lt_of_lt_of_le HML.out HG1.out.size
      have HSM := Lib.hid (HS0.out.grow HG1.out)
      have r0 := HR1.out.cell 0
      have r1 := HR1.out.cell 1
      have r2 := HR1.out.cell 2
      simp only [List.getElem?_cons_zero, List.getElem?_cons_succ] at r0 r1 r2
      go_upto_region 11 with (fail)
      clear r0 r1 r2 hrem hquo
      obtain ⟨BT1, bt1, ct1, BB1, bb1, cb1, BH1, bh1, ch1, hbx, hpx⟩ := HS1.out
      have z0 := hbx.cell 0
      have z1 := hbx.cell 1
      have z2 := hbx.cell 2
      simp only [List.getElem?_cons_zero, List.getElem?_cons_succ] at z0 z1 z2
      have HP1 := Lib.hid hpx
      clear hbx hpx
      obtain ⟨xm, ym, zm, hbm⟩ := HSM.out.box
      have HBM := Lib.hid hbm
      have y0 := hbm.cell 0
      have y1 := hbm.cell 1
      have y2 := hbm.cell 2
      have yf := hbm.frozen
      simp only [List.getElem?_cons_zero, List.getElem?_cons_succ] at y0 y1 y2
      clear hbm
      go_wp2
      clear z0 z1 z2 y0 y1 y2 yf
      obtain ⟨hs1, hk1⟩ := sb_put HP1.out HBM.out
      generalize ((w1.setCell ⟨m, 0, none⟩ (.slice BT1 bt1 ct1)).setCell ⟨m, 1, none⟩ (.slice BB1 bb1 cb1)).setCell ⟨m, 2, none⟩ (.slice BH1 bh1 ch1) = w2 at hs1 hk1 ⊢
      have HS2 := Lib.hid hs1
      have HK2 := Lib.hid hk1
      clear hs1 hk1 HBM
      go_roundg (gk - 1)
      case measure => have := HG.out; have := HJ.out; omega
      case rel => exact ⟨j + 1, by have := HG.out; have := HJ.out; omega, by go_num, HS2.out, (HG0.out.trans HG1.out).then HK2.out fun y hk e => by have e : y = m := e; have := HMW.out; omega, HS2.out.lt⟩
    · obtain rfl : j = k := by have := HG.out; omega
      obtain ⟨fc, fh, fU, hE, hfc⟩ := pq_full (k := j) (by have := HK13.out; omega)
      have E1 := Lib.hid hE
      have HFC := Lib.hid hfc
      clear hj hE hfc HG
      go_upto_region 12 with (fail)
      obtain ⟨BT0, bt0, ct0, BB0, bb0, cb0, BH0, bh0, ch0, hbx, hpx⟩ := HS0.out
      have z0 := hbx.cell 0
      have z1 := hbx.cell 1
      have z2 := hbx.cell 2
      simp only [List.getElem?_cons_zero, List.getElem?_cons_succ] at z0 z1 z2
      have HP0 := Lib.hid hpx
      clear hbx hpx
      go_upto_region 13 with (go_at_call 12; (with_reducible refine (t_do0 HP0.out 0 2 0 0 0 0 (by omega) E1.out).mono ?_); rintro e wk ⟨AT, nT, cT, AB, nB, cB, AH, nH, cH, A1, n1, cap1, rfl, hpa, hre, hg⟩; have HPA := Lib.hid hpa; have HRE1 := Lib.hid hre; have HGC := Lib.hid hg; clear hpa hre hg)
      clear z0 z1 z2
      obtain ⟨hs1, hs2, hs3⟩ := sb_step HPA.out (m := m) (HML.out) fc 0 fh A1 n1 cap1
      have hzs := sl_grow HRE1.out.1 hs3
      have hgk : Grow w0 ((wk.alloc (.cells #[.slice AT nT cT, .slice AB nB cB, .slice AH nH cH] 28)).alloc (.cells #[.int .i64 fc, .int .i64 0, .int .i64 fh, .slice A1 n1 cap1] 31)) := HGC.out.trans hs3
      obtain ⟨b1, hbk⟩ : ∃ b1, b1 = wk.heap.size := ⟨_, rfl⟩
      rw [← hbk] at hs1 hs2 ⊢
      have hmb : m < b1 := by
        have h1 : m < w0.heap.size := HML.out
        have h2 := HGC.out.size
        omega
      have HMB1 := Lib.hid hmb
      clear hbk hs3 HPA HGC hmb
      generalize ((wk.alloc (.cells #[.slice AT nT cT, .slice AB nB cB, .slice AH nH cH] 28)).alloc (.cells #[.int .i64 fc, .int .i64 0, .int .i64 fh, .slice A1 n1 cap1] 31)) = w1 at hs1 hs2 hzs hgk ⊢
      have HS1 := Lib.hid hs1
      have HR1 := Lib.hid hs2
      have HD1 := Lib.hid hzs
      have HG1 := Lib.hid hgk
      clear hs1 hs2 hzs hgk
      have HML1 : Hid (m < w1.heap.size) := Nat.lt_of_lt_of_le HML.out HG1.out.size
      have HS1 := Lib.hid (HS0.out.grow HG1.out)
      have HG1 := Lib.hid (HG0.out.trans HG1.out)
      clear HS0 HG0
      rcases Nat.lt_or_ge M j with hle | hle
      · have hlz : (M : Int) ≤ 12 := by omega
        have hle2 : (M : Int) < (j : Int) := by omega
        have HLJ : Hid (M ≤ j) := by show M ≤ j; omega
        have HJ12 : Hid (j ≤ 12) := by have := HK13.out; show j ≤ 12; omega
        clear hle
        go_wp2
        clear hle2
        go_loopg [13] M (fun gx i wr => ∃ i' : Nat, i' + gx = M ∧ i = .int .i64 (i' : Int) ∧ SB wr m m (PQ i' j) ∧ Kept (fun x => x = m) w1 wr)
        case atStart => exact ⟨0, by omega, rfl, HS1.out, Kept.refl _ _⟩
        case round =>
          clear HS1
          obtain ⟨i', hg, rfl, hs, hk⟩ := hrel
          obtain ⟨w5, rfl⟩ : ∃ w5, w5 = wr := ⟨_, rfl⟩
          have HG := Lib.hid hg
          have HS5 := Lib.hid hs
          have HK5 := Lib.hid hk
          have HML5 : Hid (m < w5.heap.size) := hs.lt
          clear hg hs hk
          by_cases hj : i' < M
          · have hjz : (i' : Int) < (M : Int) := by omega
            have HJ := Lib.hid hj
            obtain ⟨pc, hpc⟩ : ∃ c : Nat, c = i' % 2 := ⟨_, rfl⟩
            obtain ⟨pq, hpq⟩ : ∃ q : Nat, q = i' / 2 := ⟨_, rfl⟩
            have E2 := Lib.hid (pq_unpin (i := i') (k := j) hpc hpq (by have := HLJ.out; omega) HJ12.out)
            have hrem : (i' : Int).tmod 2 = (pc : Int) := by rw [IntWalk.rem_in _ _ (by omega)]; omega
            have hquo : (i' : Int).tdiv 2 = (pq : Int) := by rw [Int.tdiv_eq_ediv_of_nonneg (by omega)]; omega
            have hpc1 : (pc : Int) ≤ 1 := by omega
            have hpq1 : (pq : Int) ≤ 5 := by omega
            clear hj hpc hpq
            obtain ⟨BT5, bt5, ct5, BB5, bb5, cb5, BH5, bh5, ch5, hbx, hpx⟩ := HS5.out
            have z0 := hbx.cell 0
            have z1 := hbx.cell 1
            have z2 := hbx.cell 2
            simp only [List.getElem?_cons_zero, List.getElem?_cons_succ] at z0 z1 z2
            have HP5 := Lib.hid hpx
            clear hbx hpx
            go_upto_region 18 with (go_at_call 12; (with_reducible refine (t_do0 HP5.out (pc : Int) 5 0 (pq : Int) 0 0 (by omega) E2.out).mono ?_); rintro e wk ⟨AT, nT, cT, AB, nB, cB, AH, nH, cH, A6, n6, cap6, rfl, hpa, hre, hg⟩; have HPA := Lib.hid hpa; have HRE6 := Lib.hid hre; have HGC := Lib.hid hg; clear hpa hre hg)
            clear z0 z1 z2
            obtain ⟨hs1, hs2, hs3⟩ := sb_step HPA.out (m := m) (HML5.out) 0 0 0 A6 n6 cap6
            have hzs := sl_grow HRE6.out.1 hs3
            have hgk : Grow w5 ((wk.alloc (.cells #[.slice AT nT cT, .slice AB nB cB, .slice AH nH cH] 28)).alloc (.cells #[.int .i64 0, .int .i64 0, .int .i64 0, .slice A6 n6 cap6] 31)) := HGC.out.trans hs3
            obtain ⟨b6, hbk⟩ : ∃ b6, b6 = wk.heap.size := ⟨_, rfl⟩
            rw [← hbk] at hs1 hs2 ⊢
            have hmb : m < b6 := by
              have h1 : m < w5.heap.size := HML5.out
              have h2 := HGC.out.size
              omega
            have HMB6 := Lib.hid hmb
            clear hbk hs3 HPA HGC hmb
            generalize ((wk.alloc (.cells #[.slice AT nT cT, .slice AB nB cB, .slice AH nH cH] 28)).alloc (.cells #[.int .i64 0, .int .i64 0, .int .i64 0, .slice A6 n6 cap6] 31)) = w6 at hs1 hs2 hzs hgk ⊢
            have HS6 := Lib.hid hs1
            have HR6 := Lib.hid hs2
            have HD6 := Lib.hid hzs
            have HG6 := Lib.hid hgk
            clear hs1 hs2 hzs hgk
            have HML6 : Hid (m < w6.heap.size) := Nat.lt_of_lt_of_le HML5.out HG6.out.size
            have HSM := Lib.hid (HS5.out.grow HG6.out)
            have r0 := HR6.out.cell 0
            simp only [List.getElem?_cons_zero, List.getElem?_cons_succ] at r0
            go_upto_region 20 with (fail)
            clear r0 hrem hquo
            obtain ⟨BT6, bt6, ct6, BB6, bb6, cb6, BH6, bh6, ch6, hbx, hpx⟩ := HS6.out
            have z0 := hbx.cell 0
            have z1 := hbx.cell 1
            have z2 := hbx.cell 2
            simp only [List.getElem?_cons_zero, List.getElem?_cons_succ] at z0 z1 z2
            have HP6 := Lib.hid hpx
            clear hbx hpx
            obtain ⟨xm, ym, zm, hbm⟩ := HSM.out.box
            have HBM := Lib.hid hbm
            have y0 := hbm.cell 0
            have y1 := hbm.cell 1
            have y2 := hbm.cell 2
            have yf := hbm.frozen
            simp only [List.getElem?_cons_zero, List.getElem?_cons_succ] at y0 y1 y2
            clear hbm
            go_wp2
            clear z0 z1 z2 y0 y1 y2 yf
            obtain ⟨hs1, hk1⟩ := sb_put HP6.out HBM.out
            generalize ((w6.setCell ⟨m, 0, none⟩ (.slice BT6 bt6 ct6)).setCell ⟨m, 1, none⟩ (.slice BB6 bb6 cb6)).setCell ⟨m, 2, none⟩ (.slice BH6 bh6 ch6) = w7 at hs1 hk1 ⊢
            have HS7 := Lib.hid hs1
            have HK7 := Lib.hid hk1
            clear hs1 hk1 HBM
            go_roundg (gk - 1)
            case measure => have := HG.out; have := HJ.out; omega
            case rel => exact ⟨i' + 1, by have := HG.out; have := HJ.out; omega, by go_num, HS7.out, (HK5.out.trans (Grow.kept HG6.out)).trans HK7.out⟩
          · obtain rfl : i' = M := by have := HG.out; omega
            obtain ⟨dc, dU, hE, hdc⟩ := pq_del (k := j) HJ12.out HLJ.out
            have E3 := Lib.hid hE
            have HDC := Lib.hid hdc
            clear hj hE hdc HG
            go_upto_region 21 with (fail)
            obtain ⟨BT5, bt5, ct5, BB5, bb5, cb5, BH5, bh5, ch5, hbx, hpx⟩ := HS5.out
            have z0 := hbx.cell 0
            have z1 := hbx.cell 1
            have z2 := hbx.cell 2
            simp only [List.getElem?_cons_zero, List.getElem?_cons_succ] at z0 z1 z2
            have HP5 := Lib.hid hpx
            clear hbx hpx
            go_upto_region 22 with (go_at_call 12; (with_reducible refine (t_do0 HP5.out 1 8 0 0 0 0 (by omega) E3.out).mono ?_); rintro e wk ⟨AT, nT, cT, AB, nB, cB, AH, nH, cH, A6, n6, cap6, rfl, hpa, hre, hg⟩; have HPA := Lib.hid hpa; have HRE6 := Lib.hid hre; have HGC := Lib.hid hg; clear hpa hre hg)
            clear z0 z1 z2
            obtain ⟨hs1, hs2, hs3⟩ := sb_step HPA.out (m := m) (HML5.out) dc 0 0 A6 n6 cap6
            have hzs := sl_grow HRE6.out.1 hs3
            have hgk : Grow w5 ((wk.alloc (.cells #[.slice AT nT cT, .slice AB nB cB, .slice AH nH cH] 28)).alloc (.cells #[.int .i64 dc, .int .i64 0, .int .i64 0, .slice A6 n6 cap6] 31)) := HGC.out.trans hs3
            obtain ⟨b6, hbk⟩ : ∃ b6, b6 = wk.heap.size := ⟨_, rfl⟩
            rw [← hbk] at hs1 hs2 ⊢
            have hmb : m < b6 := by
              have h1 : m < w5.heap.size := HML5.out
              have h2 := HGC.out.size
              omega
            have HMB6 := Lib.hid hmb
            clear hbk hs3 HPA HGC hmb
            generalize ((wk.alloc (.cells #[.slice AT nT cT, .slice AB nB cB, .slice AH nH cH] 28)).alloc (.cells #[.int .i64 dc, .int .i64 0, .int .i64 0, .slice A6 n6 cap6] 31)) = w6 at hs1 hs2 hzs hgk ⊢
            have HS6 := Lib.hid hs1
            have HR6 := Lib.hid hs2
            have HD6 := Lib.hid hzs
            have HG6 := Lib.hid hgk
            clear hs1 hs2 hzs hgk
            have HRF := Lib.hid ((HR1.out.kept HK5.out (fun e => by have e : b1 + 1 = m := e; have := HMB1.out; omega)).grow HG6.out)
            have HS6' := Lib.hid (HS5.out.grow HG6.out)
            clear HS6
            have HS6 := HS6'
            obtain ⟨BT6, bt6, ct6, BB6, bb6, cb6, BH6, bh6, ch6, hbx, hpx⟩ := HS6.out
            have z0 := hbx.cell 0
            have z1 := hbx.cell 1
            have z2 := hbx.cell 2
            simp only [List.getElem?_cons_zero, List.getElem?_cons_succ] at z0 z1 z2
            have HP6 := Lib.hid hpx
            clear hbx hpx
            have ra := HRF.out.cell 0
            have rb := HR6.out.cell 0
            simp only [List.getElem?_cons_zero, List.getElem?_cons_succ] at ra rb
            have HFIN : Hid (Grow w w6) := (HG1.out.then HK5.out fun x hx e => by have e : x = m := e; have := HMW.out; omega).trans HG6.out
            have HPI : Hid (((PQ i' j).pins 0 : Int) = (j : Int) - (i' : Int)) := by
              have := pq_pins HJ12.out HLJ.out
              show ((PQ i' j).pins 0 : Int) = (j : Int) - (i' : Int)
              rw [this]
              have := HLJ.out
              omega
            have hsub : (0 : Int) ≤ (j : Int) - (i' : Int) := by have := HLJ.out; omega
            rcases HFC.out with ⟨rfl, h10⟩ | ⟨rfl, h10⟩
            · have h10z : 10 < (j : Int) := by omega
              clear h10
              rcases HDC.out with ⟨rfl, hjm⟩ | ⟨rfl, hjm⟩
              · have hjb : ((j : Int) == (i' : Int)) = true := by simp <;> omega
                clear hjm
                go_wp2_with (first
                  | (go_at_call 10; (with_reducible refine (told_any _).mono ?_); rintro e wt ⟨rfl, hge⟩; have ra := hge.cellN ra id; have rb := hge.cellN rb id; have z0 := hge.cellN z0 id; have z1 := hge.cellN z1 id; have z2 := hge.cellN z2 id; have HGE := Lib.hid hge; clear hge)
                  | (go_at_call 22; (with_reducible refine (t_pins (HP6.out.grow HGE.out) 0 HPI.out).mono ?_); rintro e wp ⟨rfl, hge⟩; have ra := hge.cellN ra id; have rb := hge.cellN rb id; have HGP := Lib.hid hge; clear hge))
                go_ret
                refine ⟨?_, Grow.below ((HFIN.out.trans HGE.out).trans HGP.out)⟩
                first
                  | rfl
                  | (show Ending.returned (.bool (!decide (10 < (j : Int)))) = _; rw [hd10]; rfl)
              · have hjb : ((j : Int) == (i' : Int)) = false := by simp <;> omega
                clear hjm
                go_wp2_with (first
                  | (go_at_call 10; (with_reducible refine (told_any _).mono ?_); rintro e wt ⟨rfl, hge⟩; have ra := hge.cellN ra id; have rb := hge.cellN rb id; have z0 := hge.cellN z0 id; have z1 := hge.cellN z1 id; have z2 := hge.cellN z2 id; have HGE := Lib.hid hge; clear hge)
                  | (go_at_call 22; (with_reducible refine (t_pins (HP6.out.grow HGE.out) 0 HPI.out).mono ?_); rintro e wp ⟨rfl, hge⟩; have ra := hge.cellN ra id; have rb := hge.cellN rb id; have HGP := Lib.hid hge; clear hge))
                go_ret
                refine ⟨?_, Grow.below ((HFIN.out.trans HGE.out).trans HGP.out)⟩
                first
                  | rfl
                  | (show Ending.returned (.bool (!decide (10 < (j : Int)))) = _; rw [hd10]; rfl)
            · have h10z : (j : Int) ≤ 10 := by omega
              have hd10 : decide (10 < (j : Int)) = false := decide_eq_false (by omega)
              clear h10
              rcases HDC.out with ⟨rfl, hjm⟩ | ⟨rfl, hjm⟩
              · have hjb : ((j : Int) == (i' : Int)) = true := by simp <;> omega
                clear hjm
                go_wp2_with (first
                  | (go_at_call 10; (with_reducible refine (told_any _).mono ?_); rintro e wt ⟨rfl, hge⟩; have ra := hge.cellN ra id; have rb := hge.cellN rb id; have z0 := hge.cellN z0 id; have z1 := hge.cellN z1 id; have z2 := hge.cellN z2 id; have HGE := Lib.hid hge; clear hge)
                  | (go_at_call 22; (with_reducible refine (t_pins (HP6.out.grow HGE.out) 0 HPI.out).mono ?_); rintro e wp ⟨rfl, hge⟩; have ra := hge.cellN ra id; have rb := hge.cellN rb id; have HGP := Lib.hid hge; clear hge))
                go_ret
                refine ⟨?_, Grow.below ((HFIN.out.trans HGE.out).trans HGP.out)⟩
                first
                  | rfl
                  | (show Ending.returned (.bool (!decide (10 < (j : Int)))) = _; rw [hd10]; rfl)
              · have hjb : ((j : Int) == (i' : Int)) = false := by simp <;> omega
                clear hjm
                go_wp2_with (first
                  | (go_at_call 10; (with_reducible refine (told_any _).mono ?_); rintro e wt ⟨rfl, hge⟩; have ra := hge.cellN ra id; have rb := hge.cellN rb id; have z0 := hge.cellN z0 id; have z1 := hge.cellN z1 id; have z2 := hge.cellN z2 id; have HGE := Lib.hid hge; clear hge)
                  | (go_at_call 22; (with_reducible refine (t_pins (HP6.out.grow HGE.out) 0 HPI.out).mono ?_); rintro e wp ⟨rfl, hge⟩; have ra := hge.cellN ra id; have rb := hge.cellN rb id; have HGP := Lib.hid hge; clear hge))
                go_ret
                refine ⟨?_, Grow.below ((HFIN.out.trans HGE.out).trans HGP.out)⟩
                first
                  | rfl
                  | (show Ending.returned (.bool (!decide (10 < (j : Int)))) = _; rw [hd10]; rfl)
      · have hlz : (j : Int) ≤ 12 := by omega
        have hle2 : (j : Int) ≤ (M : Int) := by omega
        have HLJ : Hid (j ≤ j) := by show j ≤ j; omega
        have HJ12 : Hid (j ≤ 12) := by have := HK13.out; show j ≤ 12; omega
        clear hle
        go_wp2
        clear hle2
        go_loopg [13] j (fun gx i wr => ∃ i' : Nat, i' + gx = j ∧ i = .int .i64 (i' : Int) ∧ SB wr m m (PQ i' j) ∧ Kept (fun x => x = m) w1 wr)
        case atStart => exact ⟨0, by omega, rfl, HS1.out, Kept.refl _ _⟩
        case round =>
          clear HS1
          obtain ⟨i', hg, rfl, hs, hk⟩ := hrel
          obtain ⟨w5, rfl⟩ : ∃ w5, w5 = wr := ⟨_, rfl⟩
          have HG := Lib.hid hg
          have HS5 := Lib.hid hs
          have HK5 := Lib.hid hk
          have HML5 : Hid (m < w5.heap.size) := hs.lt
          clear hg hs hk
          by_cases hj : i' < j
          · have hjz : (i' : Int) < (j : Int) := by omega
            have HJ := Lib.hid hj
            obtain ⟨pc, hpc⟩ : ∃ c : Nat, c = i' % 2 := ⟨_, rfl⟩
            obtain ⟨pq, hpq⟩ : ∃ q : Nat, q = i' / 2 := ⟨_, rfl⟩
            have E2 := Lib.hid (pq_unpin (i := i') (k := j) hpc hpq (by have := HLJ.out; omega) HJ12.out)
            have hrem : (i' : Int).tmod 2 = (pc : Int) := by rw [IntWalk.rem_in _ _ (by omega)]; omega
            have hquo : (i' : Int).tdiv 2 = (pq : Int) := by rw [Int.tdiv_eq_ediv_of_nonneg (by omega)]; omega
            have hpc1 : (pc : Int) ≤ 1 := by omega
            have hpq1 : (pq : Int) ≤ 5 := by omega
            clear hj hpc hpq
            obtain ⟨BT5, bt5, ct5, BB5, bb5, cb5, BH5, bh5, ch5, hbx, hpx⟩ := HS5.out
            have z0 := hbx.cell 0
            have z1 := hbx.cell 1
            have z2 := hbx.cell 2
            simp only [List.getElem?_cons_zero, List.getElem?_cons_succ] at z0 z1 z2
            have HP5 := Lib.hid hpx
            clear hbx hpx
            go_upto_region 18 with (go_at_call 12; (with_reducible refine (t_do0 HP5.out (pc : Int) 5 0 (pq : Int) 0 0 (by omega) E2.out).mono ?_); rintro e wk ⟨AT, nT, cT, AB, nB, cB, AH, nH, cH, A6, n6, cap6, rfl, hpa, hre, hg⟩; have HPA := Lib.hid hpa; have HRE6 := Lib.hid hre; have HGC := Lib.hid hg; clear hpa hre hg)
            clear z0 z1 z2
            obtain ⟨hs1, hs2, hs3⟩ := sb_step HPA.out (m := m) (HML5.out) 0 0 0 A6 n6 cap6
            have hzs := sl_grow HRE6.out.1 hs3
            have hgk : Grow w5 ((wk.alloc (.cells #[.slice AT nT cT, .slice AB nB cB, .slice AH nH cH] 28)).alloc (.cells #[.int .i64 0, .int .i64 0, .int .i64 0, .slice A6 n6 cap6] 31)) := HGC.out.trans hs3
            obtain ⟨b6, hbk⟩ : ∃ b6, b6 = wk.heap.size := ⟨_, rfl⟩
            rw [← hbk] at hs1 hs2 ⊢
            have hmb : m < b6 := by
              have h1 : m < w5.heap.size := HML5.out
              have h2 := HGC.out.size
              omega
            have HMB6 := Lib.hid hmb
            clear hbk hs3 HPA HGC hmb
            generalize ((wk.alloc (.cells #[.slice AT nT cT, .slice AB nB cB, .slice AH nH cH] 28)).alloc (.cells #[.int .i64 0, .int .i64 0, .int .i64 0, .slice A6 n6 cap6] 31)) = w6 at hs1 hs2 hzs hgk ⊢
            have HS6 := Lib.hid hs1
            have HR6 := Lib.hid hs2
            have HD6 := Lib.hid hzs
            have HG6 := Lib.hid hgk
            clear hs1 hs2 hzs hgk
            have HML6 : Hid (m < w6.heap.size) := Nat.lt_of_lt_of_le HML5.out HG6.out.size
            have HSM := Lib.hid (HS5.out.grow HG6.out)
            have r0 := HR6.out.cell 0
            simp only [List.getElem?_cons_zero, List.getElem?_cons_succ] at r0
            go_upto_region 20 with (fail)
            clear r0 hrem hquo
            obtain ⟨BT6, bt6, ct6, BB6, bb6, cb6, BH6, bh6, ch6, hbx, hpx⟩ := HS6.out
            have z0 := hbx.cell 0
            have z1 := hbx.cell 1
            have z2 := hbx.cell 2
            simp only [List.getElem?_cons_zero, List.getElem?_cons_succ] at z0 z1 z2
            have HP6 := Lib.hid hpx
            clear hbx hpx
            obtain ⟨xm, ym, zm, hbm⟩ := HSM.out.box
            have HBM := Lib.hid hbm
            have y0 := hbm.cell 0
            have y1 := hbm.cell 1
            have y2 := hbm.cell 2
            have yf := hbm.frozen
            simp only [List.getElem?_cons_zero, List.getElem?_cons_succ] at y0 y1 y2
            clear hbm
            go_wp2
            clear z0 z1 z2 y0 y1 y2 yf
            obtain ⟨hs1, hk1⟩ := sb_put HP6.out HBM.out
            generalize ((w6.setCell ⟨m, 0, none⟩ (.slice BT6 bt6 ct6)).setCell ⟨m, 1, none⟩ (.slice BB6 bb6 cb6)).setCell ⟨m, 2, none⟩ (.slice BH6 bh6 ch6) = w7 at hs1 hk1 ⊢
            have HS7 := Lib.hid hs1
            have HK7 := Lib.hid hk1
            clear hs1 hk1 HBM
            go_roundg (gk - 1)
            case measure => have := HG.out; have := HJ.out; omega
            case rel => exact ⟨i' + 1, by have := HG.out; have := HJ.out; omega, by go_num, HS7.out, (HK5.out.trans (Grow.kept HG6.out)).trans HK7.out⟩
          · obtain rfl : i' = j := by have := HG.out; omega
            obtain ⟨dc, dU, hE, hdc⟩ := pq_del (k := i') HJ12.out HLJ.out
            have E3 := Lib.hid hE
            have HDC := Lib.hid hdc
            clear hj hE hdc HG
            go_upto_region 21 with (fail)
            obtain ⟨BT5, bt5, ct5, BB5, bb5, cb5, BH5, bh5, ch5, hbx, hpx⟩ := HS5.out
            have z0 := hbx.cell 0
            have z1 := hbx.cell 1
            have z2 := hbx.cell 2
            simp only [List.getElem?_cons_zero, List.getElem?_cons_succ] at z0 z1 z2
            have HP5 := Lib.hid hpx
            clear hbx hpx
            go_upto_region 22 with (go_at_call 12; (with_reducible refine (t_do0 HP5.out 1 8 0 0 0 0 (by omega) E3.out).mono ?_); rintro e wk ⟨AT, nT, cT, AB, nB, cB, AH, nH, cH, A6, n6, cap6, rfl, hpa, hre, hg⟩; have HPA := Lib.hid hpa; have HRE6 := Lib.hid hre; have HGC := Lib.hid hg; clear hpa hre hg)
            clear z0 z1 z2
            obtain ⟨hs1, hs2, hs3⟩ := sb_step HPA.out (m := m) (HML5.out) dc 0 0 A6 n6 cap6
            have hzs := sl_grow HRE6.out.1 hs3
            have hgk : Grow w5 ((wk.alloc (.cells #[.slice AT nT cT, .slice AB nB cB, .slice AH nH cH] 28)).alloc (.cells #[.int .i64 dc, .int .i64 0, .int .i64 0, .slice A6 n6 cap6] 31)) := HGC.out.trans hs3
            obtain ⟨b6, hbk⟩ : ∃ b6, b6 = wk.heap.size := ⟨_, rfl⟩
            rw [← hbk] at hs1 hs2 ⊢
            have hmb : m < b6 := by
              have h1 : m < w5.heap.size := HML5.out
              have h2 := HGC.out.size
              omega
            have HMB6 := Lib.hid hmb
            clear hbk hs3 HPA HGC hmb
            generalize ((wk.alloc (.cells #[.slice AT nT cT, .slice AB nB cB, .slice AH nH cH] 28)).alloc (.cells #[.int .i64 dc, .int .i64 0, .int .i64 0, .slice A6 n6 cap6] 31)) = w6 at hs1 hs2 hzs hgk ⊢
            have HS6 := Lib.hid hs1
            have HR6 := Lib.hid hs2
            have HD6 := Lib.hid hzs
            have HG6 := Lib.hid hgk
            clear hs1 hs2 hzs hgk
            have HRF := Lib.hid ((HR1.out.kept HK5.out (fun e => by have e : b1 + 1 = m := e; have := HMB1.out; omega)).grow HG6.out)
            have HS6' := Lib.hid (HS5.out.grow HG6.out)
            clear HS6
            have HS6 := HS6'
            obtain ⟨BT6, bt6, ct6, BB6, bb6, cb6, BH6, bh6, ch6, hbx, hpx⟩ := HS6.out
            have z0 := hbx.cell 0
            have z1 := hbx.cell 1
            have z2 := hbx.cell 2
            simp only [List.getElem?_cons_zero, List.getElem?_cons_succ] at z0 z1 z2
            have HP6 := Lib.hid hpx
            clear hbx hpx
            have ra := HRF.out.cell 0
            have rb := HR6.out.cell 0
            simp only [List.getElem?_cons_zero, List.getElem?_cons_succ] at ra rb
            have HFIN : Hid (Grow w w6) := (HG1.out.then HK5.out fun x hx e => by have e : x = m := e; have := HMW.out; omega).trans HG6.out
            have HPI : Hid (((PQ i' i').pins 0 : Int) = (i' : Int) - (i' : Int)) := by
              have := pq_pins HJ12.out HLJ.out
              show ((PQ i' i').pins 0 : Int) = (i' : Int) - (i' : Int)
              rw [this]
              have := HLJ.out
              omega
            have hsub : (0 : Int) ≤ (i' : Int) - (i' : Int) := by have := HLJ.out; omega
            rcases HFC.out with ⟨rfl, h10⟩ | ⟨rfl, h10⟩
            · have h10z : 10 < (i' : Int) := by omega
              clear h10
              rcases HDC.out with ⟨rfl, hjm⟩ | ⟨rfl, hjm⟩
              · have hjb : ((i' : Int) == (i' : Int)) = true := by simp <;> omega
                clear hjm
                go_wp2_with (first
                  | (go_at_call 10; (with_reducible refine (told_any _).mono ?_); rintro e wt ⟨rfl, hge⟩; have ra := hge.cellN ra id; have rb := hge.cellN rb id; have z0 := hge.cellN z0 id; have z1 := hge.cellN z1 id; have z2 := hge.cellN z2 id; have HGE := Lib.hid hge; clear hge)
                  | (go_at_call 22; (with_reducible refine (t_pins (HP6.out.grow HGE.out) 0 HPI.out).mono ?_); rintro e wp ⟨rfl, hge⟩; have ra := hge.cellN ra id; have rb := hge.cellN rb id; have HGP := Lib.hid hge; clear hge))
                go_ret
                refine ⟨?_, Grow.below ((HFIN.out.trans HGE.out).trans HGP.out)⟩
                first
                  | rfl
                  | (show Ending.returned (.bool (!decide (10 < (i' : Int)))) = _; rw [hd10]; rfl)
              · exact absurd rfl hjm
            · have h10z : (i' : Int) ≤ 10 := by omega
              have hd10 : decide (10 < (i' : Int)) = false := decide_eq_false (by omega)
              clear h10
              rcases HDC.out with ⟨rfl, hjm⟩ | ⟨rfl, hjm⟩
              · have hjb : ((i' : Int) == (i' : Int)) = true := by simp <;> omega
                clear hjm
                go_wp2_with (first
                  | (go_at_call 10; (with_reducible refine (told_any _).mono ?_); rintro e wt ⟨rfl, hge⟩; have ra := hge.cellN ra id; have rb := hge.cellN rb id; have z0 := hge.cellN z0 id; have z1 := hge.cellN z1 id; have z2 := hge.cellN z2 id; have HGE := Lib.hid hge; clear hge)
                  | (go_at_call 22; (with_reducible refine (t_pins (HP6.out.grow HGE.out) 0 HPI.out).mono ?_); rintro e wp ⟨rfl, hge⟩; have ra := hge.cellN ra id; have rb := hge.cellN rb id; have HGP := Lib.hid hge; clear hge))
                go_ret
                refine ⟨?_, Grow.below ((HFIN.out.trans HGE.out).trans HGP.out)⟩
                first
                  | rfl
                  | (show Ending.returned (.bool (!decide (10 < (i' : Int)))) = _; rw [hd10]; rfl)
              · exact absurd rfl hjm

/-! ### THE ROW's STEP: WRITTEN OUT: LEAVE IT -/
set_option maxRecDepth 100000 in
theorem lifted (os : Os) (started : os.Started) (H : Type) (enc : TypeId × Value → H) :
    ReturnsInHanded {} Try.checked os 9 .any (Rows.modelPinsSpec.pre6 enc Try.prog Try.f9 Rows.modelPinsRow.domain false) (Rows.modelPinsSpec.post enc Try.prog Try.f9 false true false false) := by
  refine returnsInHanded_of_change (C := Try.checked) own started (by kernel_rfl) Try.func9
    (ChangeSpec.witness6 (enc := enc) (C := Try.checked) false ⟨#[], #[.int .i64 0, .int .i64 0], []⟩ 8 (by kernel_rfl) (by kernel_rfl) (by kernel_rfl) (by kernel_rfl)) ?_
  intro W base args ds gs before hval0 hW hcnd _
  have hval : ∀ (j : Nat) t v, Try.f9.params[j]? = some t → args[j]? = some v → Value.okWide Try.prog W .any base t v := hval0
  have hW' := hW
  obtain ⟨p, q, hA0, hV, rfl, hfz, hnd⟩ := hW
  have hA : DataW.TrodAll enc Try.prog W 0 (fun _ => true) true Try.f9.params.toList args.toList ds p := hA0
  rw [Try.params9] at hA hval
  obtain ⟨v0, vs0, d0, ds0, p0, q0, hargs, rfl, rfl, h0, r0⟩ := trodAll_cons hA
  obtain ⟨v1, vs1, d1, ds1, p1, q1, rfl, rfl, rfl, h1, r1⟩ := trodAll_cons r0
  obtain ⟨rfl, rfl, rfl⟩ := trodAll_nil r1
  obtain rfl : args = #[v0, v1] := by cases args; simp_all
  obtain ⟨rfl, rfl⟩ := trodVars_none hV
  obtain ⟨a0, rfl, rfl, rfl, w0⟩ := open_int Try.underlying3 (hval 0 3 v0 rfl rfl) h0
  obtain ⟨a1, rfl, rfl, rfl, w1⟩ := open_int Try.underlying3 (hval 1 3 v1 rfl rfl) h1
  clear hA0 hval0
  refine (walk a0 a1 W w0 w1).mono fun e W' ⟨he, bel⟩ => ?_
  subst he
  exact ⟨_, rfl, _, _, _, [], _, [], hW', trodAll_mk1 (shut_bool Try.underlying4 _), (trodAll_cons_mk (shut_int Try.underlying3 w0) (trodAll_cons_mk (shut_int Try.underlying3 w1) trodAll_mk0)), rfl, bel.frame _, fun h => by cases h⟩

theorem over : Rows.modelPinsRow.holds Try.pinned (OpenSpec.ofChange Rows.modelPinsSpec) :=
  OpenClaim.holds_of_wide 9 Try.f9 rfl rfl rfl rfl rfl rfl rfl ⟨rfl, rfl, rfl, rfl, rfl⟩ rfl rfl rfl rfl rfl (by kernel_rfl) Try.func9 (by kernel_rfl)
    (of_decide_eq_true (by kernel_rfl)) (by unfold Func.isWrapper; first | (rw [if_pos (by decide +kernel)]; kernel_rfl) | (rw [if_neg (by decide +kernel)]; exact ⟨rfl, rfl⟩))
    (fun os started H enc _ => lifted os started H enc)

/-- ████ THE STATEMENT ████ -/
theorem proved : Rows.ModelPinsSaid := over
#print axioms proved
end Go.Proofs.Yteiodnclpbjbbaa.modelPins
