/-
  For every input the call of lavabolaw13.ModelNews returns true and leaves its arguments as they were; no condition.
-/
import Derived.Test.YteiodnclpbjbbaaPmLaw
import Derived.Test.YteiodnclpbjbbaaRows
import Derived.WalkKit
import Derived.ProofKit
import Derived.OpenShut
import Derived.ShutString
import Derived.ChangeOld
import Derived.Below
namespace Go.Proofs.Yteiodnclpbjbbaa.modelNews
open Go.ChangeShapes Go.WideShapes Go.ChangeAt Go.RowKit
open Go.ChangeMaps (open_string shut_string)
open Go.Proofs.Yteiodnclpbjbbaa.Mem Go.Proofs.Yteiodnclpbjbbaa.Blk Go.Proofs.Yteiodnclpbjbbaa.Cells Go.Proofs.Yteiodnclpbjbbaa.Orow Go.Proofs.Yteiodnclpbjbbaa.GrC Go.Proofs.Yteiodnclpbjbbaa.MdM Go.Proofs.Yteiodnclpbjbbaa.MdC Go.Proofs.Yteiodnclpbjbbaa.MdD Go.Proofs.Yteiodnclpbjbbaa.PmC Go.Proofs.Yteiodnclpbjbbaa.PmM Go.Proofs.Yteiodnclpbjbbaa.PmS Go.Proofs.Yteiodnclpbjbbaa.PmE Go.Proofs.Yteiodnclpbjbbaa.PmN Go.Proofs.Yteiodnclpbjbbaa.PmF Go.Proofs.Yteiodnclpbjbbaa.Law13 Go.Proofs.Yteiodnclpbjbbaa.Told13 Go.Proofs.Yteiodnclpbjbbaa.Stages
set_option linter.unusedVariables false

theorem own : ownKnob Try.prog.godebug = none := by kernel_rfl
theorem laidOut : laidOutB Try.prog = true := by kernel_rfl

/-- WHAT THE WALK IS TOLD OF A SLICE OF INTEGERS THAT CAME IN: it is nil; or it leads to a row of 'cap' cells, the numbers 'zs' (the first 'len' are its elements, the rest its spare room), each fitting its kind. -/
def IsRow (k : IntKind) (w : World) (a : Option Addr) (len cap : Nat) (zs : List Int) : Prop :=
  (a = none ∧ len = 0 ∧ cap = 0 ∧ zs = []) ∨
  ∃ x, a = some x ∧ len ≤ cap ∧ cap ≤ maxLen ∧ zs.length = cap ∧ (∀ i, i < zs.length → w.cell? (x.add i) = some (.int k (zs.getD i 0))) ∧ ∀ n ∈ zs, (Lit.int k n).wf = true

/-! ### STEP 1: THE WALK: the Go text returns true, AND WRITES NOTHING THAT WAS THERE: 'Below w.heap.size w w'' (Derived/Below.lean: '.refl', '.alloc', '.drew', '.setCell' at a new block, '.trans'). Open each 'IsRow' by 'rcases' AHEAD of 'go_enter'; part every test ahead of the walk. -/
set_option maxHeartbeats 8000000 in
set_option maxRecDepth 100000 in
theorem walk (a0 : Int) (a1 : Int) (w : World) (w0 : (Lit.int .i64 a0).wf = true) (w1 : (Lit.int .i64 a1).wf = true) :
    Calls Try.prog 8 #[.int .i64 a0, .int .i64 a1] w fun e w' => e = .returned (.bool true) ∧ Below w.heap.size w w' := by
  obtain ⟨K, hK, hK20⟩ := tmod_nat a0 20 (by omega)
  simp only [Int.cast_ofNat_Int] at hK
  obtain ⟨n, hn⟩ : ∃ n, n = K + 1 := ⟨_, rfl⟩
  have hn1 : 1 ≤ n := by omega
  have hn20 : n ≤ 20 := by omega
  have hnz : 1 + (K : Int) = (n : Int) := by omega
  have hnw : (n : Int) ≤ 20 := by omega
  obtain ⟨W, hW, hWn⟩ := tmod_nat a1 n (by omega)
  have hun : IntKind.u64.wrap (n : Int) = (n : Int) := IntWalk.u64_in (n : Int) (by omega)
  have CN : Hid (Calls Try.prog 11 #[.int .i64 (n : Int), .int .i64 1] w (NewP n 1 w)) := new_any n 1 hn1 (by omega) (by omega) (by omega) w
  have HWN := Lib.hid hWn
  have HN1 := Lib.hid hn1
  have hwz : (W : Int) ≤ 20 := by omega
  have hnp : 0 < (n : Int) := by omega
  have hK0 : (K : Int) < 20 := by omega
  clear hn1 hn20 hn hWn hK20
  go_enter Try.func8, Try.ntmps8
  go_upto_region 3 with (go_at_call 11; (with_reducible refine CN.out.mono ?_); rintro e wk ⟨v, rfl, hpa, hg⟩; obtain ⟨AT, cT, AB, cB, AH, cH, rfl⟩ := pat_form hpa; have HPA := Lib.hid hpa; have HGC := Lib.hid hg; clear hpa hg)
  obtain ⟨hs1, hs3⟩ := sb_new HPA.out
  have hgk := HGC.out.trans hs3
  have hmw := HGC.out.size
  obtain ⟨m, hbk⟩ : ∃ m, m = wk.heap.size := ⟨_, rfl⟩
  rw [← hbk] at hs1 hmw ⊢
  have HMW := Lib.hid hmw
  clear hbk hs3 HPA HGC CN hmw
  generalize wk.alloc (.cells #[.slice AT (fresh n 1).n cT, .slice AB (fresh n 1).n cB, .slice AH (fresh n 1).N cH] 28) = w0 at hs1 hgk ⊢
  have HS0 : Hid (SB w0 m m (fresh n 1)) := hs1
  have HG0 := Lib.hid hgk
  have HML : Hid (m < w0.heap.size) := hs1.lt
  clear hs1 hgk
  rw [ns_zero] at HS0
  go_wp2
  go_loopg [7] n (fun gx i wr => ∃ j : Nat, j + gx = n ∧ i = .int .i64 (j : Int) ∧ SB wr m m (Ns n j) ∧ Grow w wr ∧ m < wr.heap.size)
  case atStart => exact ⟨0, by omega, rfl, HS0.out, HG0.out, HML.out⟩
  case round =>
    clear HS0 HG0 HML
    obtain ⟨j, hg, rfl, hs, hgr, hml⟩ := hrel
    obtain ⟨w0, rfl⟩ : ∃ w0, w0 = wr := ⟨_, rfl⟩
    have HG := Lib.hid hg
    have HS0 := Lib.hid hs
    have HG0 := Lib.hid hgr
    have HML := Lib.hid hml
    clear hg hs hgr hml
    by_cases hj : j < n
    · have hjz : (j : Int) < (n : Int) := by omega
      have HJ := Lib.hid hj
      have E1 := Lib.hid (ns_new hj)
      have E2 := Lib.hid (ns_unpin hj)
      clear hj
      obtain ⟨BT0, bt0, ct0, BB0, bb0, cb0, BH0, bh0, ch0, hbx, hpx⟩ := HS0.out
      have z0 := hbx.cell 0
      have z1 := hbx.cell 1
      have z2 := hbx.cell 2
      simp only [List.getElem?_cons_zero, List.getElem?_cons_succ] at z0 z1 z2
      have HP0 := Lib.hid hpx
      clear hbx hpx
      go_upto_region 7 with (go_at_call 12; (with_reducible refine (t_do0 HP0.out 0 1 0 0 0 0 (by omega) E1.out).mono ?_); rintro e wk ⟨AT, nT, cT, AB, nB, cB, AH, nH, cH, A1, n1, cap1, rfl, hpa, hre, hg⟩; have HPA := Lib.hid hpa; have HRE1 := Lib.hid hre; have HGC := Lib.hid hg; clear hpa hre hg)
      clear z0 z1 z2
      obtain ⟨hs1, hs2, hs3⟩ := sb_step HPA.out (m := m) (HML.out) 0 (j : Int) 0 A1 n1 cap1
      have hzs := sl_grow HRE1.out.1 hs3
      have hgk : Grow w0 ((wk.alloc (.cells #[.slice AT nT cT, .slice AB nB cB, .slice AH nH cH] 28)).alloc (.cells #[.int .i64 0, .int .i64 (j : Int), .int .i64 0, .slice A1 n1 cap1] 31)) := HGC.out.trans hs3
      obtain ⟨b1, hbk⟩ : ∃ b1, b1 = wk.heap.size := ⟨_, rfl⟩
      rw [← hbk] at hs1 hs2 ⊢
      have hmb : m < b1 := by
        have h1 : m < w0.heap.size := HML.out
        have h2 := HGC.out.size
        omega
      have HMB1 := Lib.hid hmb
      clear hbk hs3 HPA HGC hmb
      generalize ((wk.alloc (.cells #[.slice AT nT cT, .slice AB nB cB, .slice AH nH cH] 28)).alloc (.cells #[.int .i64 0, .int .i64 (j : Int), .int .i64 0, .slice A1 n1 cap1] 31)) = w1 at hs1 hs2 hzs hgk ⊢
      have HS1 := Lib.hid hs1
      have HR1 := Lib.hid hs2
      have HD1 := Lib.hid hzs
      have HG1 := Lib.hid hgk
      clear hs1 hs2 hzs hgk
      have HML1 : Hid (m < w1.heap.size) := Nat.lt_of_lt_of_le HML.out HG1.out.size
      have r0 := HR1.out.cell 0
      have r1 := HR1.out.cell 1
      have r2 := HR1.out.cell 2
      simp only [List.getElem?_cons_zero, List.getElem?_cons_succ] at r0 r1 r2
      go_upto_region 9 with (fail)
      clear r0 r1 r2
      obtain ⟨BT1, bt1, ct1, BB1, bb1, cb1, BH1, bh1, ch1, hbx, hpx⟩ := HS1.out
      have z0 := hbx.cell 0
      have z1 := hbx.cell 1
      have z2 := hbx.cell 2
      simp only [List.getElem?_cons_zero, List.getElem?_cons_succ] at z0 z1 z2
      have HP1 := Lib.hid hpx
      clear hbx hpx
      go_upto_region 10 with (go_at_call 12; (with_reducible refine (t_do0 HP1.out 0 5 0 0 0 0 (by omega) E2.out).mono ?_); rintro e wk ⟨AT, nT, cT, AB, nB, cB, AH, nH, cH, A2, n2, cap2, rfl, hpa, hre, hg⟩; have HPA := Lib.hid hpa; have HRE2 := Lib.hid hre; have HGC := Lib.hid hg; clear hpa hre hg)
      clear z0 z1 z2
      obtain ⟨hs1, hs2, hs3⟩ := sb_step HPA.out (m := m) (HML1.out) 0 0 0 A2 n2 cap2
      have hzs := sl_grow HRE2.out.1 hs3
      have hgk : Grow w1 ((wk.alloc (.cells #[.slice AT nT cT, .slice AB nB cB, .slice AH nH cH] 28)).alloc (.cells #[.int .i64 0, .int .i64 0, .int .i64 0, .slice A2 n2 cap2] 31)) := HGC.out.trans hs3
      obtain ⟨b2, hbk⟩ : ∃ b2, b2 = wk.heap.size := ⟨_, rfl⟩
      rw [← hbk] at hs1 hs2 ⊢
      have hmb : m < b2 := by
        have h1 : m < w1.heap.size := HML1.out
        have h2 := HGC.out.size
        omega
      have HMB2 := Lib.hid hmb
      clear hbk hs3 HPA HGC hmb
      generalize ((wk.alloc (.cells #[.slice AT nT cT, .slice AB nB cB, .slice AH nH cH] 28)).alloc (.cells #[.int .i64 0, .int .i64 0, .int .i64 0, .slice A2 n2 cap2] 31)) = w2 at hs1 hs2 hzs hgk ⊢
      have HS2 := Lib.hid hs1
      have HR2 := Lib.hid hs2
      have HD2 := Lib.hid hzs
      have HG2 := Lib.hid hgk
      clear hs1 hs2 hzs hgk
      have HML2 : Hid (m < w2.heap.size) := Nat.lt_of_lt_of_le HML1.out HG2.out.size
      have HSM := Lib.hid ((HS0.out.grow HG1.out).grow HG2.out)
      have r0 := HR2.out.cell 0
      simp only [List.getElem?_cons_zero, List.getElem?_cons_succ] at r0
      go_upto_region 12 with (fail)
      clear r0
      obtain ⟨BT2, bt2, ct2, BB2, bb2, cb2, BH2, bh2, ch2, hbx, hpx⟩ := HS2.out
      have z0 := hbx.cell 0
      have z1 := hbx.cell 1
      have z2 := hbx.cell 2
      simp only [List.getElem?_cons_zero, List.getElem?_cons_succ] at z0 z1 z2
      have HP2 := Lib.hid hpx
      clear hbx hpx
      obtain ⟨xm, ym, zm, hbm⟩ := HSM.out.box
      have HBM := Lib.hid hbm
      have y0 := hbm.cell 0
      have y1 := hbm.cell 1
      have y2 := hbm.cell 2
      have yf := hbm.frozen
      simp only [List.getElem?_cons_zero, List.getElem?_cons_succ] at y0 y1 y2
      clear hbm
      go_wp2
      clear z0 z1 z2 y0 y1 y2 yf
      obtain ⟨hs1, hk1⟩ := sb_put HP2.out HBM.out
      generalize ((w2.setCell ⟨m, 0, none⟩ (.slice BT2 bt2 ct2)).setCell ⟨m, 1, none⟩ (.slice BB2 bb2 cb2)).setCell ⟨m, 2, none⟩ (.slice BH2 bh2 ch2) = w3 at hs1 hk1 ⊢
      have HS3 := Lib.hid hs1
      have HK3 := Lib.hid hk1
      clear hs1 hk1 HBM
      go_roundg (gk - 1)
      case measure => have := HG.out; have := HJ.out; omega
      case rel => exact ⟨j + 1, by have := HG.out; have := HJ.out; omega, by go_num, HS3.out, ((HG0.out.trans HG1.out).trans HG2.out).then HK3.out fun k hk e => by have e : k = m := e; have := HMW.out; omega, HS3.out.lt⟩
    · obtain rfl : j = n := by have := HG.out; omega
      have E1 := Lib.hid (ns_full j)
      have E2 := Lib.hid (ns_del HWN.out)
      obtain ⟨U, hU⟩ := ns_again HWN.out
      have E3 := Lib.hid hU
      clear hj hU
      go_upto_region 13 with (fail)
      obtain ⟨BT0, bt0, ct0, BB0, bb0, cb0, BH0, bh0, ch0, hbx, hpx⟩ := HS0.out
      have z0 := hbx.cell 0
      have z1 := hbx.cell 1
      have z2 := hbx.cell 2
      simp only [List.getElem?_cons_zero, List.getElem?_cons_succ] at z0 z1 z2
      have HP0 := Lib.hid hpx
      clear hbx hpx
      go_upto_region 15 with (go_at_call 12; (with_reducible refine (t_do0 HP0.out 0 1 0 0 0 0 (by omega) E1.out).mono ?_); rintro e wk ⟨AT, nT, cT, AB, nB, cB, AH, nH, cH, A1, n1, cap1, rfl, hpa, hre, hg⟩; have HPA := Lib.hid hpa; have HRE1 := Lib.hid hre; have HGC := Lib.hid hg; clear hpa hre hg)
      clear z0 z1 z2
      obtain ⟨hs1, hs2, hs3⟩ := sb_step HPA.out (m := m) (HML.out) 3 0 0 A1 n1 cap1
      have hzs := sl_grow HRE1.out.1 hs3
      have hgk : Grow w0 ((wk.alloc (.cells #[.slice AT nT cT, .slice AB nB cB, .slice AH nH cH] 28)).alloc (.cells #[.int .i64 3, .int .i64 0, .int .i64 0, .slice A1 n1 cap1] 31)) := HGC.out.trans hs3
      obtain ⟨b1, hbk⟩ : ∃ b1, b1 = wk.heap.size := ⟨_, rfl⟩
      rw [← hbk] at hs1 hs2 ⊢
      have hmb : m < b1 := by
        have h1 : m < w0.heap.size := HML.out
        have h2 := HGC.out.size
        omega
      have HMB1 := Lib.hid hmb
      clear hbk hs3 HPA HGC hmb
      generalize ((wk.alloc (.cells #[.slice AT nT cT, .slice AB nB cB, .slice AH nH cH] 28)).alloc (.cells #[.int .i64 3, .int .i64 0, .int .i64 0, .slice A1 n1 cap1] 31)) = w1 at hs1 hs2 hzs hgk ⊢
      have HS1 := Lib.hid hs1
      have HR1 := Lib.hid hs2
      have HD1 := Lib.hid hzs
      have HG1 := Lib.hid hgk
      clear hs1 hs2 hzs hgk
      have HML1 : Hid (m < w1.heap.size) := Nat.lt_of_lt_of_le HML.out HG1.out.size
      have HS0 := Lib.hid (HS0.out.grow HG1.out)
      obtain ⟨BT0, bt0, ct0, BB0, bb0, cb0, BH0, bh0, ch0, hbx, hpx⟩ := HS0.out
      have z0 := hbx.cell 0
      have z1 := hbx.cell 1
      have z2 := hbx.cell 2
      simp only [List.getElem?_cons_zero, List.getElem?_cons_succ] at z0 z1 z2
      have HP0 := Lib.hid hpx
      clear hbx hpx
      go_upto_region 16 with (go_at_call 12; (with_reducible refine (t_do0 HP0.out 0 8 (W : Int) 0 0 0 (by omega) E2.out).mono ?_); rintro e wk ⟨AT, nT, cT, AB, nB, cB, AH, nH, cH, A2, n2, cap2, rfl, hpa, hre, hg⟩; have HPA := Lib.hid hpa; have HRE2 := Lib.hid hre; have HGC := Lib.hid hg; clear hpa hre hg)
      clear z0 z1 z2
      obtain ⟨hs1, hs2, hs3⟩ := sb_step HPA.out (m := m) (HML1.out) 0 0 0 A2 n2 cap2
      have hzs := sl_grow HRE2.out.1 hs3
      have hgk : Grow w1 ((wk.alloc (.cells #[.slice AT nT cT, .slice AB nB cB, .slice AH nH cH] 28)).alloc (.cells #[.int .i64 0, .int .i64 0, .int .i64 0, .slice A2 n2 cap2] 31)) := HGC.out.trans hs3
      obtain ⟨b2, hbk⟩ : ∃ b2, b2 = wk.heap.size := ⟨_, rfl⟩
      rw [← hbk] at hs1 hs2 ⊢
      have hmb : m < b2 := by
        have h1 : m < w1.heap.size := HML1.out
        have h2 := HGC.out.size
        omega
      have HMB2 := Lib.hid hmb
      clear hbk hs3 HPA HGC hmb
      generalize ((wk.alloc (.cells #[.slice AT nT cT, .slice AB nB cB, .slice AH nH cH] 28)).alloc (.cells #[.int .i64 0, .int .i64 0, .int .i64 0, .slice A2 n2 cap2] 31)) = w2 at hs1 hs2 hzs hgk ⊢
      have HS2 := Lib.hid hs1
      have HR2 := Lib.hid hs2
      have HD2 := Lib.hid hzs
      have HG2 := Lib.hid hgk
      clear hs1 hs2 hzs hgk
      have HML2 : Hid (m < w2.heap.size) := Nat.lt_of_lt_of_le HML1.out HG2.out.size
      have HR1 := Lib.hid (HR1.out.grow HG2.out)
      obtain ⟨BT2, bt2, ct2, BB2, bb2, cb2, BH2, bh2, ch2, hbx, hpx⟩ := HS2.out
      have z0 := hbx.cell 0
      have z1 := hbx.cell 1
      have z2 := hbx.cell 2
      simp only [List.getElem?_cons_zero, List.getElem?_cons_succ] at z0 z1 z2
      have HP2 := Lib.hid hpx
      clear hbx hpx
      go_upto_region 17 with (go_at_call 12; (with_reducible refine (t_do0 HP2.out 0 1 0 0 0 0 (by omega) E3.out).mono ?_); rintro e wk ⟨AT, nT, cT, AB, nB, cB, AH, nH, cH, A3, n3, cap3, rfl, hpa, hre, hg⟩; have HPA := Lib.hid hpa; have HRE3 := Lib.hid hre; have HGC := Lib.hid hg; clear hpa hre hg)
      clear z0 z1 z2
      obtain ⟨hs1, hs2, hs3⟩ := sb_step HPA.out (m := m) (HML2.out) 0 (W : Int) 0 A3 n3 cap3
      have hzs := sl_grow HRE3.out.1 hs3
      have hgk : Grow w2 ((wk.alloc (.cells #[.slice AT nT cT, .slice AB nB cB, .slice AH nH cH] 28)).alloc (.cells #[.int .i64 0, .int .i64 (W : Int), .int .i64 0, .slice A3 n3 cap3] 31)) := HGC.out.trans hs3
      obtain ⟨b3, hbk⟩ : ∃ b3, b3 = wk.heap.size := ⟨_, rfl⟩
      rw [← hbk] at hs1 hs2 ⊢
      have hmb : m < b3 := by
        have h1 : m < w2.heap.size := HML2.out
        have h2 := HGC.out.size
        omega
      have HMB3 := Lib.hid hmb
      clear hbk hs3 HPA HGC hmb
      generalize ((wk.alloc (.cells #[.slice AT nT cT, .slice AB nB cB, .slice AH nH cH] 28)).alloc (.cells #[.int .i64 0, .int .i64 (W : Int), .int .i64 0, .slice A3 n3 cap3] 31)) = w3 at hs1 hs2 hzs hgk ⊢
      have HS3 := Lib.hid hs1
      have HR3 := Lib.hid hs2
      have HD3 := Lib.hid hzs
      have HG3 := Lib.hid hgk
      clear hs1 hs2 hzs hgk
      have HR1 := Lib.hid (HR1.out.grow HG3.out)
      have HR2 := Lib.hid (HR2.out.grow HG3.out)
      have r1 := HR1.out.cell 0
      have r2 := HR2.out.cell 0
      have r3 := HR3.out.cell 0
      have r4 := HR3.out.cell 1
      simp only [List.getElem?_cons_zero, List.getElem?_cons_succ] at r1 r2 r3 r4
      go_wp2_with (go_at_call 10; (with_reducible refine (told_any _).mono ?_); rintro e wt ⟨rfl, hge⟩; have r1 := hge.cellN r1 id; have r2 := hge.cellN r2 id; have r3 := hge.cellN r3 id; have r4 := hge.cellN r4 id; have HGE := Lib.hid hge; clear hge)
      go_ret
      exact ⟨rfl, Grow.below ((((HG0.out.trans HG1.out).trans HG2.out).trans HG3.out).trans HGE.out)⟩

/-! ### THE ROW's STEP: WRITTEN OUT: LEAVE IT -/
set_option maxRecDepth 100000 in
theorem lifted (os : Os) (started : os.Started) (H : Type) (enc : TypeId × Value → H) :
    ReturnsInHanded {} Try.checked os 8 .any (Rows.modelNewsSpec.pre6 enc Try.prog Try.f8 Rows.modelNewsRow.domain false) (Rows.modelNewsSpec.post enc Try.prog Try.f8 false true false false) := by
  refine returnsInHanded_of_change (C := Try.checked) own started (by kernel_rfl) Try.func8
    (ChangeSpec.witness6 (enc := enc) (C := Try.checked) false ⟨#[], #[.int .i64 0, .int .i64 0], []⟩ 8 (by kernel_rfl) (by kernel_rfl) (by kernel_rfl) (by kernel_rfl)) ?_
  intro W base args ds gs before hval0 hW hcnd _
  have hval : ∀ (j : Nat) t v, Try.f8.params[j]? = some t → args[j]? = some v → Value.okWide Try.prog W .any base t v := hval0
  have hW' := hW
  obtain ⟨p, q, hA0, hV, rfl, hfz, hnd⟩ := hW
  have hA : DataW.TrodAll enc Try.prog W 0 (fun _ => true) true Try.f8.params.toList args.toList ds p := hA0
  rw [Try.params8] at hA hval
  obtain ⟨v0, vs0, d0, ds0, p0, q0, hargs, rfl, rfl, h0, r0⟩ := trodAll_cons hA
  obtain ⟨v1, vs1, d1, ds1, p1, q1, rfl, rfl, rfl, h1, r1⟩ := trodAll_cons r0
  obtain ⟨rfl, rfl, rfl⟩ := trodAll_nil r1
  obtain rfl : args = #[v0, v1] := by cases args; simp_all
  obtain ⟨rfl, rfl⟩ := trodVars_none hV
  obtain ⟨a0, rfl, rfl, rfl, w0⟩ := open_int Try.underlying3 (hval 0 3 v0 rfl rfl) h0
  obtain ⟨a1, rfl, rfl, rfl, w1⟩ := open_int Try.underlying3 (hval 1 3 v1 rfl rfl) h1
  clear hA0 hval0
  refine (walk a0 a1 W w0 w1).mono fun e W' ⟨he, bel⟩ => ?_
  subst he
  exact ⟨_, rfl, _, _, _, [], _, [], hW', trodAll_mk1 (shut_bool Try.underlying4 _), (trodAll_cons_mk (shut_int Try.underlying3 w0) (trodAll_cons_mk (shut_int Try.underlying3 w1) trodAll_mk0)), rfl, bel.frame _, fun h => by cases h⟩

theorem over : Rows.modelNewsRow.holds Try.pinned (OpenSpec.ofChange Rows.modelNewsSpec) :=
  OpenClaim.holds_of_wide 8 Try.f8 rfl rfl rfl rfl rfl rfl rfl ⟨rfl, rfl, rfl, rfl, rfl⟩ rfl rfl rfl rfl rfl (by kernel_rfl) Try.func8 (by kernel_rfl)
    (of_decide_eq_true (by kernel_rfl)) (by unfold Func.isWrapper; first | (rw [if_pos (by decide +kernel)]; kernel_rfl) | (rw [if_neg (by decide +kernel)]; exact ⟨rfl, rfl⟩))
    (fun os started H enc _ => lifted os started H enc)

/-- ████ THE STATEMENT ████ -/
theorem proved : Rows.ModelNewsSaid := over
#print axioms proved
end Go.Proofs.Yteiodnclpbjbbaa.modelNews
