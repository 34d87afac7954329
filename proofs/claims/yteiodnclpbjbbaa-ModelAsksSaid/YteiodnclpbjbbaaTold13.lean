/-
  lavabolaw13.told answers true.
-/
import Derived.Test.YteiodnclpbjbbaaPmRes
namespace Go.Proofs.Yteiodnclpbjbbaa.Told13
open Go.ChangeShapes Go.WideShapes Go.ChangeAt Go.RowKit
open Go.Proofs.Yteiodnclpbjbbaa.Mem Go.Proofs.Yteiodnclpbjbbaa.Blk Go.Proofs.Yteiodnclpbjbbaa.Cells Go.Proofs.Yteiodnclpbjbbaa.Orow Go.Proofs.Yteiodnclpbjbbaa.GrC Go.Proofs.Yteiodnclpbjbbaa.MdM Go.Proofs.Yteiodnclpbjbbaa.MdC Go.Proofs.Yteiodnclpbjbbaa.MdD Go.Proofs.Yteiodnclpbjbbaa.PmC Go.Proofs.Yteiodnclpbjbbaa.PmM Go.Proofs.Yteiodnclpbjbbaa.PmS Go.Proofs.Yteiodnclpbjbbaa.PmE Go.Proofs.Yteiodnclpbjbbaa.PmN Go.Proofs.Yteiodnclpbjbbaa.PmF Go.Proofs.Yteiodnclpbjbbaa.Stages

def s0 : Md := fresh 2 1
def o1 : MdOp := ⟨1, 0, 0, 0, 0, []⟩
def s1 : Md := (s0.run 0 o1).2
def o2 : MdOp := ⟨4, 0, 0, 14, 0, [120, 121]⟩
def s2 : Md := (s1.run 0 o2).2
def o3 : MdOp := ⟨3, 0, 0, 13, 3, []⟩
def o4 : MdOp := ⟨8, 0, 0, 0, 0, []⟩
def o5 : MdOp := ⟨5, 0, 0, 0, 0, []⟩
def s3 : Md := (s2.run 0 o5).2
def o6 : MdOp := ⟨3, 0, 0, 0, 0, []⟩
def o7 : MdOp := ⟨2, 1, 0, 0, 0, []⟩
def o8 : MdOp := ⟨9, 0, 0, 0, 0, []⟩
theorem p1 : s0.run 0 ⟨1, 0, 0, 0, 0, []⟩ = (⟨0, 0, 0, []⟩, s1) := rfl
theorem p2 : s1.run 0 ⟨4, 0, 0, 14, 0, [120, 121]⟩ = (⟨0, 0, 0, []⟩, s2) := rfl
theorem p3 : s2.run 0 ⟨3, 0, 0, 13, 3, []⟩ = (⟨0, 0, 0, [0, 120, 121]⟩, s2) := rfl
theorem p4 : s2.run 0 ⟨8, 0, 0, 0, 0, []⟩ = (⟨7, 0, 0, []⟩, s2) := rfl
theorem p5 : s2.run 0 ⟨5, 0, 0, 0, 0, []⟩ = (⟨0, 0, 0, []⟩, s3) := rfl
theorem p6 : s3.run 0 ⟨3, 0, 0, 0, 0, []⟩ = (⟨5, 0, 0, []⟩, s3) := rfl
theorem p7 : s3.run 0 ⟨2, 1, 0, 0, 0, []⟩ = (⟨2, 0, 0, []⟩, s3) := rfl
theorem p8 : s3.run 0 ⟨9, 0, 0, 0, 0, []⟩ = (⟨1, 0, 0, []⟩, s3) := rfl
theorem q1 : ((s2.pins 0 : Nat) : Int) = 1 := rfl
theorem q2 : ((s3.pins 0 : Nat) : Int) = 0 := rfl
theorem e1 : true = true ↔ (stOf s3).same (stOf s3) := ⟨fun _ => same_refl _, fun _ => rfl⟩
theorem e2 : false = true ↔ (stOf s2).same (stOf s3) := by
  refine ⟨fun h => Bool.noConfusion h, fun h => ?_⟩
  have := h.H 0 (by decide)
  exact absurd this (by decide)
set_option maxHeartbeats 8000000 in
set_option maxRecDepth 100000 in
theorem told_any (w : World) : Calls Try.prog 10 #[] w fun e w' => e = .returned (.bool true) ∧ Grow w w' := by
  have CN : Hid (Calls Try.prog 11 #[.int .i64 2, .int .i64 1] w (NewP 2 1 w)) := new_any 2 1 (by omega) (by omega) (by omega) (by omega) w
  go_enter Try.func10, Try.ntmps10
  go_upto_region 2 with (go_at_call 11; (with_reducible refine CN.out.mono ?_); rintro e wk ⟨v, rfl, hpa, hg⟩; obtain ⟨AT, cT, AB, cB, AH, cH, rfl⟩ := pat_form hpa; have HPA := Lib.hid hpa; have HGC := Lib.hid hg; clear hpa hg)
  obtain ⟨hs1, hs3⟩ := sb_new HPA.out
  have hgk := HGC.out.trans hs3
  obtain ⟨m, hbk⟩ : ∃ m, m = wk.heap.size := ⟨_, rfl⟩
  rw [← hbk] at hs1 ⊢
  clear hbk hs3 HPA HGC CN
  generalize wk.alloc (.cells #[.slice AT (fresh 2 1).n cT, .slice AB (fresh 2 1).n cB, .slice AH (fresh 2 1).N cH] 28) = w0 at hs1 hgk ⊢
  have HS0 : Hid (SB w0 m m s0) := hs1
  have HG0 := Lib.hid hgk
  have HML : Hid (m < w0.heap.size) := hs1.lt
  clear hs1 hgk
  obtain ⟨BT0, bt0, ct0, BB0, bb0, cb0, BH0, bh0, ch0, hbx, hpx⟩ := HS0.out
  have z0 := hbx.cell 0
  have z1 := hbx.cell 1
  have z2 := hbx.cell 2
  simp only [List.getElem?_cons_zero, List.getElem?_cons_succ] at z0 z1 z2
  have HP0 := Lib.hid hpx
  clear hbx hpx
  go_upto_region 3 with (go_at_call 12; (with_reducible refine (t_do0 HP0.out 0 1 0 0 0 0 (by omega) p1).mono ?_); rintro e wk ⟨AT, nT, cT, AB, nB, cB, AH, nH, cH, A1, n1, cap1, rfl, hpa, hre, hg⟩; have HPA := Lib.hid hpa; have HRE1 := Lib.hid hre; have HGC := Lib.hid hg; clear hpa hre hg)
  clear z0 z1 z2
  obtain ⟨hs1, hs2, hs3⟩ := sb_step HPA.out (m := m) (HML.out) 0 0 0 A1 n1 cap1
  have hzs := sl_grow HRE1.out.1 hs3
  have hgk : Grow w0 ((wk.alloc (.cells #[.slice AT nT cT, .slice AB nB cB, .slice AH nH cH] 28)).alloc (.cells #[.int .i64 0, .int .i64 0, .int .i64 0, .slice A1 n1 cap1] 31)) := HGC.out.trans hs3
  obtain ⟨b1, hbk⟩ : ∃ b1, b1 = wk.heap.size := ⟨_, rfl⟩
  rw [← hbk] at hs1 hs2 ⊢
  have hmb : m < b1 := by
    have h1 : m < w0.heap.size := HML.out
    have h2 := HGC.out.size
    omega
  have HMB1 := Lib.hid hmb
  clear hbk hs3 HPA HGC hmb
  generalize ((wk.alloc (.cells #[.slice AT nT cT, .slice AB nB cB, .slice AH nH cH] 28)).alloc (.cells #[.int .i64 0, .int .i64 0, .int .i64 0, .slice A1 n1 cap1] 31)) = w1 at hs1 hs2 hzs hgk ⊢
  have HS1 := Lib.hid hs1
  have HR1 := Lib.hid hs2
  have HD1 := Lib.hid hzs
  have HG1 := Lib.hid hgk
  clear hs1 hs2 hzs hgk
  have HML1 : Hid (m < w1.heap.size) := Nat.lt_of_lt_of_le HML.out HG1.out.size
  have hgb : Grow w1 (w1.alloc (.cells #[.int .u8 120, .int .u8 121] 5 (2, 3))) := (Kept.refl _ _).alloc _
  have HBY : Hid (Sl (w1.alloc (.cells #[.int .u8 120, .int .u8 121] 5 (2, 3))) (w1.alloc (.cells #[.int .u8 120, .int .u8 121] 5 (2, 3))).heap.size .u8 (some ⟨w1.heap.size, 0, none⟩) 2 [120, 121]) := (Sl.new w1 .u8 5 (2, 3) [120, 121]).more (by simp)
  have HGB := Lib.hid hgb
  have hcv := fun (w1 : World) C n c => Lib.run_convert_bytes_const (P := Try.prog) w1 22 5 C n c Try.underlying22 Try.underlying5
  clear hgb
  obtain ⟨BT1, bt1, ct1, BB1, bb1, cb1, BH1, bh1, ch1, hbx, hpx⟩ := HS1.out
  have z0 := hbx.cell 0
  have z1 := hbx.cell 1
  have z2 := hbx.cell 2
  simp only [List.getElem?_cons_zero, List.getElem?_cons_succ] at z0 z1 z2
  have HP1 := Lib.hid hpx
  clear hbx hpx
  have hbt : Bytes [120, 121] := fun c hc => by simp at hc; omega
  have HCON := Lib.hid (t_do (HP1.out.grow HGB.out) 0 4 0 0 14 0 (dc := 2) HBY.out hbt (Nat.le_refl _) (by unfold maxLen; omega) (by omega) p2)
  clear hbt
  go_upto_region 4 with (go_at_call 12; (with_reducible refine (HCON.out).mono ?_); rintro e wk ⟨AT, nT, cT, AB, nB, cB, AH, nH, cH, A2, n2, cap2, rfl, hpa, hre, hg⟩; have HPA := Lib.hid hpa; have HRE2 := Lib.hid hre; have HGC := Lib.hid hg; clear hpa hre hg)
  clear z0 z1 z2
  obtain ⟨hs1, hs2, hs3⟩ := sb_step HPA.out (m := m) (Nat.lt_of_lt_of_le HML1.out HGB.out.size) 0 0 0 A2 n2 cap2
  have hzs := sl_grow HRE2.out.1 hs3
  have hgk : Grow w1 ((wk.alloc (.cells #[.slice AT nT cT, .slice AB nB cB, .slice AH nH cH] 28)).alloc (.cells #[.int .i64 0, .int .i64 0, .int .i64 0, .slice A2 n2 cap2] 31)) := (HGB.out.trans HGC.out).trans hs3
  obtain ⟨b2, hbk⟩ : ∃ b2, b2 = wk.heap.size := ⟨_, rfl⟩
  rw [← hbk] at hs1 hs2 ⊢
  have hmb : m < b2 := by
    have h1 : m < w1.heap.size := HML1.out
    have h2 := HGC.out.size
    have h3 := HGB.out.size
    omega
  have HMB2 := Lib.hid hmb
  clear hbk hs3 HPA HGC hmb
  generalize ((wk.alloc (.cells #[.slice AT nT cT, .slice AB nB cB, .slice AH nH cH] 28)).alloc (.cells #[.int .i64 0, .int .i64 0, .int .i64 0, .slice A2 n2 cap2] 31)) = w2 at hs1 hs2 hzs hgk ⊢
  have HS2 := Lib.hid hs1
  have HR2 := Lib.hid hs2
  have HD2 := Lib.hid hzs
  have HG2 := Lib.hid hgk
  clear hs1 hs2 hzs hgk
  have HML2 : Hid (m < w2.heap.size) := Nat.lt_of_lt_of_le HML1.out HG2.out.size
  have HS1 := Lib.hid (HS1.out.grow HG2.out)
  have HR1 := Lib.hid (HR1.out.grow HG2.out)
  obtain ⟨BT2, bt2, ct2, BB2, bb2, cb2, BH2, bh2, ch2, hbx, hpx⟩ := HS2.out
  have z0 := hbx.cell 0
  have z1 := hbx.cell 1
  have z2 := hbx.cell 2
  simp only [List.getElem?_cons_zero, List.getElem?_cons_succ] at z0 z1 z2
  have HP2 := Lib.hid hpx
  clear hbx hpx
  go_upto_region 5 with (go_at_call 12; (with_reducible refine (t_do0 HP2.out 0 3 0 0 13 3 (by omega) p3).mono ?_); rintro e wk ⟨AT, nT, cT, AB, nB, cB, AH, nH, cH, A3, n3, cap3, rfl, hpa, hre, hg⟩; have HPA := Lib.hid hpa; have HRE3 := Lib.hid hre; have HGC := Lib.hid hg; clear hpa hre hg)
  clear z0 z1 z2
  obtain ⟨hs1, hs2, hs3⟩ := sb_step HPA.out (m := m) (HML2.out) 0 0 0 A3 n3 cap3
  have hzs := sl_grow HRE3.out.1 hs3
  have hgk : Grow w2 ((wk.alloc (.cells #[.slice AT nT cT, .slice AB nB cB, .slice AH nH cH] 28)).alloc (.cells #[.int .i64 0, .int .i64 0, .int .i64 0, .slice A3 n3 cap3] 31)) := HGC.out.trans hs3
  obtain ⟨b3, hbk⟩ : ∃ b3, b3 = wk.heap.size := ⟨_, rfl⟩
  rw [← hbk] at hs1 hs2 ⊢
  have hmb : m < b3 := by
    have h1 : m < w2.heap.size := HML2.out
    have h2 := HGC.out.size
    omega
  have HMB3 := Lib.hid hmb
  clear hbk hs3 HPA HGC hmb
  generalize ((wk.alloc (.cells #[.slice AT nT cT, .slice AB nB cB, .slice AH nH cH] 28)).alloc (.cells #[.int .i64 0, .int .i64 0, .int .i64 0, .slice A3 n3 cap3] 31)) = w3 at hs1 hs2 hzs hgk ⊢
  have HS3 := Lib.hid hs1
  have HR3 := Lib.hid hs2
  have HD3 := Lib.hid hzs
  have HG3 := Lib.hid hgk
  clear hs1 hs2 hzs hgk
  have HML3 : Hid (m < w3.heap.size) := Nat.lt_of_lt_of_le HML2.out HG3.out.size
  have HS1 := Lib.hid (HS1.out.grow HG3.out)
  have HR1 := Lib.hid (HR1.out.grow HG3.out)
  have HS2 := Lib.hid (HS2.out.grow HG3.out)
  have HR2 := Lib.hid (HR2.out.grow HG3.out)
  obtain ⟨BT2, bt2, ct2, BB2, bb2, cb2, BH2, bh2, ch2, hbx, hpx⟩ := HS2.out
  have z0 := hbx.cell 0
  have z1 := hbx.cell 1
  have z2 := hbx.cell 2
  simp only [List.getElem?_cons_zero, List.getElem?_cons_succ] at z0 z1 z2
  have HP2 := Lib.hid hpx
  clear hbx hpx
  go_upto_region 6 with (go_at_call 12; (with_reducible refine (t_do0 HP2.out 0 8 0 0 0 0 (by omega) p4).mono ?_); rintro e wk ⟨AT, nT, cT, AB, nB, cB, AH, nH, cH, A4, n4, cap4, rfl, hpa, hre, hg⟩; have HPA := Lib.hid hpa; have HRE4 := Lib.hid hre; have HGC := Lib.hid hg; clear hpa hre hg)
  clear z0 z1 z2
  obtain ⟨hs1, hs2, hs3⟩ := sb_step HPA.out (m := m) (HML3.out) 7 0 0 A4 n4 cap4
  have hzs := sl_grow HRE4.out.1 hs3
  have hgk : Grow w3 ((wk.alloc (.cells #[.slice AT nT cT, .slice AB nB cB, .slice AH nH cH] 28)).alloc (.cells #[.int .i64 7, .int .i64 0, .int .i64 0, .slice A4 n4 cap4] 31)) := HGC.out.trans hs3
  obtain ⟨b4, hbk⟩ : ∃ b4, b4 = wk.heap.size := ⟨_, rfl⟩
  rw [← hbk] at hs1 hs2 ⊢
  have hmb : m < b4 := by
    have h1 : m < w3.heap.size := HML3.out
    have h2 := HGC.out.size
    omega
  have HMB4 := Lib.hid hmb
  clear hbk hs3 HPA HGC hmb
  generalize ((wk.alloc (.cells #[.slice AT nT cT, .slice AB nB cB, .slice AH nH cH] 28)).alloc (.cells #[.int .i64 7, .int .i64 0, .int .i64 0, .slice A4 n4 cap4] 31)) = w4 at hs1 hs2 hzs hgk ⊢
  have HS4 := Lib.hid hs1
  have HR4 := Lib.hid hs2
  have HD4 := Lib.hid hzs
  have HG4 := Lib.hid hgk
  clear hs1 hs2 hzs hgk
  have HML4 : Hid (m < w4.heap.size) := Nat.lt_of_lt_of_le HML3.out HG4.out.size
  have HS1 := Lib.hid (HS1.out.grow HG4.out)
  have HR1 := Lib.hid (HR1.out.grow HG4.out)
  have HS2 := Lib.hid (HS2.out.grow HG4.out)
  have HR2 := Lib.hid (HR2.out.grow HG4.out)
  have HS3 := Lib.hid (HS3.out.grow HG4.out)
  have HR3 := Lib.hid (HR3.out.grow HG4.out)
  obtain ⟨BT2, bt2, ct2, BB2, bb2, cb2, BH2, bh2, ch2, hbx, hpx⟩ := HS2.out
  have z0 := hbx.cell 0
  have z1 := hbx.cell 1
  have z2 := hbx.cell 2
  simp only [List.getElem?_cons_zero, List.getElem?_cons_succ] at z0 z1 z2
  have HP2 := Lib.hid hpx
  clear hbx hpx
  go_upto_region 7 with (go_at_call 12; (with_reducible refine (t_do0 HP2.out 0 5 0 0 0 0 (by omega) p5).mono ?_); rintro e wk ⟨AT, nT, cT, AB, nB, cB, AH, nH, cH, A5, n5, cap5, rfl, hpa, hre, hg⟩; have HPA := Lib.hid hpa; have HRE5 := Lib.hid hre; have HGC := Lib.hid hg; clear hpa hre hg)
  clear z0 z1 z2
  obtain ⟨hs1, hs2, hs3⟩ := sb_step HPA.out (m := m) (HML4.out) 0 0 0 A5 n5 cap5
  have hzs := sl_grow HRE5.out.1 hs3
  have hgk : Grow w4 ((wk.alloc (.cells #[.slice AT nT cT, .slice AB nB cB, .slice AH nH cH] 28)).alloc (.cells #[.int .i64 0, .int .i64 0, .int .i64 0, .slice A5 n5 cap5] 31)) := HGC.out.trans hs3
  obtain ⟨b5, hbk⟩ : ∃ b5, b5 = wk.heap.size := ⟨_, rfl⟩
  rw [← hbk] at hs1 hs2 ⊢
  have hmb : m < b5 := by
    have h1 : m < w4.heap.size := HML4.out
    have h2 := HGC.out.size
    omega
  have HMB5 := Lib.hid hmb
  clear hbk hs3 HPA HGC hmb
  generalize ((wk.alloc (.cells #[.slice AT nT cT, .slice AB nB cB, .slice AH nH cH] 28)).alloc (.cells #[.int .i64 0, .int .i64 0, .int .i64 0, .slice A5 n5 cap5] 31)) = w5 at hs1 hs2 hzs hgk ⊢
  have HS5 := Lib.hid hs1
  have HR5 := Lib.hid hs2
  have HD5 := Lib.hid hzs
  have HG5 := Lib.hid hgk
  clear hs1 hs2 hzs hgk
  have HML5 : Hid (m < w5.heap.size) := Nat.lt_of_lt_of_le HML4.out HG5.out.size
  have HS1 := Lib.hid (HS1.out.grow HG5.out)
  have HR1 := Lib.hid (HR1.out.grow HG5.out)
  have HS2 := Lib.hid (HS2.out.grow HG5.out)
  have HR2 := Lib.hid (HR2.out.grow HG5.out)
  have HS3 := Lib.hid (HS3.out.grow HG5.out)
  have HR3 := Lib.hid (HR3.out.grow HG5.out)
  have HS4 := Lib.hid (HS4.out.grow HG5.out)
  have HR4 := Lib.hid (HR4.out.grow HG5.out)
  obtain ⟨BT5, bt5, ct5, BB5, bb5, cb5, BH5, bh5, ch5, hbx, hpx⟩ := HS5.out
  have z0 := hbx.cell 0
  have z1 := hbx.cell 1
  have z2 := hbx.cell 2
  simp only [List.getElem?_cons_zero, List.getElem?_cons_succ] at z0 z1 z2
  have HP5 := Lib.hid hpx
  clear hbx hpx
  go_upto_region 8 with (go_at_call 12; (with_reducible refine (t_do0 HP5.out 0 3 0 0 0 0 (by omega) p6).mono ?_); rintro e wk ⟨AT, nT, cT, AB, nB, cB, AH, nH, cH, A6, n6, cap6, rfl, hpa, hre, hg⟩; have HPA := Lib.hid hpa; have HRE6 := Lib.hid hre; have HGC := Lib.hid hg; clear hpa hre hg)
  clear z0 z1 z2
  obtain ⟨hs1, hs2, hs3⟩ := sb_step HPA.out (m := m) (HML5.out) 5 0 0 A6 n6 cap6
  have hzs := sl_grow HRE6.out.1 hs3
  have hgk : Grow w5 ((wk.alloc (.cells #[.slice AT nT cT, .slice AB nB cB, .slice AH nH cH] 28)).alloc (.cells #[.int .i64 5, .int .i64 0, .int .i64 0, .slice A6 n6 cap6] 31)) := HGC.out.trans hs3
  obtain ⟨b6, hbk⟩ : ∃ b6, b6 = wk.heap.size := ⟨_, rfl⟩
  rw [← hbk] at hs1 hs2 ⊢
  have hmb : m < b6 := by
    have h1 : m < w5.heap.size := HML5.out
    have h2 := HGC.out.size
    omega
  have HMB6 := Lib.hid hmb
  clear hbk hs3 HPA HGC hmb
  generalize ((wk.alloc (.cells #[.slice AT nT cT, .slice AB nB cB, .slice AH nH cH] 28)).alloc (.cells #[.int .i64 5, .int .i64 0, .int .i64 0, .slice A6 n6 cap6] 31)) = w6 at hs1 hs2 hzs hgk ⊢
  have HS6 := Lib.hid hs1
  have HR6 := Lib.hid hs2
  have HD6 := Lib.hid hzs
  have HG6 := Lib.hid hgk
  clear hs1 hs2 hzs hgk
  have HML6 : Hid (m < w6.heap.size) := Nat.lt_of_lt_of_le HML5.out HG6.out.size
  have HS1 := Lib.hid (HS1.out.grow HG6.out)
  have HR1 := Lib.hid (HR1.out.grow HG6.out)
  have HS2 := Lib.hid (HS2.out.grow HG6.out)
  have HR2 := Lib.hid (HR2.out.grow HG6.out)
  have HS3 := Lib.hid (HS3.out.grow HG6.out)
  have HR3 := Lib.hid (HR3.out.grow HG6.out)
  have HS4 := Lib.hid (HS4.out.grow HG6.out)
  have HR4 := Lib.hid (HR4.out.grow HG6.out)
  have HS5 := Lib.hid (HS5.out.grow HG6.out)
  have HR5 := Lib.hid (HR5.out.grow HG6.out)
  obtain ⟨BT5, bt5, ct5, BB5, bb5, cb5, BH5, bh5, ch5, hbx, hpx⟩ := HS5.out
  have z0 := hbx.cell 0
  have z1 := hbx.cell 1
  have z2 := hbx.cell 2
  simp only [List.getElem?_cons_zero, List.getElem?_cons_succ] at z0 z1 z2
  have HP5 := Lib.hid hpx
  clear hbx hpx
  go_upto_region 9 with (go_at_call 12; (with_reducible refine (t_do0 HP5.out 0 2 1 0 0 0 (by omega) p7).mono ?_); rintro e wk ⟨AT, nT, cT, AB, nB, cB, AH, nH, cH, A7, n7, cap7, rfl, hpa, hre, hg⟩; have HPA := Lib.hid hpa; have HRE7 := Lib.hid hre; have HGC := Lib.hid hg; clear hpa hre hg)
  clear z0 z1 z2
  obtain ⟨hs1, hs2, hs3⟩ := sb_step HPA.out (m := m) (HML6.out) 2 0 0 A7 n7 cap7
  have hzs := sl_grow HRE7.out.1 hs3
  have hgk : Grow w6 ((wk.alloc (.cells #[.slice AT nT cT, .slice AB nB cB, .slice AH nH cH] 28)).alloc (.cells #[.int .i64 2, .int .i64 0, .int .i64 0, .slice A7 n7 cap7] 31)) := HGC.out.trans hs3
  obtain ⟨b7, hbk⟩ : ∃ b7, b7 = wk.heap.size := ⟨_, rfl⟩
  rw [← hbk] at hs1 hs2 ⊢
  have hmb : m < b7 := by
    have h1 : m < w6.heap.size := HML6.out
    have h2 := HGC.out.size
    omega
  have HMB7 := Lib.hid hmb
  clear hbk hs3 HPA HGC hmb
  generalize ((wk.alloc (.cells #[.slice AT nT cT, .slice AB nB cB, .slice AH nH cH] 28)).alloc (.cells #[.int .i64 2, .int .i64 0, .int .i64 0, .slice A7 n7 cap7] 31)) = w7 at hs1 hs2 hzs hgk ⊢
  have HS7 := Lib.hid hs1
  have HR7 := Lib.hid hs2
  have HD7 := Lib.hid hzs
  have HG7 := Lib.hid hgk
  clear hs1 hs2 hzs hgk
  have HML7 : Hid (m < w7.heap.size) := Nat.lt_of_lt_of_le HML6.out HG7.out.size
  have HS1 := Lib.hid (HS1.out.grow HG7.out)
  have HR1 := Lib.hid (HR1.out.grow HG7.out)
  have HS2 := Lib.hid (HS2.out.grow HG7.out)
  have HR2 := Lib.hid (HR2.out.grow HG7.out)
  have HS3 := Lib.hid (HS3.out.grow HG7.out)
  have HR3 := Lib.hid (HR3.out.grow HG7.out)
  have HS4 := Lib.hid (HS4.out.grow HG7.out)
  have HR4 := Lib.hid (HR4.out.grow HG7.out)
  have HS5 := Lib.hid (HS5.out.grow HG7.out)
  have HR5 := Lib.hid (HR5.out.grow HG7.out)
  have HS6 := Lib.hid (HS6.out.grow HG7.out)
  have HR6 := Lib.hid (HR6.out.grow HG7.out)
  obtain ⟨BT5, bt5, ct5, BB5, bb5, cb5, BH5, bh5, ch5, hbx, hpx⟩ := HS5.out
  have z0 := hbx.cell 0
  have z1 := hbx.cell 1
  have z2 := hbx.cell 2
  simp only [List.getElem?_cons_zero, List.getElem?_cons_succ] at z0 z1 z2
  have HP5 := Lib.hid hpx
  clear hbx hpx
  go_upto_region 10 with (go_at_call 12; (with_reducible refine (t_do0 HP5.out 0 9 0 0 0 0 (by omega) p8).mono ?_); rintro e wk ⟨AT, nT, cT, AB, nB, cB, AH, nH, cH, A8, n8, cap8, rfl, hpa, hre, hg⟩; have HPA := Lib.hid hpa; have HRE8 := Lib.hid hre; have HGC := Lib.hid hg; clear hpa hre hg)
  clear z0 z1 z2
  obtain ⟨hs1, hs2, hs3⟩ := sb_step HPA.out (m := m) (HML7.out) 1 0 0 A8 n8 cap8
  have hzs := sl_grow HRE8.out.1 hs3
  have hgk : Grow w7 ((wk.alloc (.cells #[.slice AT nT cT, .slice AB nB cB, .slice AH nH cH] 28)).alloc (.cells #[.int .i64 1, .int .i64 0, .int .i64 0, .slice A8 n8 cap8] 31)) := HGC.out.trans hs3
  obtain ⟨b8, hbk⟩ : ∃ b8, b8 = wk.heap.size := ⟨_, rfl⟩
  rw [← hbk] at hs1 hs2 ⊢
  have hmb : m < b8 := by
    have h1 : m < w7.heap.size := HML7.out
    have h2 := HGC.out.size
    omega
  have HMB8 := Lib.hid hmb
  clear hbk hs3 HPA HGC hmb
  generalize ((wk.alloc (.cells #[.slice AT nT cT, .slice AB nB cB, .slice AH nH cH] 28)).alloc (.cells #[.int .i64 1, .int .i64 0, .int .i64 0, .slice A8 n8 cap8] 31)) = w8 at hs1 hs2 hzs hgk ⊢
  have HS8 := Lib.hid hs1
  have HR8 := Lib.hid hs2
  have HD8 := Lib.hid hzs
  have HG8 := Lib.hid hgk
  clear hs1 hs2 hzs hgk
  have HML8 : Hid (m < w8.heap.size) := Nat.lt_of_lt_of_le HML7.out HG8.out.size
  have HS1 := Lib.hid (HS1.out.grow HG8.out)
  have HR1 := Lib.hid (HR1.out.grow HG8.out)
  have HS2 := Lib.hid (HS2.out.grow HG8.out)
  have HR2 := Lib.hid (HR2.out.grow HG8.out)
  have HS3 := Lib.hid (HS3.out.grow HG8.out)
  have HR3 := Lib.hid (HR3.out.grow HG8.out)
  have HS4 := Lib.hid (HS4.out.grow HG8.out)
  have HR4 := Lib.hid (HR4.out.grow HG8.out)
  have HS5 := Lib.hid (HS5.out.grow HG8.out)
  have HR5 := Lib.hid (HR5.out.grow HG8.out)
  have HS6 := Lib.hid (HS6.out.grow HG8.out)
  have HR6 := Lib.hid (HR6.out.grow HG8.out)
  have HS7 := Lib.hid (HS7.out.grow HG8.out)
  have HR7 := Lib.hid (HR7.out.grow HG8.out)
  have HNB : Hid (Bytes []) := fun _ h => (by cases h)
  have HSL1 := Lib.hid (sl_grow (sl_grow (sl_grow (sl_grow (sl_grow (sl_grow (sl_grow HD1.out HG2.out) HG3.out) HG4.out) HG5.out) HG6.out) HG7.out) HG8.out)
  have HSLX := Lib.hid fun (w' : World) (hk : Grow w8 w') => sl_grow HSL1.out hk
  have HSL3 := Lib.hid (sl_grow (sl_grow (sl_grow (sl_grow (sl_grow HD3.out HG4.out) HG5.out) HG6.out) HG7.out) HG8.out)
  obtain ⟨X1, x1, y1, X2, x2, y2, X3, x3, y3, hb2, hp2⟩ := HS2.out
  obtain ⟨V1, v1, u1, V2, v2, u2, V3, v3, u3, hb5, hp5⟩ := HS5.out
  have HP2 := Lib.hid hp2
  have HP5 := Lib.hid hp5
  clear hp2 hp5
  have a0 := hb2.cell 0
  have a1 := hb2.cell 1
  have a2 := hb2.cell 2
  have c0 := hb5.cell 0
  have c1 := hb5.cell 1
  have c2 := hb5.cell 2
  have ra0 := HR1.out.cell 0
  have ra1 := HR1.out.cell 1
  have ra2 := HR1.out.cell 2
  have ra3 := HR1.out.cell 3
  have rr2 := HR2.out.cell 0
  have rr4 := HR4.out.cell 0
  have rr6 := HR6.out.cell 0
  have rr7 := HR7.out.cell 0
  have rr8 := HR8.out.cell 0
  have r30 := HR3.out.cell 0
  have r33 := HR3.out.cell 3
  simp only [List.getElem?_cons_zero, List.getElem?_cons_succ] at a0 a1 a2 c0 c1 c2 ra0 ra1 ra2 ra3 rr2 rr4 rr6 rr7 rr8 r30 r33
  clear hb2 hb5
  have kst := HSL3.out.str (P := Try.prog) 22 9 5 Try.underlying22 Try.underlying5 Try.underlying9 cap3
  have kse : (strOfNums [0, 120, 121]).toList = [0, 120, 121] := by kernel_rfl
  have kf := fun (w : World) => field_st w none 0 0 (.slice none 0 0) (.slice none 0 0)
  simp only [List.append]
  go_wp2_with (first
    | (go_at_call 15; (with_reducible refine (t_may HP5.out).mono ?_); rintro e wa ⟨rfl, hgx⟩; have a0 := hgx.cellN a0 id; have a1 := hgx.cellN a1 id; have a2 := hgx.cellN a2 id; have c0 := hgx.cellN c0 id; have c1 := hgx.cellN c1 id; have c2 := hgx.cellN c2 id; have ra0 := hgx.cellN ra0 id; have ra1 := hgx.cellN ra1 id; have ra2 := hgx.cellN ra2 id; have ra3 := hgx.cellN ra3 id; have GA := Lib.hid hgx; clear hgx)
    | (go_at_call 22; (with_reducible refine (t_pins (HP2.out.grow GA.out) 0 q1).mono ?_); rintro e wb ⟨rfl, hgx⟩; have a0 := hgx.cellN a0 id; have a1 := hgx.cellN a1 id; have a2 := hgx.cellN a2 id; have c0 := hgx.cellN c0 id; have c1 := hgx.cellN c1 id; have c2 := hgx.cellN c2 id; have ra0 := hgx.cellN ra0 id; have ra1 := hgx.cellN ra1 id; have ra2 := hgx.cellN ra2 id; have ra3 := hgx.cellN ra3 id; have GB := Lib.hid hgx; clear hgx)
    | (go_at_call 22; (with_reducible refine (t_pins ((HP5.out.grow GA.out).grow GB.out) 0 q2).mono ?_); rintro e wc ⟨rfl, hgx⟩; have a0 := hgx.cellN a0 id; have a1 := hgx.cellN a1 id; have a2 := hgx.cellN a2 id; have c0 := hgx.cellN c0 id; have c1 := hgx.cellN c1 id; have c2 := hgx.cellN c2 id; have ra0 := hgx.cellN ra0 id; have ra1 := hgx.cellN ra1 id; have ra2 := hgx.cellN ra2 id; have ra3 := hgx.cellN ra3 id; have GC := Lib.hid hgx; clear hgx)
    | (go_at_call 16; (with_reducible refine (t_same (((HP5.out.grow GA.out).grow GB.out).grow GC.out) (((HP5.out.grow GA.out).grow GB.out).grow GC.out) e1).mono ?_); rintro e wd ⟨rfl, hgx⟩; have a0 := hgx.cellN a0 id; have a1 := hgx.cellN a1 id; have a2 := hgx.cellN a2 id; have c0 := hgx.cellN c0 id; have c1 := hgx.cellN c1 id; have c2 := hgx.cellN c2 id; have ra0 := hgx.cellN ra0 id; have ra1 := hgx.cellN ra1 id; have ra2 := hgx.cellN ra2 id; have ra3 := hgx.cellN ra3 id; have GD := Lib.hid hgx; clear hgx)
    | (go_at_call 16; (with_reducible refine (t_same ((((HP2.out.grow GA.out).grow GB.out).grow GC.out).grow GD.out) ((((HP5.out.grow GA.out).grow GB.out).grow GC.out).grow GD.out) e2).mono ?_); rintro e we ⟨rfl, hgx⟩; have a0 := hgx.cellN a0 id; have a1 := hgx.cellN a1 id; have a2 := hgx.cellN a2 id; have c0 := hgx.cellN c0 id; have c1 := hgx.cellN c1 id; have c2 := hgx.cellN c2 id; have ra0 := hgx.cellN ra0 id; have ra1 := hgx.cellN ra1 id; have ra2 := hgx.cellN ra2 id; have ra3 := hgx.cellN ra3 id; have GE := Lib.hid hgx; clear hgx)
    | (go_at_call 11; (with_reducible refine (new_bad 0 1 _ (by omega)).mono ?_); rintro e wf ⟨rfl, hgx⟩; have a0 := hgx.cellN a0 id; have a1 := hgx.cellN a1 id; have a2 := hgx.cellN a2 id; have c0 := hgx.cellN c0 id; have c1 := hgx.cellN c1 id; have c2 := hgx.cellN c2 id; have ra0 := hgx.cellN ra0 id; have ra1 := hgx.cellN ra1 id; have ra2 := hgx.cellN ra2 id; have ra3 := hgx.cellN ra3 id; have GF := Lib.hid hgx; clear hgx)
    | (go_at_call 15; (with_reducible refine (t_mayZero _).mono ?_); rintro e wg ⟨rfl, hgx⟩; have a0 := hgx.cellN a0 id; have a1 := hgx.cellN a1 id; have a2 := hgx.cellN a2 id; have c0 := hgx.cellN c0 id; have c1 := hgx.cellN c1 id; have c2 := hgx.cellN c2 id; have ra0 := hgx.cellN ra0 id; have ra1 := hgx.cellN ra1 id; have ra2 := hgx.cellN ra2 id; have ra3 := hgx.cellN ra3 id; have GH := Lib.hid hgx; clear hgx)
    | (go_at_call 24; (with_reducible refine (sameRes_any (HSLX.out _ ((((((GA.out.trans GB.out).trans GC.out).trans GD.out).trans GE.out).trans GF.out).trans GH.out)) (HSLX.out _ ((((((GA.out.trans GB.out).trans GC.out).trans GD.out).trans GE.out).trans GF.out).trans GH.out)) HNB.out HNB.out).mono ?_); rintro e wh ⟨⟨bz, rfl, hbz⟩, hgx⟩; have GI := Lib.hid hgx; obtain rfl : bz = true := hbz.2 ⟨rfl, rfl, rfl, rfl⟩; clear hgx hbz))
  go_ret
  exact ⟨rfl, ((((((((((((((((HG0.out.trans HG1.out).trans HG2.out).trans HG3.out).trans HG4.out).trans HG5.out).trans HG6.out).trans HG7.out).trans HG8.out).trans GA.out).trans GB.out).trans GC.out).trans GD.out).trans GE.out).trans GF.out).trans GH.out).trans GI.out)⟩
end Go.Proofs.Yteiodnclpbjbbaa.Told13
