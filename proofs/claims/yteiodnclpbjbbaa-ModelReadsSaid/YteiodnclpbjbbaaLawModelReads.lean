/-
  For every input the call of lavabolaw13.ModelReads returns true and leaves its arguments as they were; no condition.
-/
import Derived.Test.YteiodnclpbjbbaaPmLaw2
import Derived.Test.YteiodnclpbjbbaaRows
import Derived.WalkKit
import Derived.ProofKit
import Derived.OpenShut
import Derived.ShutString
import Derived.ChangeOld
import Derived.Below
namespace Go.Proofs.Yteiodnclpbjbbaa.modelReads
open Go.ChangeShapes Go.WideShapes Go.ChangeAt Go.RowKit
open Go.ChangeMaps (open_string shut_string)
open Go.Proofs.Yteiodnclpbjbbaa.Mem Go.Proofs.Yteiodnclpbjbbaa.Blk Go.Proofs.Yteiodnclpbjbbaa.Cells Go.Proofs.Yteiodnclpbjbbaa.Orow Go.Proofs.Yteiodnclpbjbbaa.GrC Go.Proofs.Yteiodnclpbjbbaa.MdM Go.Proofs.Yteiodnclpbjbbaa.MdC Go.Proofs.Yteiodnclpbjbbaa.MdD Go.Proofs.Yteiodnclpbjbbaa.PmC Go.Proofs.Yteiodnclpbjbbaa.PmM Go.Proofs.Yteiodnclpbjbbaa.PmS Go.Proofs.Yteiodnclpbjbbaa.PmE Go.Proofs.Yteiodnclpbjbbaa.PmN Go.Proofs.Yteiodnclpbjbbaa.PmF Go.Proofs.Yteiodnclpbjbbaa.Law13 Go.Proofs.Yteiodnclpbjbbaa.Law13b Go.Proofs.Yteiodnclpbjbbaa.PmR Go.Proofs.Yteiodnclpbjbbaa.PmV Go.Proofs.Yteiodnclpbjbbaa.PmI Go.Proofs.Yteiodnclpbjbbaa.Told13 Go.Proofs.Yteiodnclpbjbbaa.Stages
set_option linter.unusedVariables false

theorem own : ownKnob Try.prog.godebug = none := by kernel_rfl
theorem laidOut : laidOutB Try.prog = true := by kernel_rfl

/-- WHAT THE WALK IS TOLD OF A SLICE OF INTEGERS THAT CAME IN: it is nil; or it leads to a row of 'cap' cells, the numbers 'zs' (the first 'len' are its elements, the rest its spare room), each fitting its kind. -/
def IsRow (k : IntKind) (w : World) (a : Option Addr) (len cap : Nat) (zs : List Int) : Prop :=
  (a = none ∧ len = 0 ∧ cap = 0 ∧ zs = []) ∨
  ∃ x, a = some x ∧ len ≤ cap ∧ cap ≤ maxLen ∧ zs.length = cap ∧ (∀ i, i < zs.length → w.cell? (x.add i) = some (.int k (zs.getD i 0))) ∧ ∀ n ∈ zs, (Lit.int k n).wf = true

/-! ### STEP 1: THE WALK: the Go text returns true, AND WRITES NOTHING THAT WAS THERE: 'Below w.heap.size w w'' (Derived/Below.lean: '.refl', '.alloc', '.drew', '.setCell' at a new block, '.trans'). Open each 'IsRow' by 'rcases' AHEAD of 'go_enter'; part every test ahead of the walk. -/
set_option maxHeartbeats 1500000 in
set_option maxRecDepth 100000 in
theorem walk (a0 : Int) (a1 : Option Addr) (len1 cap1 : Nat) (z1 : List Int) (a2 : Int) (a3 : Int) (w : World) (w0 : (Lit.int .i64 a0).wf = true) (w1 : IsRow .u8 w a1 len1 cap1 z1) (w2 : (Lit.int .i64 a2).wf = true) (w3 : (Lit.int .i64 a3).wf = true) :
    Calls Try.prog 6 #[.int .i64 a0, .slice a1 len1 cap1, .int .i64 a2, .int .i64 a3] w fun e w' => e = .returned (.bool true) ∧ Below w.heap.size w w' := by
  obtain ⟨hsl, hlc, hcm, hwf⟩ := Sl.of_isRow w1
  have hbd : Bytes (z1.take len1) := fun c hc => by
    have := hwf c hc
    have := bounds_u8 this
    omega
  by_cases hl : 16 < len1
  · have hlz : (16 : Int) < (len1 : Int) := by omega
    clear hsl hbd hwf
    go_enter Try.func6, Try.ntmps6
    go_wp2_with (go_at_call 10; (with_reducible refine (told_any _).mono ?_); rintro e wt ⟨rfl, hge⟩; have HGE := Lib.hid hge; clear hge)
    go_ret
    exact ⟨rfl, Grow.below HGE.out⟩
  have hlz : (len1 : Int) ≤ 16 := by omega
  obtain ⟨d, hd⟩ : ∃ d, d = z1.take len1 := ⟨_, rfl⟩
  rw [← hd] at hsl hbd
  have hdl : d.length = len1 := hsl.len
  obtain ⟨M, hM⟩ : ∃ M : Nat, M = 17 - len1 := ⟨_, rfl⟩
  obtain ⟨u, hu, huM⟩ := tmod_nat a0 M (by omega)
  have hsm : 16 - (len1 : Int) + 1 = (M : Int) := by omega
  have hun : IntKind.u64.wrap (M : Int) = (M : Int) := IntWalk.u64_in _ (by omega)
  have hMz : (M : Int) ≤ 17 := by omega
  have hMp : 0 < (M : Int) := by omega
  obtain ⟨f, hf, hf17⟩ := tmod_nat a2 17 (by omega)
  simp only [Int.cast_ofNat_Int] at hf
  obtain ⟨Q, hQ⟩ : ∃ Q : Nat, Q = 17 - f := ⟨_, rfl⟩
  obtain ⟨c, hc, hcQ⟩ := tmod_nat a3 Q (by omega)
  have hsq : 16 - (f : Int) + 1 = (Q : Int) := by omega
  have huq : IntKind.u64.wrap (Q : Int) = (Q : Int) := IntWalk.u64_in _ (by omega)
  have hQz : (Q : Int) ≤ 17 := by omega
  have hQp : 0 < (Q : Int) := by omega
  have hfz : (f : Int) ≤ 16 := by omega
  have hcz : (c : Int) ≤ 16 := by omega
  have huz : (u : Int) ≤ 16 := by omega
  have hful : u + d.length ≤ 16 := by omega
  have hfc : f + c ≤ 16 := by omega
  have hD16 : (MdM.splice zeros u d).length = 16 := splice_len rfl hful
  have hDb : Bytes (MdM.splice zeros u d) := splice_bytes zeros_bytes hbd
  have E3 := Lib.hid (r3 hful)
  obtain ⟨DD, hDD⟩ : ∃ DD, DD = MdM.splice zeros u d := ⟨_, rfl⟩
  have E4 : Hid ((R3 DD).run 1 ⟨3, 0, 0, (f : Int), (c : Int), []⟩ = (⟨0, 0, 0, (DD.drop f).take c⟩, R3 DD)) := r3r hfc
  have HDD := Lib.hid hDD
  have HD16 : Hid (DD.length = 16) := by rw [hDD]; exact hD16
  have HDB : Hid (Bytes DD) := by rw [hDD]; exact hDb
  rw [← hDD] at E3
  have HSL := Lib.hid hsl
  have HBD := Lib.hid hbd
  have HUL : Hid (u + len1 ≤ 16) := by rw [← hdl]; exact hful
  have HFC := Lib.hid hfc
  have HLC := Lib.hid (And.intro hlc hcm)
  have HU16 : Hid (u ≤ 16) := by show u ≤ 16; omega
  clear hsl hbd hl hwf hd hdl hM huM hf17 hQ hcQ hful hfc hD16 hDb hDD
  have CN : Hid (Calls Try.prog 11 #[.int .i64 3, .int .i64 2] w (NewP 3 2 w)) := new_any 3 2 (by omega) (by omega) (by omega) (by omega) w
  go_enter Try.func6, Try.ntmps6
  go_upto_region 4 with (go_at_call 11; (with_reducible refine CN.out.mono ?_); rintro e wk ⟨v, rfl, hpa, hg⟩; obtain ⟨AT, cT, AB, cB, AH, cH, rfl⟩ := pat_form hpa; have HPA := Lib.hid hpa; have HGC := Lib.hid hg; clear hpa hg)
  obtain ⟨hs1, hs3⟩ := sb_new HPA.out
  have hgk := HGC.out.trans hs3
  have hmw := HGC.out.size
  obtain ⟨m, hbk⟩ : ∃ m, m = wk.heap.size := ⟨_, rfl⟩
  rw [← hbk] at hs1 hmw ⊢
  have HMW := Lib.hid hmw
  clear hbk hs3 HPA HGC CN hmw
  generalize wk.alloc (.cells #[.slice AT (fresh 3 2).n cT, .slice AB (fresh 3 2).n cB, .slice AH (fresh 3 2).N cH] 28) = w0 at hs1 hgk ⊢
  have HS0 : Hid (SB w0 m m (R0)) := hs1
  have HG0 := Lib.hid hgk
  have HML : Hid (m < w0.heap.size) := hs1.lt
  clear hs1 hgk
  obtain ⟨BT0, bt0, ct0, BB0, bb0, cb0, BH0, bh0, ch0, hbx, hpx⟩ := HS0.out
  have z0 := hbx.cell 0
  have z1 := hbx.cell 1
  have z2 := hbx.cell 2
  simp only [List.getElem?_cons_zero, List.getElem?_cons_succ] at z0 z1 z2
  have HP0 := Lib.hid hpx
  clear hbx hpx
  obtain ⟨xm, ym, zm, hbm⟩ := HS0.out.box
  have HBM := Lib.hid hbm
  clear hbm
  go_upto_region 5 with (go_at_call 12; (with_reducible refine (t_do0 HP0.out 0 1 0 0 0 0 (by omega) r1).mono ?_); rintro e wk ⟨AT, nT, cT, AB, nB, cB, AH, nH, cH, A21, n21, cap21, rfl, hpa, hre, hg⟩; have HPA := Lib.hid hpa; have HRE21 := Lib.hid hre; have HGC := Lib.hid hg; have hbm := HBM.out.grow hg; have y0 := hbm.cell 0; have y1 := hbm.cell 1; have y2 := hbm.cell 2; have yf := hbm.frozen; simp only [List.getElem?_cons_zero, List.getElem?_cons_succ] at y0 y1 y2; have HBN := Lib.hid hbm; clear hpa hre hg hbm)
  clear z0 z1 z2 y0 y1 y2 yf
  obtain ⟨hs1, hk1⟩ := sb_put (HPA.out.mono (X := fun k => k ≠ m) fun k _ (x : w0.heap.size ≤ k) => Nat.ne_of_gt (Nat.lt_of_lt_of_le (HML.out) x)) HBN.out
  have HK21 := Lib.hid ((Grow.kept (F := fun k => k = m) HGC.out).trans hk1)
  generalize ((wk.setCell ⟨m, 0, none⟩ (.slice AT nT cT)).setCell ⟨m, 1, none⟩ (.slice AB nB cB)).setCell ⟨m, 2, none⟩ (.slice AH nH cH) = w21 at hs1 HK21 ⊢
  have HS21 := Lib.hid hs1
  clear hs1 hk1 HBM HBN HPA HGC
  have HML21 : Hid (m < w21.heap.size) := Nat.lt_of_lt_of_le HML.out HK21.out.size
  obtain ⟨BT21, bt21, ct21, BB21, bb21, cb21, BH21, bh21, ch21, hbx, hpx⟩ := HS21.out
  have z0 := hbx.cell 0
  have z1 := hbx.cell 1
  have z2 := hbx.cell 2
  simp only [List.getElem?_cons_zero, List.getElem?_cons_succ] at z0 z1 z2
  have HP21 := Lib.hid hpx
  clear hbx hpx
  obtain ⟨xm, ym, zm, hbm⟩ := HS21.out.box
  have HBM := Lib.hid hbm
  clear hbm
  go_upto_region 6 with (go_at_call 12; (with_reducible refine (t_do0 HP21.out 1 2 0 0 0 0 (by omega) r2).mono ?_); rintro e wk ⟨AT, nT, cT, AB, nB, cB, AH, nH, cH, A22, n22, cap22, rfl, hpa, hre, hg⟩; have HPA := Lib.hid hpa; have HRE22 := Lib.hid hre; have HGC := Lib.hid hg; have hbm := HBM.out.grow hg; have y0 := hbm.cell 0; have y1 := hbm.cell 1; have y2 := hbm.cell 2; have yf := hbm.frozen; simp only [List.getElem?_cons_zero, List.getElem?_cons_succ] at y0 y1 y2; have HBN := Lib.hid hbm; clear hpa hre hg hbm)
  clear z0 z1 z2 y0 y1 y2 yf
  obtain ⟨hs1, hk1⟩ := sb_put (HPA.out.mono (X := fun k => k ≠ m) fun k _ (x : w21.heap.size ≤ k) => Nat.ne_of_gt (Nat.lt_of_lt_of_le (HML21.out) x)) HBN.out
  have HK22 := Lib.hid ((Grow.kept (F := fun k => k = m) HGC.out).trans hk1)
  generalize ((wk.setCell ⟨m, 0, none⟩ (.slice AT nT cT)).setCell ⟨m, 1, none⟩ (.slice AB nB cB)).setCell ⟨m, 2, none⟩ (.slice AH nH cH) = w22 at hs1 HK22 ⊢
  have HS22 := Lib.hid hs1
  clear hs1 hk1 HBM HBN HPA HGC
  have HML22 : Hid (m < w22.heap.size) := Nat.lt_of_lt_of_le HML21.out HK22.out.size
  have HG22 : Hid (Grow w w22) := HG0.out.then (HK21.out.trans HK22.out) fun x hx e => by have e : x = m := e; have := HMW.out; omega
  go_upto_region 7 with (fail)
  clear hsm hun hu hMp
  obtain ⟨BT22, bt22, ct22, BB22, bb22, cb22, BH22, bh22, ch22, hbx, hpx⟩ := HS22.out
  have z0 := hbx.cell 0
  have z1 := hbx.cell 1
  have z2 := hbx.cell 2
  simp only [List.getElem?_cons_zero, List.getElem?_cons_succ] at z0 z1 z2
  have HP22 := Lib.hid hpx
  clear hbx hpx
  have HCON := Lib.hid (t_do HP22.out 0 4 0 0 (u : Int) 0 (dc := cap1) (sl_grow HSL.out HG22.out) HBD.out HLC.out.1 HLC.out.2 (by omega) E3.out)
  obtain ⟨xm, ym, zm, hbm⟩ := HS22.out.box
  have HBM := Lib.hid hbm
  clear hbm
  go_upto_region 8 with (go_at_call 12; (with_reducible refine (HCON.out).mono ?_); rintro e wk ⟨AT, nT, cT, AB, nB, cB, AH, nH, cH, A23, n23, cap23, rfl, hpa, hre, hg⟩; have HPA := Lib.hid hpa; have HRE23 := Lib.hid hre; have HGC := Lib.hid hg; have hbk0 := HBM.out.grow hg; have hbm := hbk0.alloc (.cells #[.int .i64 0, .int .i64 0, .int .i64 0, .slice none 0 0] 31); have y0 := hbm.cell 0; have y1 := hbm.cell 1; have y2 := hbm.cell 2; have yf := hbm.frozen; have hne : wk.heap.size ≠ m := Nat.ne_of_gt hbk0.lt; have hrb : Blk ((((wk.alloc (.cells #[.int .i64 0, .int .i64 0, .int .i64 0, .slice none 0 0] 31)).setCell ⟨m, 0, none⟩ (.slice AT nT cT)).setCell ⟨m, 1, none⟩ (.slice AB nB cB)).setCell ⟨m, 2, none⟩ (.slice AH nH cH)) wk.heap.size 31 [.int .i64 0, .int .i64 0, .int .i64 0, .slice none 0 0] := (((Blk.new wk 31 [.int .i64 0, .int .i64 0, .int .i64 0, .slice none 0 0]).other (p := ⟨m, 0, none⟩) hne _).other (p := ⟨m, 1, none⟩) hne _).other (p := ⟨m, 2, none⟩) hne _; have x0 := hrb.cell 0; have x1 := hrb.cell 1; have x2 := hrb.cell 2; have x3 := hrb.cell 3; have xf := hrb.frozen; simp only [List.getElem?_cons_zero, List.getElem?_cons_succ] at y0 y1 y2 x0 x1 x2 x3; have HBN := Lib.hid hbk0; clear hpa hre hg hbm hbk0 hne hrb)
  clear z0 z1 z2 y0 y1 y2 yf x0 x1 x2 x3 xf
  obtain ⟨hs1, hs2, hk1⟩ := sb_putr HPA.out (HML22.out) HBN.out 0 0 0 A23 n23 cap23
  have hmb : m < wk.heap.size := Nat.lt_of_lt_of_le (HML22.out) HGC.out.size
  obtain ⟨b23, hbk⟩ : ∃ b23, b23 = wk.heap.size := ⟨_, rfl⟩
  have HREW : Hid (∀ x, A23 = some x → 0 < n23 → x.block ≠ m) := fun x e h0 e2 => by
    have h1 := HRE23.out.2 h0 x e
    have h2 : m < w22.heap.size := HML22.out
    omega
  have hd1 : Sl wk wk.heap.size .u8 A23 n23 _ := HRE23.out.1
  rw [← hbk] at hs1 hs2 hk1 hmb ⊢
  have HMB23 := Lib.hid hmb
  have HK23 := Lib.hid ((Grow.kept (F := fun k => k = m) HGC.out).trans hk1)
  generalize ((((((((wk.alloc (.cells #[.int .i64 0, .int .i64 0, .int .i64 0, .slice none 0 0] 31)).setCell ⟨m, 0, none⟩ (.slice AT nT cT)).setCell ⟨m, 1, none⟩ (.slice AB nB cB)).setCell ⟨m, 2, none⟩ (.slice AH nH cH)).setCell ⟨b23, 0, none⟩ (.int .i64 0)).setCell ⟨b23, 1, none⟩ (.int .i64 0)).setCell ⟨b23, 2, none⟩ (.int .i64 0)).setCell ⟨b23, 3, none⟩ (.slice A23 n23 cap23)) = w23 at hs1 hs2 HK23 ⊢
  have HS23 := Lib.hid hs1
  have HR23 := Lib.hid hs2
  clear hs1 hs2 hk1 hmb hbk hd1 HREW HBM HBN HPA HGC
  have HML23 : Hid (m < w23.heap.size) := Nat.lt_of_lt_of_le HML22.out HK23.out.size
  clear hMz hlz huz
  go_upto_region 9 with (fail)
  clear hf
  go_upto_region 10 with (fail)
  clear hsq huq hc hQp
  obtain ⟨BT23, bt23, ct23, BB23, bb23, cb23, BH23, bh23, ch23, hbx, hpx⟩ := HS23.out
  have z0 := hbx.cell 0
  have z1 := hbx.cell 1
  have z2 := hbx.cell 2
  simp only [List.getElem?_cons_zero, List.getElem?_cons_succ] at z0 z1 z2
  have HP23 := Lib.hid hpx
  clear hbx hpx
  go_upto_region 11 with (go_at_call 12; (with_reducible refine (t_do0 HP23.out 1 3 0 0 (f : Int) (c : Int) (by omega) E4.out).mono ?_); rintro e wk ⟨AT, nT, cT, AB, nB, cB, AH, nH, cH, A24, n24, cap24, rfl, hpa, hre, hg⟩; have HPA := Lib.hid hpa; have HRE24 := Lib.hid hre; have HGC := Lib.hid hg; clear hpa hre hg)
  clear z0 z1 z2
  obtain ⟨hs1, hs2, hs3⟩ := sb_step HPA.out (m := m) (HML23.out) 0 0 0 A24 n24 cap24
  have hzs := sl_grow HRE24.out.1 hs3
  have hgk : Grow w23 ((wk.alloc (.cells #[.slice AT nT cT, .slice AB nB cB, .slice AH nH cH] 28)).alloc (.cells #[.int .i64 0, .int .i64 0, .int .i64 0, .slice A24 n24 cap24] 31)) := HGC.out.trans hs3
  obtain ⟨b24, hbk⟩ : ∃ b24, b24 = wk.heap.size := ⟨_, rfl⟩
  rw [← hbk] at hs1 hs2 ⊢
  have hmb : m < b24 := by
    have h1 : m < w23.heap.size := HML23.out
    have h2 := HGC.out.size
    omega
  have HMB24 := Lib.hid hmb
  clear hbk hs3 HPA HGC hmb
  generalize ((wk.alloc (.cells #[.slice AT nT cT, .slice AB nB cB, .slice AH nH cH] 28)).alloc (.cells #[.int .i64 0, .int .i64 0, .int .i64 0, .slice A24 n24 cap24] 31)) = w24 at hs1 hs2 hzs hgk ⊢
  have HS24 := Lib.hid hs1
  have HR24 := Lib.hid hs2
  have HD24 := Lib.hid hzs
  have HG24 := Lib.hid hgk
  clear hs1 hs2 hzs hgk
  have HML24 : Hid (m < w24.heap.size) := Nat.lt_of_lt_of_le HML23.out HG24.out.size
  have HSX := Lib.hid (HS23.out.grow HG24.out)
  have HR23 := Lib.hid (HR23.out.grow HG24.out)
  have km := made16
  go_upto_region 12 with (fail)
  clear km
  have hmk : NBlk (w24.alloc (.cells (madeCells #[Value.int .u8 0] 16) 5)) w24.heap.size 5 .u8 (List.replicate 16 0) := NBlk.made w24 5 .u8 16
  have hgm : Grow w24 (w24.alloc (.cells (madeCells #[Value.int .u8 0] 16) 5)) := (Kept.refl _ _).alloc _
  have hmw : m < w24.heap.size := HML24.out
  obtain ⟨g, hgg⟩ : ∃ g, g = w24.heap.size := ⟨_, rfl⟩
  rw [← hgg] at hmk hmw ⊢
  have HGG := Lib.hid hgg
  have HMG := Lib.hid hmw
  generalize w24.alloc (.cells (madeCells #[Value.int .u8 0] 16) 5) = wa at hmk hgm ⊢
  have HORA : Hid (OR wa g 5 1 16 16 (ucell zeros)) := PmN.or_zeros hmk
  have hfull : Grow w wa := ((HG22.out.then HK23.out fun x hx e => by have e : x = m := e; have := HMW.out; omega).trans HG24.out).trans hgm
  obtain ⟨w25, hcp, hor, hk5⟩ := copy_body (u := u) (A := a1) (n := len1) HORA.out (Nat.le_refl 16) rfl (sl_grow HSL.out hfull) HUL.out cap1
  rw [← HDD.out] at hor
  have HOR := Lib.hid hor
  have hGK : Grow w24 w25 := hgm.then hk5 fun x hx e => by have e : x = g := e; have := HGG.out; omega
  have hsa := slice_from g 16 u HU16.out
  have HG25 := Lib.hid hGK
  clear hmk hgg hgm hmw hfull hor hk5 hGK
  go_upto_region 13 with (fail)
  clear hsa hcp
  have HS25 := Lib.hid (HSX.out.grow HG25.out)
  have HR23 := Lib.hid (HR23.out.grow HG25.out)
  have HR24 := Lib.hid (HR24.out.grow HG25.out)
  have HD25 := Lib.hid (sl_grow HD24.out HG25.out)
  have HML25 : Hid (m < w25.heap.size) := Nat.lt_of_lt_of_le HML24.out HG25.out.size
  obtain ⟨BT25, bt25, ct25, BB25, bb25, cb25, BH25, bh25, ch25, hbx, hpx⟩ := HS25.out
  have z0 := hbx.cell 0
  have z1 := hbx.cell 1
  have z2 := hbx.cell 2
  simp only [List.getElem?_cons_zero, List.getElem?_cons_succ] at z0 z1 z2
  have HP25 := Lib.hid hpx
  clear hbx hpx
  obtain ⟨xm, ym, zm, hbm⟩ := HS25.out.box
  have HBM := Lib.hid hbm
  clear hbm
  go_upto_region 14 with (go_at_call 12; (with_reducible refine (t_do0 HP25.out 0 5 0 0 0 0 (by omega) (r4 (D := DD))).mono ?_); rintro e wk ⟨AT, nT, cT, AB, nB, cB, AH, nH, cH, A26, n26, cap26, rfl, hpa, hre, hg⟩; have HPA := Lib.hid hpa; have HRE26 := Lib.hid hre; have HGC := Lib.hid hg; have hbm := HBM.out.grow hg; have y0 := hbm.cell 0; have y1 := hbm.cell 1; have y2 := hbm.cell 2; have yf := hbm.frozen; simp only [List.getElem?_cons_zero, List.getElem?_cons_succ] at y0 y1 y2; have HBN := Lib.hid hbm; clear hpa hre hg hbm)
  clear z0 z1 z2 y0 y1 y2 yf
  obtain ⟨hs1, hk1⟩ := sb_put (HPA.out.mono (X := fun k => k ≠ m) fun k _ (x : w25.heap.size ≤ k) => Nat.ne_of_gt (Nat.lt_of_lt_of_le (HML25.out) x)) HBN.out
  have HK26 := Lib.hid ((Grow.kept (F := fun k => k = m) HGC.out).trans hk1)
  generalize ((wk.setCell ⟨m, 0, none⟩ (.slice AT nT cT)).setCell ⟨m, 1, none⟩ (.slice AB nB cB)).setCell ⟨m, 2, none⟩ (.slice AH nH cH) = w26 at hs1 HK26 ⊢
  have HS26 := Lib.hid hs1
  clear hs1 hk1 HBM HBN HPA HGC
  have HML26 : Hid (m < w26.heap.size) := Nat.lt_of_lt_of_le HML25.out HK26.out.size
  have HR23 := Lib.hid (HR23.out.kept HK26.out (fun e => by have e : b23 = m := e; have := HMB23.out; omega))
  have HR24 := Lib.hid (HR24.out.kept HK26.out (fun e => by have e : b24 + 1 = m := e; have := HMB24.out; omega))
  obtain ⟨BT26, bt26, ct26, BB26, bb26, cb26, BH26, bh26, ch26, hbx, hpx⟩ := HS26.out
  have z0 := hbx.cell 0
  have z1 := hbx.cell 1
  have z2 := hbx.cell 2
  simp only [List.getElem?_cons_zero, List.getElem?_cons_succ] at z0 z1 z2
  have HP26 := Lib.hid hpx
  clear hbx hpx
  obtain ⟨xm, ym, zm, hbm⟩ := HS26.out.box
  have HBM := Lib.hid hbm
  clear hbm
  go_upto_region 15 with (go_at_call 12; (with_reducible refine (t_do0 HP26.out 1 5 0 0 0 0 (by omega) (r5 (D := DD))).mono ?_); rintro e wk ⟨AT, nT, cT, AB, nB, cB, AH, nH, cH, A27, n27, cap27, rfl, hpa, hre, hg⟩; have HPA := Lib.hid hpa; have HRE27 := Lib.hid hre; have HGC := Lib.hid hg; have hbm := HBM.out.grow hg; have y0 := hbm.cell 0; have y1 := hbm.cell 1; have y2 := hbm.cell 2; have yf := hbm.frozen; simp only [List.getElem?_cons_zero, List.getElem?_cons_succ] at y0 y1 y2; have HBN := Lib.hid hbm; clear hpa hre hg hbm)
  clear z0 z1 z2 y0 y1 y2 yf
  obtain ⟨hs1, hk1⟩ := sb_put (HPA.out.mono (X := fun k => k ≠ m) fun k _ (x : w26.heap.size ≤ k) => Nat.ne_of_gt (Nat.lt_of_lt_of_le (HML26.out) x)) HBN.out
  have HK27 := Lib.hid ((Grow.kept (F := fun k => k = m) HGC.out).trans hk1)
  generalize ((wk.setCell ⟨m, 0, none⟩ (.slice AT nT cT)).setCell ⟨m, 1, none⟩ (.slice AB nB cB)).setCell ⟨m, 2, none⟩ (.slice AH nH cH) = w27 at hs1 HK27 ⊢
  have HS27 := Lib.hid hs1
  clear hs1 hk1 HBM HBN HPA HGC
  have HML27 : Hid (m < w27.heap.size) := Nat.lt_of_lt_of_le HML26.out HK27.out.size
  have HR23 := Lib.hid (HR23.out.kept HK27.out (fun e => by have e : b23 = m := e; have := HMB23.out; omega))
  have HR24 := Lib.hid (HR24.out.kept HK27.out (fun e => by have e : b24 + 1 = m := e; have := HMB24.out; omega))
  obtain ⟨BT27, bt27, ct27, BB27, bb27, cb27, BH27, bh27, ch27, hbx, hpx⟩ := HS27.out
  have z0 := hbx.cell 0
  have z1 := hbx.cell 1
  have z2 := hbx.cell 2
  simp only [List.getElem?_cons_zero, List.getElem?_cons_succ] at z0 z1 z2
  have HP27 := Lib.hid hpx
  clear hbx hpx
  obtain ⟨xm, ym, zm, hbm⟩ := HS27.out.box
  have HBM := Lib.hid hbm
  clear hbm
  go_upto_region 16 with (go_at_call 12; (with_reducible refine (t_do0 HP27.out 0 8 0 0 0 0 (by omega) (r6 (D := DD))).mono ?_); rintro e wk ⟨AT, nT, cT, AB, nB, cB, AH, nH, cH, A28, n28, cap28, rfl, hpa, hre, hg⟩; have HPA := Lib.hid hpa; have HRE28 := Lib.hid hre; have HGC := Lib.hid hg; have hbk0 := HBM.out.grow hg; have hbm := hbk0.alloc (.cells #[.int .i64 0, .int .i64 0, .int .i64 0, .slice none 0 0] 31); have y0 := hbm.cell 0; have y1 := hbm.cell 1; have y2 := hbm.cell 2; have yf := hbm.frozen; have hne : wk.heap.size ≠ m := Nat.ne_of_gt hbk0.lt; have hrb : Blk ((((wk.alloc (.cells #[.int .i64 0, .int .i64 0, .int .i64 0, .slice none 0 0] 31)).setCell ⟨m, 0, none⟩ (.slice AT nT cT)).setCell ⟨m, 1, none⟩ (.slice AB nB cB)).setCell ⟨m, 2, none⟩ (.slice AH nH cH)) wk.heap.size 31 [.int .i64 0, .int .i64 0, .int .i64 0, .slice none 0 0] := (((Blk.new wk 31 [.int .i64 0, .int .i64 0, .int .i64 0, .slice none 0 0]).other (p := ⟨m, 0, none⟩) hne _).other (p := ⟨m, 1, none⟩) hne _).other (p := ⟨m, 2, none⟩) hne _; have x0 := hrb.cell 0; have x1 := hrb.cell 1; have x2 := hrb.cell 2; have x3 := hrb.cell 3; have xf := hrb.frozen; simp only [List.getElem?_cons_zero, List.getElem?_cons_succ] at y0 y1 y2 x0 x1 x2 x3; have HBN := Lib.hid hbk0; clear hpa hre hg hbm hbk0 hne hrb)
  clear z0 z1 z2 y0 y1 y2 yf x0 x1 x2 x3 xf
  obtain ⟨hs1, hs2, hk1⟩ := sb_putr HPA.out (HML27.out) HBN.out 0 0 0 A28 n28 cap28
  have hmb : m < wk.heap.size := Nat.lt_of_lt_of_le (HML27.out) HGC.out.size
  obtain ⟨b28, hbk⟩ : ∃ b28, b28 = wk.heap.size := ⟨_, rfl⟩
  have HREW : Hid (∀ x, A28 = some x → 0 < n28 → x.block ≠ m) := fun x e h0 e2 => by
    have h1 := HRE28.out.2 h0 x e
    have h2 : m < w27.heap.size := HML27.out
    omega
  have hd1 : Sl wk wk.heap.size .u8 A28 n28 _ := HRE28.out.1
  rw [← hbk] at hs1 hs2 hk1 hmb ⊢
  have HMB28 := Lib.hid hmb
  have HK28 := Lib.hid ((Grow.kept (F := fun k => k = m) HGC.out).trans hk1)
  generalize ((((((((wk.alloc (.cells #[.int .i64 0, .int .i64 0, .int .i64 0, .slice none 0 0] 31)).setCell ⟨m, 0, none⟩ (.slice AT nT cT)).setCell ⟨m, 1, none⟩ (.slice AB nB cB)).setCell ⟨m, 2, none⟩ (.slice AH nH cH)).setCell ⟨b28, 0, none⟩ (.int .i64 0)).setCell ⟨b28, 1, none⟩ (.int .i64 0)).setCell ⟨b28, 2, none⟩ (.int .i64 0)).setCell ⟨b28, 3, none⟩ (.slice A28 n28 cap28)) = w28 at hs1 hs2 HK28 ⊢
  have HS28 := Lib.hid hs1
  have HR28 := Lib.hid hs2
  clear hs1 hs2 hk1 hmb hbk hd1 HREW HBM HBN HPA HGC
  have HML28 : Hid (m < w28.heap.size) := Nat.lt_of_lt_of_le HML27.out HK28.out.size
  have HR23 := Lib.hid (HR23.out.kept HK28.out (fun e => by have e : b23 = m := e; have := HMB23.out; omega))
  have HR24 := Lib.hid (HR24.out.kept HK28.out (fun e => by have e : b24 + 1 = m := e; have := HMB24.out; omega))
  obtain ⟨BT28, bt28, ct28, BB28, bb28, cb28, BH28, bh28, ch28, hbx, hpx⟩ := HS28.out
  have z0 := hbx.cell 0
  have z1 := hbx.cell 1
  have z2 := hbx.cell 2
  simp only [List.getElem?_cons_zero, List.getElem?_cons_succ] at z0 z1 z2
  have HP28 := Lib.hid hpx
  clear hbx hpx
  obtain ⟨xm, ym, zm, hbm⟩ := HS28.out.box
  have HBM := Lib.hid hbm
  clear hbm
  go_upto_region 17 with (go_at_call 12; (with_reducible refine (t_do0 HP28.out 0 1 0 0 0 0 (by omega) (r7 (D := DD))).mono ?_); rintro e wk ⟨AT, nT, cT, AB, nB, cB, AH, nH, cH, A29, n29, cap29, rfl, hpa, hre, hg⟩; have HPA := Lib.hid hpa; have HRE29 := Lib.hid hre; have HGC := Lib.hid hg; have hbk0 := HBM.out.grow hg; have hbm := hbk0.alloc (.cells #[.int .i64 0, .int .i64 0, .int .i64 0, .slice none 0 0] 31); have y0 := hbm.cell 0; have y1 := hbm.cell 1; have y2 := hbm.cell 2; have yf := hbm.frozen; have hne : wk.heap.size ≠ m := Nat.ne_of_gt hbk0.lt; have hrb : Blk ((((wk.alloc (.cells #[.int .i64 0, .int .i64 0, .int .i64 0, .slice none 0 0] 31)).setCell ⟨m, 0, none⟩ (.slice AT nT cT)).setCell ⟨m, 1, none⟩ (.slice AB nB cB)).setCell ⟨m, 2, none⟩ (.slice AH nH cH)) wk.heap.size 31 [.int .i64 0, .int .i64 0, .int .i64 0, .slice none 0 0] := (((Blk.new wk 31 [.int .i64 0, .int .i64 0, .int .i64 0, .slice none 0 0]).other (p := ⟨m, 0, none⟩) hne _).other (p := ⟨m, 1, none⟩) hne _).other (p := ⟨m, 2, none⟩) hne _; have x0 := hrb.cell 0; have x1 := hrb.cell 1; have x2 := hrb.cell 2; have x3 := hrb.cell 3; have xf := hrb.frozen; simp only [List.getElem?_cons_zero, List.getElem?_cons_succ] at y0 y1 y2 x0 x1 x2 x3; have HBN := Lib.hid hbk0; clear hpa hre hg hbm hbk0 hne hrb)
  clear z0 z1 z2 y0 y1 y2 yf x0 x1 x2 x3 xf
  obtain ⟨hs1, hs2, hk1⟩ := sb_putr HPA.out (HML28.out) HBN.out 0 0 0 A29 n29 cap29
  have hmb : m < wk.heap.size := Nat.lt_of_lt_of_le (HML28.out) HGC.out.size
  obtain ⟨b29, hbk⟩ : ∃ b29, b29 = wk.heap.size := ⟨_, rfl⟩
  have HREW : Hid (∀ x, A29 = some x → 0 < n29 → x.block ≠ m) := fun x e h0 e2 => by
    have h1 := HRE29.out.2 h0 x e
    have h2 : m < w28.heap.size := HML28.out
    omega
  have hd1 : Sl wk wk.heap.size .u8 A29 n29 _ := HRE29.out.1
  rw [← hbk] at hs1 hs2 hk1 hmb ⊢
  have HMB29 := Lib.hid hmb
  have HK29 := Lib.hid ((Grow.kept (F := fun k => k = m) HGC.out).trans hk1)
  generalize ((((((((wk.alloc (.cells #[.int .i64 0, .int .i64 0, .int .i64 0, .slice none 0 0] 31)).setCell ⟨m, 0, none⟩ (.slice AT nT cT)).setCell ⟨m, 1, none⟩ (.slice AB nB cB)).setCell ⟨m, 2, none⟩ (.slice AH nH cH)).setCell ⟨b29, 0, none⟩ (.int .i64 0)).setCell ⟨b29, 1, none⟩ (.int .i64 0)).setCell ⟨b29, 2, none⟩ (.int .i64 0)).setCell ⟨b29, 3, none⟩ (.slice A29 n29 cap29)) = w29 at hs1 hs2 HK29 ⊢
  have HS29 := Lib.hid hs1
  have HR29 := Lib.hid hs2
  clear hs1 hs2 hk1 hmb hbk hd1 HREW HBM HBN HPA HGC
  have HML29 : Hid (m < w29.heap.size) := Nat.lt_of_lt_of_le HML28.out HK29.out.size
  have HR23 := Lib.hid (HR23.out.kept HK29.out (fun e => by have e : b23 = m := e; have := HMB23.out; omega))
  have HR24 := Lib.hid (HR24.out.kept HK29.out (fun e => by have e : b24 + 1 = m := e; have := HMB24.out; omega))
  have HR28 := Lib.hid (HR28.out.kept HK29.out (fun e => by have e : b28 = m := e; have := HMB28.out; omega))
  obtain ⟨BT29, bt29, ct29, BB29, bb29, cb29, BH29, bh29, ch29, hbx, hpx⟩ := HS29.out
  have z0 := hbx.cell 0
  have z1 := hbx.cell 1
  have z2 := hbx.cell 2
  simp only [List.getElem?_cons_zero, List.getElem?_cons_succ] at z0 z1 z2
  have HP29 := Lib.hid hpx
  clear hbx hpx
  go_upto_region 18 with (go_at_call 12; (with_reducible refine (t_do0 HP29.out 0 3 0 0 0 16 (by omega) (r8 (D := DD))).mono ?_); rintro e wk ⟨AT, nT, cT, AB, nB, cB, AH, nH, cH, A30, n30, cap30, rfl, hpa, hre, hg⟩; have HPA := Lib.hid hpa; have HRE30 := Lib.hid hre; have HGC := Lib.hid hg; clear hpa hre hg)
  clear z0 z1 z2
  obtain ⟨hs1, hs2, hs3⟩ := sb_step HPA.out (m := m) (HML29.out) 0 0 0 A30 n30 cap30
  have hzs := sl_grow HRE30.out.1 hs3
  have hgk : Grow w29 ((wk.alloc (.cells #[.slice AT nT cT, .slice AB nB cB, .slice AH nH cH] 28)).alloc (.cells #[.int .i64 0, .int .i64 0, .int .i64 0, .slice A30 n30 cap30] 31)) := HGC.out.trans hs3
  obtain ⟨b30, hbk⟩ : ∃ b30, b30 = wk.heap.size := ⟨_, rfl⟩
  rw [← hbk] at hs1 hs2 ⊢
  have hmb : m < b30 := by
    have h1 : m < w29.heap.size := HML29.out
    have h2 := HGC.out.size
    omega
  have HMB30 := Lib.hid hmb
  clear hbk hs3 HPA HGC hmb
  generalize ((wk.alloc (.cells #[.slice AT nT cT, .slice AB nB cB, .slice AH nH cH] 28)).alloc (.cells #[.int .i64 0, .int .i64 0, .int .i64 0, .slice A30 n30 cap30] 31)) = w30 at hs1 hs2 hzs hgk ⊢
  have HS30 := Lib.hid hs1
  have HR30 := Lib.hid hs2
  have HD30 := Lib.hid hzs
  have HG30 := Lib.hid hgk
  clear hs1 hs2 hzs hgk
  have HKA : Hid (Kept (fun x => x = m) w25 w29) := ((HK26.out.trans HK27.out).trans HK28.out).trans HK29.out
  have HKB : Hid (Kept (fun x => x = m) w25 w30) := HKA.out.trans (Grow.kept HG30.out)
  have HR23 := Lib.hid (HR23.out.grow HG30.out)
  have HR24 := Lib.hid (HR24.out.grow HG30.out)
  have HR28 := Lib.hid (HR28.out.grow HG30.out)
  have HR29 := Lib.hid (HR29.out.grow HG30.out)
  have HD24 := Lib.hid (sl_kept2 HD25.out HKB.out (fun hn x e => by
    have h1 := HRE24.out.2 hn x e
    have h2 := HML23.out
    omega))
  have HOR2 := Lib.hid (HOR.out.kept HKB.out (fun e => by have e : g = m := e; have := HMG.out; omega))
  have HALL : Hid (Grow w w30) := (((HG22.out.then HK23.out fun x hx e => by have e : x = m := e; have := HMW.out; omega).trans HG24.out).trans HG25.out).then HKB.out fun x hx e => by have e : x = m := e; have := HMW.out; omega
  clear HKA HKB HK26 HK27 HK28 HK29 HS0 HS21 HS22 HS23 HS25 HS26 HS27 HS28 HS29 HS30 HOR HORA
  have r23 := HR23.out.cell 0
  have r24 := HR24.out.cell 0
  have d24 := HR24.out.cell 3
  have r28 := HR28.out.cell 0
  have r29 := HR29.out.cell 0
  have p29 := HR29.out.cell 1
  have d30 := HR30.out.cell 3
  simp only [List.getElem?_cons_zero, List.getElem?_cons_succ] at r23 r24 d24 r28 r29 p29 d30
  refine wp_region_stages Grow (kept_refl _) (kept_trans _) [([], 0), ([1, 2, 3, 4, 5, 6, 7, 8, 9, 10, 11, 12, 13, 14, 15, 16, 17, 18, 19, 20, 21, 22, 23, 24, 25, 26, 27, 28, 29, 30, 31, 32, 33, 34, 35, 36, 37, 38, 39, 40, 41, 42], 43)] [44, 45, 46, 47] (by kernel_rfl) (by kernel_rfl) ?_
  simp only [selSt, sel, List.map_cons, List.map_nil, List.getD_cons_succ, List.getD_cons_zero]
  refine st_cons fun K1 hK1 => ?_
  refine wpQuiet_nil ?_
  go_wp2_with (go_at_call 10; (with_reducible refine (told_any _).mono ?_); rintro e wt ⟨rfl, hge⟩; have HGE := Lib.hid hge; clear hge)
  refine norm_up (hK1 _ _ HGE.out ?_)
  clear hK1 K1
  have HGT : Hid (Grow w30 wt) := ((Kept.refl _ w30).drew).trans HGE.out
  have q1 := up_cell (F := fun _ => False) (w := wt) (HGT.out.cellN r23 id) id
  have q2 := up_cell (F := fun _ => False) (w := wt) (HGT.out.cellN r24 id) id
  have q3 := up_cell (F := fun _ => False) (w := wt) (HGT.out.cellN d24 id) id
  have q4 := up_cell (F := fun _ => False) (w := wt) (HGT.out.cellN r28 id) id
  have q5 := up_cell (F := fun _ => False) (w := wt) (HGT.out.cellN r29 id) id
  have q6 := up_cell (F := fun _ => False) (w := wt) (HGT.out.cellN p29 id) id
  have q7 := up_cell (F := fun _ => False) (w := wt) (HGT.out.cellN d30 id) id
  have HD30T := Lib.hid (sl_grow HD30.out HGT.out)
  have HD24T := Lib.hid (sl_grow HD24.out HGT.out)
  have HORT := Lib.hid (HOR2.out.grow HGT.out)
  have k1 := up_run (F := fun _ => False) (P := Try.prog) (w := wt) fun w' hk => (sl_grow HD24T.out hk).str 22 9 5 Try.underlying22 Try.underlying5 Try.underlying9 cap24
  have hca : (some (cutA g f 16) : Option Addr) = if 16 = f then some ⟨g, 0, none⟩ else some ⟨g, f, none⟩ := by
    unfold cutA
    split <;> rfl
  have k3 := up_run (F := fun _ => False) (P := Try.prog) (w := wt) fun w' hk => (sl_cut (u := f) (m := c) (HORT.out.grow hk) HD16.out (Nat.le_refl 16) HFC.out).str 22 9 5 Try.underlying22 Try.underlying5 Try.underlying9 (16 - f)
  rw [hca] at k3
  have hc1 : 0 ≤ (f : Int) + (c : Int) := by omega
  have hc2 : (f : Int) + (c : Int) ≤ 16 := by have := HFC.out; omega
  have htn : ((f : Int) + (c : Int)).toNat = f + c := by omega
  clear hca
  have k4 := up_run (F := fun _ => False) (P := Try.prog) (w := wt) fun w' hk => (sl_grow HD30T.out hk).str 22 9 5 Try.underlying22 Try.underlying5 Try.underlying9 cap30
  have hwr : IntKind.i64.wrap ((f : Int) + (c : Int)) = (f : Int) + (c : Int) := IntWalk.i64_in _ (by omega)
  clear r23 r24 d24 r28 r29 p29 d30
  generalize strOfNums (List.take c (List.drop f DD)) = sx at k1 k3
  obtain ⟨sz, hsz⟩ : ∃ sz, sz = strOfNums zeros := ⟨_, rfl⟩
  have HSZ : Hid (strOfNums zeros = sz) := hsz.symm
  rw [← hsz] at k4
  clear hsz
  by_cases hf16 : f = 16
  · obtain rfl : c = 0 := by have := HFC.out; omega
    subst hf16
    rw [if_pos rfl] at k3
    refine st_cons fun K2 hK2 => ?_
    repeat (go_big_quiet_step (fail))
    refine wpQuiet_nil ?_
    clear q1 q2 q3 q4 q5 q6 q7 k1 k3 hc1 hc2 htn hwr
    have km := made16
    go_wp2
    refine norm_up (hK2 _ _ ((Kept.refl _ _).alloc _) ?_)
    clear hK2 K2 km
    have hmk : NBlk (wt.alloc (.cells (madeCells #[Value.int .u8 0] 16) 5)) wt.heap.size 5 .u8 zeros := NBlk.made wt 5 .u8 16
    have HMS := Lib.hid (Sl.of_blk0 (B := (wt.alloc (.cells (madeCells #[Value.int .u8 0] 16) 5)).heap.size) hmk (n := 16) rfl hmk.lt)
    have HGF : Hid (Grow wt (wt.alloc (.cells (madeCells #[Value.int .u8 0] 16) 5))) := (Kept.refl _ _).alloc _
    clear hmk k4
    obtain ⟨gz, hgz⟩ : ∃ gz, gz = wt.heap.size := ⟨_, rfl⟩
    rw [← hgz] at HMS ⊢
    generalize wt.alloc (.cells (madeCells #[Value.int .u8 0] 16) 5) = wz at HMS HGF ⊢
    clear hgz
    have k5 := up_run (F := fun _ => False) (P := Try.prog) (w := wz) fun w' hk => (sl_grow HMS.out hk).str 22 9 5 Try.underlying22 Try.underlying5 Try.underlying9 16
    rw [HSZ.out] at k5
    refine st_nil fun K3 hK3 => ?_
    repeat (go_big_quiet_step (fail))
    refine wpQuiet_nil (hK3 _ ?_)
    clear hK3 K3 k5
    go_wp2
    go_ret
    exact ⟨rfl, Grow.below ((HALL.out.trans HGT.out).trans HGF.out)⟩
  · have hne : ¬ (16 = f) := fun e => hf16 e.symm
    rw [if_neg hne] at k3
    clear hf16
    refine st_cons fun K2 hK2 => ?_
    repeat (go_big_quiet_step (fail))
    refine wpQuiet_nil ?_
    clear hne q1 q2 q3 q4 q5 q6 q7 k1 k3 hc1 hc2 htn hwr
    have km := made16
    go_wp2
    refine norm_up (hK2 _ _ ((Kept.refl _ _).alloc _) ?_)
    clear hK2 K2 km
    have hmk : NBlk (wt.alloc (.cells (madeCells #[Value.int .u8 0] 16) 5)) wt.heap.size 5 .u8 zeros := NBlk.made wt 5 .u8 16
    have HMS := Lib.hid (Sl.of_blk0 (B := (wt.alloc (.cells (madeCells #[Value.int .u8 0] 16) 5)).heap.size) hmk (n := 16) rfl hmk.lt)
    have HGF : Hid (Grow wt (wt.alloc (.cells (madeCells #[Value.int .u8 0] 16) 5))) := (Kept.refl _ _).alloc _
    clear hmk k4
    obtain ⟨gz, hgz⟩ : ∃ gz, gz = wt.heap.size := ⟨_, rfl⟩
    rw [← hgz] at HMS ⊢
    generalize wt.alloc (.cells (madeCells #[Value.int .u8 0] 16) 5) = wz at HMS HGF ⊢
    clear hgz
    have k5 := up_run (F := fun _ => False) (P := Try.prog) (w := wz) fun w' hk => (sl_grow HMS.out hk).str 22 9 5 Try.underlying22 Try.underlying5 Try.underlying9 16
    rw [HSZ.out] at k5
    refine st_nil fun K3 hK3 => ?_
    repeat (go_big_quiet_step (fail))
    refine wpQuiet_nil (hK3 _ ?_)
    clear hK3 K3 k5
    go_wp2
    go_ret
    exact ⟨rfl, Grow.below ((HALL.out.trans HGT.out).trans HGF.out)⟩

/-! ### THE ROW's STEP: WRITTEN OUT: LEAVE IT -/
set_option maxRecDepth 100000 in
theorem lifted (os : Os) (started : os.Started) (H : Type) (enc : TypeId × Value → H) :
    ReturnsInHanded {} Try.checked os 6 .any (Rows.modelReadsSpec.pre6 enc Try.prog Try.f6 Rows.modelReadsRow.domain false) (Rows.modelReadsSpec.post enc Try.prog Try.f6 false true false false) := by
  refine returnsInHanded_of_change (C := Try.checked) own started (by kernel_rfl) Try.func6
    (ChangeSpec.witness6 (enc := enc) (C := Try.checked) false ⟨#[], #[.int .i64 0, .slice none 0 0, .int .i64 0, .int .i64 0], []⟩ 8 (by kernel_rfl) (by kernel_rfl) (by kernel_rfl) (by kernel_rfl)) ?_
  intro W base args ds gs before hval0 hW hcnd _
  have hval : ∀ (j : Nat) t v, Try.f6.params[j]? = some t → args[j]? = some v → Value.okWide Try.prog W .any base t v := hval0
  have hW' := hW
  obtain ⟨p, q, hA0, hV, rfl, hfz, hnd⟩ := hW
  have hA : DataW.TrodAll enc Try.prog W 0 (fun _ => true) true Try.f6.params.toList args.toList ds p := hA0
  rw [Try.params6] at hA hval
  obtain ⟨v0, vs0, d0, ds0, p0, q0, hargs, rfl, rfl, h0, r0⟩ := trodAll_cons hA
  obtain ⟨v1, vs1, d1, ds1, p1, q1, rfl, rfl, rfl, h1, r1⟩ := trodAll_cons r0
  obtain ⟨v2, vs2, d2, ds2, p2, q2, rfl, rfl, rfl, h2, r2⟩ := trodAll_cons r1
  obtain ⟨v3, vs3, d3, ds3, p3, q3, rfl, rfl, rfl, h3, r3⟩ := trodAll_cons r2
  obtain ⟨rfl, rfl, rfl⟩ := trodAll_nil r3
  obtain rfl : args = #[v0, v1, v2, v3] := by cases args; simp_all
  obtain ⟨rfl, rfl⟩ := trodVars_none hV
  obtain ⟨a0, rfl, rfl, rfl, w0⟩ := open_int Try.underlying3 (hval 0 3 v0 rfl rfl) h0
  obtain ⟨a1, len1, cap1, rfl⟩ := okWide_slice Try.underlying22 (hval 1 22 v1 rfl rfl)
  have k1 := h1
  have lt1 : ∀ x ∈ p1, x.block < W.heap.size := by obtain ⟨m, hm⟩ := k1; exact DataW.trod_lt m _ _ _ hm
  obtain ⟨z1, w1⟩ : ∃ zs, IsRow .u8 W a1 len1 cap1 zs := by
    obtain ⟨fuel, hf⟩ := h1
    rcases open_ints Try.underlying22 Try.underlying5 (by kernel_rfl) hf with ⟨hcs, _⟩ | ⟨x, l, c, zs, hcs, _, hl, hm, hz, _, hcell, hwz⟩
    · simp [Value.cells] at hcs
      obtain ⟨rfl, rfl, rfl⟩ := hcs
      exact ⟨[], .inl ⟨rfl, rfl, rfl, rfl⟩⟩
    · simp [Value.cells] at hcs
      obtain ⟨rfl, rfl, rfl⟩ := hcs
      exact ⟨zs, .inr ⟨_, rfl, hl, hm, by simpa using hz, hcell, hwz⟩⟩
  obtain ⟨a2, rfl, rfl, rfl, w2⟩ := open_int Try.underlying3 (hval 2 3 v2 rfl rfl) h2
  obtain ⟨a3, rfl, rfl, rfl, w3⟩ := open_int Try.underlying3 (hval 3 3 v3 rfl rfl) h3
  clear hA0 hval0
  refine (walk a0 a1 len1 cap1 z1 a2 a3 W w0 w1 w2 w3).mono fun e W' ⟨he, bel⟩ => ?_
  subst he
  exact ⟨_, rfl, _, _, _, [], _, [], hW', trodAll_mk1 (shut_bool Try.underlying4 _), (trodAll_cons_mk (shut_int Try.underlying3 w0) (trodAll_cons_mk (Below.trod laidOut (by kernel_rfl) (of_decide_eq_true (by kernel_rfl)) k1 bel lt1) (trodAll_cons_mk (shut_int Try.underlying3 w2) (trodAll_cons_mk (shut_int Try.underlying3 w3) trodAll_mk0)))), rfl, bel.frame _, fun h => by cases h⟩

theorem over : Rows.modelReadsRow.holds Try.pinned (OpenSpec.ofChange Rows.modelReadsSpec) :=
  OpenClaim.holds_of_wide 6 Try.f6 rfl rfl rfl rfl rfl rfl rfl ⟨rfl, rfl, rfl, rfl, rfl⟩ rfl rfl rfl rfl rfl (by kernel_rfl) Try.func6 (by kernel_rfl)
    (of_decide_eq_true (by kernel_rfl)) (by unfold Func.isWrapper; first | (rw [if_pos (by decide +kernel)]; kernel_rfl) | (rw [if_neg (by decide +kernel)]; exact ⟨rfl, rfl⟩))
    (fun os started H enc _ => lifted os started H enc)

/-- ████ THE STATEMENT ████ -/
theorem proved : Rows.ModelReadsSaid := over
#print axioms proved
end Go.Proofs.Yteiodnclpbjbbaa.modelReads
