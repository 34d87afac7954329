/-
  For every input the call of lavabolaw13.ModelOwn returns true and leaves its arguments as they were; no condition.
-/
import Derived.Test.YteiodnclpbjbbaaPmLaw2
import Derived.Test.YteiodnclpbjbbaaTrees
import Derived.Test.YteiodnclpbjbbaaRows
import Derived.WalkKit
import Derived.ProofKit
import Derived.OpenShut
import Derived.ShutString
import Derived.ChangeOld
import Derived.Below
namespace Go.Proofs.Yteiodnclpbjbbaa.modelOwn
open Go.ChangeShapes Go.WideShapes Go.ChangeAt Go.RowKit
open Go.ChangeMaps (open_string shut_string)
open Go.Proofs.Yteiodnclpbjbbaa.Mem Go.Proofs.Yteiodnclpbjbbaa.Blk Go.Proofs.Yteiodnclpbjbbaa.Cells Go.Proofs.Yteiodnclpbjbbaa.Orow Go.Proofs.Yteiodnclpbjbbaa.GrC Go.Proofs.Yteiodnclpbjbbaa.MdM Go.Proofs.Yteiodnclpbjbbaa.MdC Go.Proofs.Yteiodnclpbjbbaa.MdD Go.Proofs.Yteiodnclpbjbbaa.PmC Go.Proofs.Yteiodnclpbjbbaa.PmM Go.Proofs.Yteiodnclpbjbbaa.PmS Go.Proofs.Yteiodnclpbjbbaa.PmE Go.Proofs.Yteiodnclpbjbbaa.PmN Go.Proofs.Yteiodnclpbjbbaa.PmF Go.Proofs.Yteiodnclpbjbbaa.Law13 Go.Proofs.Yteiodnclpbjbbaa.Law13b Go.Proofs.Yteiodnclpbjbbaa.PmR Go.Proofs.Yteiodnclpbjbbaa.PmV Go.Proofs.Yteiodnclpbjbbaa.PmI Go.Proofs.Yteiodnclpbjbbaa.Told13 Go.Proofs.Yteiodnclpbjbbaa.Stages
open Go.Proofs.Yteiodnclpbjbbaa.Trees
set_option linter.unusedVariables false

theorem own : ownKnob Try.prog.godebug = none := by kernel_rfl
theorem laidOut : laidOutB Try.prog = true := by kernel_rfl

/-- WHAT THE WALK IS TOLD OF A SLICE OF INTEGERS THAT CAME IN: it is nil; or it leads to a row of 'cap' cells, the numbers 'zs' (the first 'len' are its elements, the rest its spare room), each fitting its kind. -/
def IsRow (k : IntKind) (w : World) (a : Option Addr) (len cap : Nat) (zs : List Int) : Prop :=
  (a = none ∧ len = 0 ∧ cap = 0 ∧ zs = []) ∨
  ∃ x, a = some x ∧ len ≤ cap ∧ cap ≤ maxLen ∧ zs.length = cap ∧ (∀ i, i < zs.length → w.cell? (x.add i) = some (.int k (zs.getD i 0))) ∧ ∀ n ∈ zs, (Lit.int k n).wf = true

/-! ### STEP 1: THE WALK: the Go text returns true, AND WRITES NOTHING THAT WAS THERE: 'Below w.heap.size w w'' (Derived/Below.lean: '.refl', '.alloc', '.drew', '.setCell' at a new block, '.trans'). Open each 'IsRow' by 'rcases' AHEAD of 'go_enter'; part every test ahead of the walk. -/
set_option maxHeartbeats 1500000 in
set_option maxRecDepth 100000 in
theorem walk (a0 : Option Addr) (len0 cap0 : Nat) (z0 : List Int) (w : World) (w0 : IsRow .u8 w a0 len0 cap0 z0) :
    Calls Try.prog 3 #[.slice a0 len0 cap0] w fun e w' => e = .returned (.bool true) ∧ Below w.heap.size w w' := by
  obtain ⟨hsl, hlc, hcm, hwf⟩ := Sl.of_isRow w0
  have hbd : Bytes (z0.take len0) := fun c hc => by
    have := hwf c hc
    have := bounds_u8 this
    omega
  by_cases hl : 16 < len0
  · have hlz : (16 : Int) < (len0 : Int) := by omega
    clear hsl hbd hwf
    go_enter Try.func3, Try.ntmps3
    go_wp2_with (go_at_call 10; (with_reducible refine (told_any _).mono ?_); rintro e wt ⟨rfl, hge⟩; have HGE := Lib.hid hge; clear hge)
    go_ret
    exact ⟨rfl, Grow.below HGE.out⟩
  have hlz : (len0 : Int) ≤ 16 := by omega
  obtain ⟨d, hd⟩ : ∃ d, d = z0.take len0 := ⟨_, rfl⟩
  rw [← hd] at hsl hbd
  have hdl : d.length = len0 := hsl.len
  have hdz : d.length ≤ 16 := by omega
  have hD16 : (MdM.splice zeros 0 d).length = 16 := splice_len rfl (by omega)
  have hDb : Bytes (MdM.splice zeros 0 d) := splice_bytes zeros_bytes hbd
  have E2 := Lib.hid (Law13b.w2 hdz)
  obtain ⟨DD, hDD⟩ : ∃ DD, DD = MdM.splice zeros 0 d := ⟨_, rfl⟩
  have E3 : Hid ((O2 DD).run 0 ⟨3, 0, 0, 0, 16, []⟩ = (⟨0, 0, 0, DD⟩, O2 DD)) := Law13b.w3 (by rw [hDD]; exact hD16)
  have HDD := Lib.hid hDD
  have HD16 : Hid (DD.length = 16) := by rw [hDD]; exact hD16
  have HDB : Hid (Bytes DD) := by rw [hDD]; exact hDb
  rw [← hDD] at E2
  have HSL := Lib.hid hsl
  have HBD := Lib.hid hbd
  have HLC := Lib.hid (And.intro hlc hcm)
  have HL16 : Hid (0 + len0 ≤ 16) := by show 0 + len0 ≤ 16; omega
  clear hsl hbd hl hwf hd hdl hdz hD16 hDb hDD hlc hcm w0
  have CN : Hid (Calls Try.prog 11 #[.int .i64 2, .int .i64 1] w (NewP 2 1 w)) := new_any 2 1 (by omega) (by omega) (by omega) (by omega) w
  go_enter Try.func3, Try.ntmps3
  go_upto_region 4 with (go_at_call 11; (with_reducible refine CN.out.mono ?_); rintro e wk ⟨v, rfl, hpa, hg⟩; obtain ⟨AT, cT, AB, cB, AH, cH, rfl⟩ := pat_form hpa; have HPA := Lib.hid hpa; have HGC := Lib.hid hg; clear hpa hg)
  obtain ⟨hs1, hs3⟩ := sb_new HPA.out
  have hgk := HGC.out.trans hs3
  have hmw := HGC.out.size
  obtain ⟨m, hbk⟩ : ∃ m, m = wk.heap.size := ⟨_, rfl⟩
  rw [← hbk] at hs1 hmw ⊢
  have HMW := Lib.hid hmw
  clear hbk hs3 HPA HGC CN hmw
  generalize wk.alloc (.cells #[.slice AT (fresh 2 1).n cT, .slice AB (fresh 2 1).n cB, .slice AH (fresh 2 1).N cH] 28) = w0 at hs1 hgk ⊢
  have HS0 : Hid (SB w0 m m (O0)) := hs1
  have HG0 := Lib.hid hgk
  have HML : Hid (m < w0.heap.size) := hs1.lt
  clear hs1 hgk
  obtain ⟨BT0, bt0, ct0, BB0, bb0, cb0, BH0, bh0, ch0, hbx, hpx⟩ := HS0.out
  have z0 := hbx.cell 0
  have z1 := hbx.cell 1
  have z2 := hbx.cell 2
  simp only [List.getElem?_cons_zero, List.getElem?_cons_succ] at z0 z1 z2
  have HP0 := Lib.hid hpx
  clear hbx hpx
  obtain ⟨xm, ym, zm, hbm⟩ := HS0.out.box
  have HBM := Lib.hid hbm
  clear hbm
  go_upto_region 5 with (go_at_call 12; (with_reducible refine (t_do0 HP0.out 0 1 0 0 0 0 (by omega) Law13b.w1).mono ?_); rintro e wk ⟨AT, nT, cT, AB, nB, cB, AH, nH, cH, A21, n21, cap21, rfl, hpa, hre, hg⟩; have HPA := Lib.hid hpa; have HRE21 := Lib.hid hre; have HGC := Lib.hid hg; have hbm := HBM.out.grow hg; have y0 := hbm.cell 0; have y1 := hbm.cell 1; have y2 := hbm.cell 2; have yf := hbm.frozen; simp only [List.getElem?_cons_zero, List.getElem?_cons_succ] at y0 y1 y2; have HBN := Lib.hid hbm; clear hpa hre hg hbm)
  clear z0 z1 z2 y0 y1 y2 yf
  obtain ⟨-, hk1⟩ := sb_put (HPA.out.mono (X := fun k => k ≠ m) fun k _ (x : w0.heap.size ≤ k) => Nat.ne_of_gt (Nat.lt_of_lt_of_le (HML.out) x)) HBN.out
  have hb1 : Blk (((wk.setCell ⟨m, 0, none⟩ (.slice AT nT cT)).setCell ⟨m, 1, none⟩ (.slice AB nB cB)).setCell ⟨m, 2, none⟩ (.slice AH nH cH)) m 28 [.slice AT nT cT, .slice AB nB cB, .slice AH nH cH] := PmD.put3_blk HBN.out
  have hp1 := (HPA.out.mono (X := fun k => w0.heap.size ≤ k ∧ k ≠ m) fun k _ (x : w0.heap.size ≤ k) => ⟨x, Nat.ne_of_gt (Nat.lt_of_lt_of_le (HML.out) x)⟩).kept hk1 fun k x e => x.2 e
  have hs1 : ∃ BTs bts cts BBs bbs cbs BHs bhs chs, Blk (((wk.setCell ⟨m, 0, none⟩ (.slice AT nT cT)).setCell ⟨m, 1, none⟩ (.slice AB nB cB)).setCell ⟨m, 2, none⟩ (.slice AH nH cH)) m 28 [.slice BTs bts cts, .slice BBs bbs cbs, .slice BHs bhs chs] ∧ PAt (((wk.setCell ⟨m, 0, none⟩ (.slice AT nT cT)).setCell ⟨m, 1, none⟩ (.slice AB nB cB)).setCell ⟨m, 2, none⟩ (.slice AH nH cH)) (fun k => w0.heap.size ≤ k ∧ k ≠ m) (.agg #[.slice BTs bts cts, .slice BBs bbs cbs, .slice BHs bhs chs]) O1 := ⟨_, _, _, _, _, _, _, _, _, hb1, hp1⟩
  clear hb1 hp1
  have HK21 := Lib.hid ((Grow.kept (F := fun k => k = m) HGC.out).trans hk1)
  generalize ((wk.setCell ⟨m, 0, none⟩ (.slice AT nT cT)).setCell ⟨m, 1, none⟩ (.slice AB nB cB)).setCell ⟨m, 2, none⟩ (.slice AH nH cH) = w21 at hs1 HK21 ⊢
  have HS21 := Lib.hid hs1
  clear hs1 hk1 HBM HBN HPA HGC
  have HML21 : Hid (m < w21.heap.size) := Nat.lt_of_lt_of_le HML.out HK21.out.size
  have HG21 : Hid (Grow w w21) := HG0.out.then HK21.out fun x hx e => by have e : x = m := e; have := HMW.out; omega
  obtain ⟨BTs, bts, cts, BBs, bbs, cbs, BHs, bhs, chs, hbx, hpx⟩ := HS21.out
  obtain ⟨gT, cT, gB, cB, gH, cH, qb, cb, q, cp, e, hpm⟩ := hpx.mem
  replace e : (Value.agg #[.slice BTs bts cts, .slice BBs bbs cbs, .slice BHs bhs chs]) = .agg #[.slice (some ⟨gT, 0, none⟩) 2 cT, .slice (some ⟨gB, 0, none⟩) 2 cB, .slice (some ⟨gH, 0, none⟩) 1 cH] := e
  simp only [Value.agg.injEq, Array.mk.injEq, List.cons.injEq, Value.slice.injEq] at e
  obtain ⟨⟨rfl, rfl, rfl⟩, ⟨rfl, rfl, rfl⟩, ⟨rfl, rfl, rfl⟩, -⟩ := e
  have z0 := hbx.cell 0
  have z1 := hbx.cell 1
  have z2 := hbx.cell 2
  simp only [List.getElem?_cons_zero, List.getElem?_cons_succ] at z0 z1 z2
  have HPX := Lib.hid hpx
  have HPS := Lib.hid hpm
  have HBXS := Lib.hid hbx
  clear hpx hpm hbx
  have HCON := Lib.hid (t_do HPX.out 0 4 0 0 0 0 (dc := cap0) (sl_grow HSL.out HG21.out) HBD.out HLC.out.1 HLC.out.2 (by omega) E2.out)
  go_upto_region 6 with (go_at_call 12; (with_reducible refine (HCON.out).mono ?_); rintro e wk ⟨AT, nT, cT', AB, nB, cB', AH, nH, cH', A22, n22, cap22, rfl, hpa, hre, hg⟩; have HPA := Lib.hid hpa; have HRE22 := Lib.hid hre; have HGC := Lib.hid hg; clear hpa hre hg)
  clear z0 z1 z2
  obtain ⟨gT2, cT2, gB2, cB2, gH2, cH2, qb2, cb2, q2, cp2, e2, hpm⟩ := HPA.out.mem
  replace e2 : (Value.agg #[.slice AT nT cT', .slice AB nB cB', .slice AH nH cH']) = .agg #[.slice (some ⟨gT2, 0, none⟩) 2 cT2, .slice (some ⟨gB2, 0, none⟩) 2 cB2, .slice (some ⟨gH2, 0, none⟩) 1 cH2] := e2
  simp only [Value.agg.injEq, Array.mk.injEq, List.cons.injEq, Value.slice.injEq] at e2
  obtain ⟨⟨rfl, rfl, rfl⟩, ⟨rfl, rfl, rfl⟩, ⟨rfl, rfl, rfl⟩, -⟩ := e2
  obtain ⟨hb4, hb5, hg2⟩ := two_box wk (.slice (some ⟨gT2, 0, none⟩) 2 cT') (.slice (some ⟨gB2, 0, none⟩) 2 cB') (.slice (some ⟨gH2, 0, none⟩) 1 cH') (.int .i64 0) (.int .i64 0) (.int .i64 0) (.slice A22 n22 cap22)
  have hpt := ((HPA.out.mono (X := fun k => w21.heap.size ≤ k ∧ k < wk.heap.size) fun k hk x => ⟨x, hk⟩).grow hg2)
  have hpm2 := (hpm.mono (X := fun k => w21.heap.size ≤ k ∧ k < wk.heap.size) fun k hk x => ⟨x, hk⟩).kept hg2 (fun _ _ x => x)
  have hg22 := HGC.out.trans hg2
  have hsz2 : (((wk.alloc (.cells #[.slice (some ⟨gT2, 0, none⟩) 2 cT', .slice (some ⟨gB2, 0, none⟩) 2 cB', .slice (some ⟨gH2, 0, none⟩) 1 cH'] 28)).alloc (.cells #[.int .i64 0, .int .i64 0, .int .i64 0, .slice A22 n22 cap22] 31)).heap.size) = wk.heap.size + 2 := by simp
  have hsw := HGC.out.size
  clear hpm
  obtain ⟨b22, hbk⟩ : ∃ b22, b22 = wk.heap.size := ⟨_, rfl⟩
  rw [← hbk] at hb4 hb5 hpt hpm2 hsz2 hsw ⊢
  generalize (wk.alloc (.cells #[.slice (some ⟨gT2, 0, none⟩) 2 cT', .slice (some ⟨gB2, 0, none⟩) 2 cB', .slice (some ⟨gH2, 0, none⟩) 1 cH'] 28)).alloc (.cells #[.int .i64 0, .int .i64 0, .int .i64 0, .slice A22 n22 cap22] 31) = w22 at hb4 hb5 hpt hpm2 hsz2 hg22 hg2 ⊢
  have HB4 := Lib.hid hb4
  have HB5 := Lib.hid hb5
  have HPT := Lib.hid hpt
  have HPM := Lib.hid hpm2
  have HG22 := Lib.hid hg22
  have HSZ := Lib.hid (And.intro hsz2 hsw)
  clear hb4 hb5 hpt hpm2 hg22 hsz2 hsw hg2 hbk HPA HGC HRE22 HCON
  have HMS21 := Lib.hid HML21.out
  have z0 := HB4.out.cell 0
  have z1 := HB4.out.cell 1
  have z2 := HB4.out.cell 2
  simp only [List.getElem?_cons_zero, List.getElem?_cons_succ] at z0 z1 z2
  go_upto_region 7 with (go_at_call 12; (with_reducible refine ((t_do0 HPT.out 0 3 0 0 0 16 (by omega) E3.out)).mono ?_); rintro e wk ⟨XT, kT, lT, XB, kB, lB, XH, kH, lH, A23, n23, cap23, rfl, hpa, hre, hg⟩; have HPA := Lib.hid hpa; have HRE23 := Lib.hid hre; have HGC := Lib.hid hg; clear hpa hre hg)
  clear z0 z1 z2 HPA
  obtain ⟨hre, hrn, hrf⟩ := HRE23.out
  obtain rfl : n23 = 16 := by have := hre.len; have := HD16.out; omega
  obtain ⟨xb, xo, rfl, hxb, hxc⟩ := hre.at_ (by omega)
  have hxw : w22.heap.size ≤ xb := hrn (by omega) _ rfl
  have hxf := hrf (by omega) _ rfl
  obtain ⟨-, hb7, hg3⟩ := two_box wk (.slice XT kT lT) (.slice XB kB lB) (.slice XH kH lH) (.int .i64 0) (.int .i64 0) (.int .i64 0) (.slice (some ⟨xb, xo, none⟩) 16 cap23)
  have hx0 := hxc 0 (by omega)
  rw [Nat.add_zero] at hx0
  replace hx0 := hg3.cellN hx0 id
  have hf0 : wk.frozen? ⟨xb, xo, none⟩ = false := hxf xo
  replace hf0 := (hg3.frozen (p := ⟨xb, xo, none⟩) hxb id).trans hf0
  have hg23 := HGC.out.trans hg3
  obtain ⟨b23, hbk⟩ : ∃ b23, b23 = wk.heap.size := ⟨_, rfl⟩
  rw [← hbk] at hb7 hxb ⊢
  generalize (wk.alloc (.cells #[.slice XT kT lT, .slice XB kB lB, .slice XH kH lH] 28)).alloc (.cells #[.int .i64 0, .int .i64 0, .int .i64 0, .slice (some ⟨xb, xo, none⟩) 16 cap23] 31) = w23 at hb7 hx0 hg23 hf0 ⊢
  have HB7 := Lib.hid hb7
  have HX0 := Lib.hid hx0
  have HXF := Lib.hid hf0
  have HG23 := Lib.hid hg23
  have HXB := Lib.hid (And.intro hxw hxb)
  have HG13 := Lib.hid (HG22.out.trans hg23)
  clear hb7 hx0 hf0 hg23 hxw hxb hxf hg3 hxc hre hrn hrf HRE23 HGC hbk
  have HPM3 := Lib.hid (HPM.out.kept HG23.out (fun _ _ x => x))
  have HPS3 := Lib.hid ((HPS.out.mono (X := fun k => w0.heap.size ≤ k ∧ k < w21.heap.size) (fun k hk x => ⟨x.1, hk⟩)).kept HG13.out (fun _ _ x => x))
  have HB4 := Lib.hid (HB4.out.grow HG23.out)
  have HB5 := Lib.hid (HB5.out.grow HG23.out)
  have HBXS := Lib.hid (HBXS.out.grow HG13.out)
  have c1 := HB5.out.cell 0
  have c2 := HB7.out.cell 3
  have c3 := HB4.out.cell 1
  have c5 := HBXS.out.cell 1
  have c7 := HB4.out.cell 2
  simp only [List.getElem?_cons_zero, List.getElem?_cons_succ] at c1 c2 c3 c5 c7
  have c4 := HPM3.out.bb.cell (i := 0) (by show 0 < 2 * 1; omega)
  have c6 := HPS3.out.bb.cell (i := 0) (by show 0 < 2 * 1; omega)
  have c8 := HPM3.out.hb.cell (i := 0) (by show 0 < 1 * 1; omega)
  unfold bsl at c4 c6
  unfold scell at c8
  have HBR : Hid (OR w23 (qb2 0) 5 1 (cb2 0) 16 (ucell DD)) := HPM3.out.br 0 (by show 0 < 2; omega)
  have k1 := (body_sl HBR.out HD16.out).str (P := Try.prog) 22 9 5 Try.underlying22 Try.underlying5 Try.underlying9 (cb2 0)
  obtain ⟨sx, hsx⟩ : ∃ sx, sx = strOfNums DD := ⟨_, rfl⟩
  rw [← hsx] at k1
  have HSX := Lib.hid hsx
  clear hsx
  go_upto_region 10 with (fail)
  clear c1 c2 c3 c5 c7 c4 c6 c8 k1
  have c2 := HB7.out.cell 3
  simp only [List.getElem?_cons_zero, List.getElem?_cons_succ] at c2
  have q1 := up_cell (F := fun _ => False) (w := w23.drew) (p := ⟨b23 + 1, 3, none⟩) c2 id
  have hx0 := HX0.out
  generalize DD.getD 0 0 = v0 at hx0
  have q2 := up_cell (F := fun _ => False) (w := w23.drew) (p := ⟨xb, xo, none⟩) hx0 id
  have hf0 : w23.drew.frozen? ⟨xb, xo, none⟩ = false := HXF.out
  clear c2
  refine wp_region_tree Grow (Kept (· = xb)) (kept_refl _) (kept_trans _) (kept_refl _) (kept_trans _) (fun _ _ h => h.mono fun _ _ x => x.elim) [8]
    (.one true [0, 1, 2, 3, 4, 5, 6, 7] 8 (.last false [])) (by kernel_rfl) (by kernel_rfl) ?_
  refine tr_oneE fun K hK => ?_
  simp only [sel, List.map_cons, List.map_nil, List.getD_cons_succ, List.getD_cons_zero]
  repeat (go_big_quiet_step (fail))
  refine wpQuiet_nil ?_
  clear q1 q2
  go_wp2
  refine norm_up (hK _ _ (Lr_late (by decide) (kept_set w23.drew xb xo (.int .u8 (bits .xor .u8 v0 1)))) ?_)
  clear hK K hx0 hf0
  refine tr_lastL fun K hK => ?_
  simp only [sel, List.map_nil]
  refine wpQuiet_nil (hK _ ?_)
  clear hK K
  have HK24 : Hid (Kept (· = xb) w23 (w23.setCell ⟨xb, xo, none⟩ (.int .u8 (bits .xor .u8 v0 1))).drew) := (kept_set w23 xb xo _).drew
  generalize (w23.setCell ⟨xb, xo, none⟩ (.int .u8 (bits .xor .u8 v0 1))).drew = w24 at HK24 ⊢
  have HPS4 := Lib.hid (HPS3.out.kept HK24.out fun k (hk : w0.heap.size ≤ k ∧ k < w21.heap.size) e => by
    have e : k = xb := e
    have := HXB.out; have := HSZ.out; omega)
  have HBX4 := Lib.hid (HBXS.out.kept HK24.out fun e => by
    have e : m = xb := e
    have := HXB.out; have := HSZ.out; have := HMS21.out; omega)
  go_upto_region 11 with (fail)
  have HOQ := Lib.hid (HPS4.out.br 0 (by show 0 < 2; omega))
  have c1 := HBX4.out.cell 1
  simp only [List.getElem?_cons_zero, List.getElem?_cons_succ] at c1
  have c2 := HPS4.out.bb.cell (i := 0) (by show 0 < 2 * 1; omega)
  unfold bsl at c2
  have c3 := HOQ.out.cell (i := 1) (by omega)
  unfold ucell at c3
  have hf0 : w24.drew.frozen? ⟨qb 0, 1, none⟩ = false := HOQ.out.frozen 1
  have q1 := up_cell (F := fun _ => False) (w := w24.drew) (p := ⟨m, 1, none⟩) c1 id
  have q2 := up_cell (F := fun _ => False) (w := w24.drew) (p := ⟨gB, 0, none⟩) c2 id
  have q3 := up_cell (F := fun _ => False) (w := w24.drew) (p := ⟨qb 0, 1, none⟩) c3 id
  generalize (O1.B 0).getD 1 0 = v1 at q3 c3
  clear c1 c2
  refine wp_region_tree Grow (Kept (· = qb 0)) (kept_refl _) (kept_trans _) (kept_refl _) (kept_trans _) (fun _ _ h => h.mono fun _ _ x => x.elim) [12]
    (.one true [0, 1, 2, 3, 4, 5, 6, 7, 8, 9, 10, 11] 12 (.last false [])) (by kernel_rfl) (by kernel_rfl) ?_
  refine tr_oneE fun K hK => ?_
  simp only [sel, List.map_cons, List.map_nil, List.getD_cons_succ, List.getD_cons_zero]
  repeat (go_big_quiet_step (fail))
  refine wpQuiet_nil ?_
  clear q1 q2 q3
  go_wp2
  refine norm_up (hK _ _ (Lr_late (by decide) (kept_set w24.drew (qb 0) 1 (.int .u8 (bits .xor .u8 v1 1)))) ?_)
  clear hK K hf0 c3
  refine tr_lastL fun K hK => ?_
  simp only [sel, List.map_nil]
  refine wpQuiet_nil (hK _ ?_)
  clear hK K
  have HK25 : Hid (Kept (· = qb 0) w24 (w24.setCell ⟨qb 0, 1, none⟩ (.int .u8 (bits .xor .u8 v1 1))).drew) := (kept_set w24 (qb 0) 1 _).drew
  generalize (w24.setCell ⟨qb 0, 1, none⟩ (.int .u8 (bits .xor .u8 v1 1))).drew = w25 at HK25 ⊢
  have HQ0 : Hid (w0.heap.size ≤ qb 0 ∧ qb 0 < w21.heap.size) := HPS4.out.bG 0 (by show 0 < 2; omega)
  have HGT : Hid (w0.heap.size ≤ gT ∧ gT < w21.heap.size) := HPS4.out.inG.1
  have HNT : Hid (qb 0 ≠ gT) := (HPS4.out.nb 0 (by show 0 < 2; omega)).1
  have HBX5 := Lib.hid (HBX4.out.kept HK25.out fun e => by
    have e : m = qb 0 := e
    have := HQ0.out; have := HML.out; omega)
  have HOT := Lib.hid (HPS4.out.tb.kept HK25.out fun e => HNT.out e.symm)
  have c1 := HBX5.out.cell 0
  simp only [List.getElem?_cons_zero] at c1
  have c2 := HOT.out.cell (i := 0) (by show 0 < 2 * 1; omega)
  have hf0 := HOT.out.frozen 0
  go_upto_region 13 with (fail)
  have HK26 : Hid (Kept (fun k => k = xb ∨ (w0.heap.size ≤ k ∧ k < w21.heap.size)) w23 (w25.setCell ⟨gT, 0, none⟩ (.bool false))) := ((HK24.out.mono fun k _ e => .inl e).trans (HK25.out.mono fun k _ (e : k = qb 0) => .inr (by rw [e]; exact HQ0.out))).trans ((kept_set w25 gT 0 (.bool false)).mono fun k _ (e : k = gT) => .inr (by rw [e]; exact HGT.out))
  generalize w25.setCell ⟨gT, 0, none⟩ (.bool false) = w26 at HK26 ⊢
  clear c1 c2 hf0 HOT HBX5 HBX4 HPS4 HK24 HK25 HQ0 HGT HNT HOQ HBXS HPS HPS3 HPX HX0 HXF
  have hnk : ∀ k, (w21.heap.size ≤ k ∧ k < b22 + 2) → ¬ (k = xb ∨ (w0.heap.size ≤ k ∧ k < w21.heap.size)) := fun k hk e => by
    have := HXB.out; have := HSZ.out; omega
  have HB46 := Lib.hid (HB4.out.kept HK26.out (hnk _ (by have := HSZ.out; omega)))
  have HPM6 := Lib.hid (HPM3.out.kept HK26.out fun k (hk : w21.heap.size ≤ k ∧ k < b22) => hnk k (by omega))
  have HPT6 := Lib.hid ((HPT.out.grow HG23.out).kept HK26.out fun k (hk : w21.heap.size ≤ k ∧ k < b22) => hnk k (by omega))
  have HG26 : Hid (Grow w w26) := (HG21.out.trans HG13.out).then HK26.out fun k hk e => by
    have h1 := HG0.out.size; have h2 := HXB.out; have h3 := HSZ.out; have h4 := HG21.out.size; omega
  clear hnk HB4 HPM3 HPM HPT HG23 HK26
  have HB46X := HB46
  have c1 := HB46.out.cell 1
  have c2 := HB46.out.cell 0
  simp only [List.getElem?_cons_zero, List.getElem?_cons_succ] at c1 c2
  have c3 := HPM6.out.bb.cell (i := 0) (by show 0 < 2 * 1; omega)
  unfold bsl at c3
  have c4 : w26.cell? ⟨gT2, 0, none⟩ = some (.bool true) := HPM6.out.tb.cell (i := 0) (by show 0 < 2 * 1; omega)
  have HBR : Hid (OR w26 (qb2 0) 5 1 (cb2 0) 16 (ucell DD)) := HPM6.out.br 0 (by show 0 < 2; omega)
  have k1 := (body_sl HBR.out HD16.out).str (P := Try.prog) 22 9 5 Try.underlying22 Try.underlying5 Try.underlying9 (cb2 0)
  rw [← HSX.out] at k1
  go_upto_region 15 with (fail)
  clear c1 c2 c3 c4 k1
  have z0 := HB46.out.cell 0
  have z1 := HB46.out.cell 1
  have z2 := HB46.out.cell 2
  simp only [List.getElem?_cons_zero, List.getElem?_cons_succ] at z0 z1 z2
  go_upto_region 16 with (go_at_call 12; (with_reducible refine ((t_do0 HPT6.out 0 3 0 0 0 16 (by omega) E3.out)).mono ?_); rintro e wk ⟨YT, kT, lT, YB, kB, lB, YH, kH, lH, A26, n26, cap26, rfl, hpa, hre, hg⟩; have HPA := Lib.hid hpa; have HRE26 := Lib.hid hre; have HGC := Lib.hid hg; clear hpa hre hg)
  clear z0 z1 z2 HPA
  obtain ⟨hre, -, -⟩ := HRE26.out
  obtain ⟨-, hb8, hg4⟩ := two_box wk (.slice YT kT lT) (.slice YB kB lB) (.slice YH kH lH) (.int .i64 0) (.int .i64 0) (.int .i64 0) (.slice A26 n26 cap26)
  have hre2 := Blk.Sl.kept hre hg4 (Nat.le_refl _) (fun _ _ x => x)
  have hg27 := HG26.out.trans (HGC.out.trans hg4)
  have hbz := hg4.size
  obtain ⟨b27, hbk⟩ : ∃ b27, b27 = wk.heap.size := ⟨_, rfl⟩
  rw [← hbk] at hb8 hre2 hbz ⊢
  generalize (wk.alloc (.cells #[.slice YT kT lT, .slice YB kB lB, .slice YH kH lH] 28)).alloc (.cells #[.int .i64 0, .int .i64 0, .int .i64 0, .slice A26 n26 cap26] 31) = w27 at hb8 hre2 hg27 hbz ⊢
  have HB8 := Lib.hid hb8
  have HRE := Lib.hid hre2
  have HG27 := Lib.hid hg27
  have HBZ := Lib.hid hbz
  clear hb8 hre hre2 hg27 hbz hg4 hbk HRE26 HGC HG26 HPT6 HPM6 HB46 HB46X HBR
  have km := made16
  go_upto_region 17 with (fail)
  clear km
  have hmk : NBlk (w27.alloc (.cells (madeCells #[Value.int .u8 0] 16) 5)) w27.heap.size 5 .u8 (List.replicate 16 0) := NBlk.made w27 5 .u8 16
  have hgm : Grow w27 (w27.alloc (.cells (madeCells #[Value.int .u8 0] 16) 5)) := (Kept.refl _ _).alloc _
  obtain ⟨g, hgg⟩ : ∃ g, g = w27.heap.size := ⟨_, rfl⟩
  rw [← hgg] at hmk ⊢
  generalize w27.alloc (.cells (madeCells #[Value.int .u8 0] 16) 5) = w28 at hmk hgm ⊢
  have HORA : Hid (OR w28 g 5 1 16 16 (ucell zeros)) := PmN.or_zeros hmk
  obtain ⟨w29, hcp, hor, hk5⟩ := copy_body (u := 0) (A := a0) (n := len0) HORA.out (Nat.le_refl 16) rfl (sl_grow HSL.out (HG27.out.trans hgm)) HL16.out cap0
  rw [← HDD.out] at hor
  replace hcp : ∀ ty, (Builtin.copy_ #[22, 22] ty #[.slice (some ⟨g, 0, none⟩) 16 16, .slice a0 len0 cap0]).run Try.prog w28 = .ok (.int .i64 (len0 : Int)) w29 := hcp
  have hg29 : Grow w27 w29 := hgm.then hk5 fun x hx e => by have e : x = g := e; omega
  have HOR := Lib.hid hor
  have HG29 := Lib.hid hg29
  clear hmk hgm hgg hor hk5 hg29 HORA
  have HB9 := Lib.hid (HB8.out.grow HG29.out)
  have HRE9 := Lib.hid (Blk.Sl.kept HRE.out HG29.out HBZ.out (fun _ _ x => x))
  go_upto_region 18 with (fail)
  clear hcp
  have HALL := Lib.hid (HG27.out.trans HG29.out)
  go_wp2_with (go_at_call 10; (with_reducible refine (told_any _).mono ?_); rintro e wt ⟨rfl, hge⟩; have HGE := Lib.hid hge; have c1 := (HB9.out.grow hge).cell 3; simp only [List.getElem?_cons_zero, List.getElem?_cons_succ] at c1; have k1 := (Blk.Sl.kept HRE9.out hge (Nat.le_trans HBZ.out HG29.out.size) (fun _ _ x => x)).str (P := Try.prog) 22 9 5 Try.underlying22 Try.underlying5 Try.underlying9 cap26; have k2 := (body_sl (HOR.out.grow hge) HD16.out).str (P := Try.prog) 22 9 5 Try.underlying22 Try.underlying5 Try.underlying9 16; rw [← HSX.out] at k1 k2; clear hge)
  go_ret
  exact ⟨rfl, Grow.below (HALL.out.trans HGE.out)⟩

/-! ### THE ROW's STEP: WRITTEN OUT: LEAVE IT -/
set_option maxRecDepth 100000 in
theorem lifted (os : Os) (started : os.Started) (H : Type) (enc : TypeId × Value → H) :
    ReturnsInHanded {} Try.checked os 3 .any (Rows.modelOwnSpec.pre6 enc Try.prog Try.f3 Rows.modelOwnRow.domain false) (Rows.modelOwnSpec.post enc Try.prog Try.f3 false true false false) := by
  refine returnsInHanded_of_change (C := Try.checked) own started (by kernel_rfl) Try.func3
    (ChangeSpec.witness6 (enc := enc) (C := Try.checked) false ⟨#[], #[.slice none 0 0], []⟩ 8 (by kernel_rfl) (by kernel_rfl) (by kernel_rfl) (by kernel_rfl)) ?_
  intro W base args ds gs before hval0 hW hcnd _
  have hval : ∀ (j : Nat) t v, Try.f3.params[j]? = some t → args[j]? = some v → Value.okWide Try.prog W .any base t v := hval0
  have hW' := hW
  obtain ⟨p, q, hA0, hV, rfl, hfz, hnd⟩ := hW
  have hA : DataW.TrodAll enc Try.prog W 0 (fun _ => true) true Try.f3.params.toList args.toList ds p := hA0
  rw [Try.params3] at hA hval
  obtain ⟨v0, vs0, d0, ds0, p0, q0, hargs, rfl, rfl, h0, r0⟩ := trodAll_cons hA
  obtain ⟨rfl, rfl, rfl⟩ := trodAll_nil r0
  obtain rfl : args = #[v0] := by cases args; simp_all
  obtain ⟨rfl, rfl⟩ := trodVars_none hV
  obtain ⟨a0, len0, cap0, rfl⟩ := okWide_slice Try.underlying22 (hval 0 22 v0 rfl rfl)
  have k0 := h0
  have lt0 : ∀ x ∈ p0, x.block < W.heap.size := by obtain ⟨m, hm⟩ := k0; exact DataW.trod_lt m _ _ _ hm
  obtain ⟨z0, w0⟩ : ∃ zs, IsRow .u8 W a0 len0 cap0 zs := by
    obtain ⟨fuel, hf⟩ := h0
    rcases open_ints Try.underlying22 Try.underlying5 (by kernel_rfl) hf with ⟨hcs, _⟩ | ⟨x, l, c, zs, hcs, _, hl, hm, hz, _, hcell, hwz⟩
    · simp [Value.cells] at hcs
      obtain ⟨rfl, rfl, rfl⟩ := hcs
      exact ⟨[], .inl ⟨rfl, rfl, rfl, rfl⟩⟩
    · simp [Value.cells] at hcs
      obtain ⟨rfl, rfl, rfl⟩ := hcs
      exact ⟨zs, .inr ⟨_, rfl, hl, hm, by simpa using hz, hcell, hwz⟩⟩
  clear hA0 hval0
  refine (walk a0 len0 cap0 z0 W w0).mono fun e W' ⟨he, bel⟩ => ?_
  subst he
  exact ⟨_, rfl, _, _, _, [], _, [], hW', trodAll_mk1 (shut_bool Try.underlying4 _), (trodAll_cons_mk (Below.trod laidOut (by kernel_rfl) (of_decide_eq_true (by kernel_rfl)) k0 bel lt0) trodAll_mk0), rfl, bel.frame _, fun h => by cases h⟩

theorem over : Rows.modelOwnRow.holds Try.pinned (OpenSpec.ofChange Rows.modelOwnSpec) :=
  OpenClaim.holds_of_wide 3 Try.f3 rfl rfl rfl rfl rfl rfl rfl ⟨rfl, rfl, rfl, rfl, rfl⟩ rfl rfl rfl rfl rfl (by kernel_rfl) Try.func3 (by kernel_rfl)
    (of_decide_eq_true (by kernel_rfl)) (by unfold Func.isWrapper; first | (rw [if_pos (by decide +kernel)]; kernel_rfl) | (rw [if_neg (by decide +kernel)]; exact ⟨rfl, rfl⟩))
    (fun os started H enc _ => lifted os started H enc)

/-- ████ THE STATEMENT ████ -/
theorem proved : Rows.ModelOwnSaid := over
#print axioms proved
end Go.Proofs.Yteiodnclpbjbbaa.modelOwn
