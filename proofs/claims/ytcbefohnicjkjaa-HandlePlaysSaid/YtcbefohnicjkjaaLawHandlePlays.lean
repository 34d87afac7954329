/-
  For every input the call of lavabolaw12.HandlePlays returns true and leaves its arguments as they were; no condition.
-/
import Derived.Test.YtcbefohnicjkjaaTold12
import Derived.Test.YtcbefohnicjkjaaHdTwo
import Derived.Test.YtcbefohnicjkjaaHdSteps
import Derived.Test.YtcbefohnicjkjaaRows
import Derived.WalkKit
import Derived.ProofKit
import Derived.OpenShut
import Derived.ShutString
import Derived.ChangeOld
import Derived.Below
namespace Go.Proofs.Ytcbefohnicjkjaa.handlePlays
open Go.ChangeShapes Go.WideShapes Go.ChangeAt Go.RowKit
open Go.ChangeMaps (open_string shut_string)
open Go.Proofs.Ytcbefohnicjkjaa.Mem Go.Proofs.Ytcbefohnicjkjaa.Blk Go.Proofs.Ytcbefohnicjkjaa.Cells Go.Proofs.Ytcbefohnicjkjaa.Orow Go.Proofs.Ytcbefohnicjkjaa.HdM Go.Proofs.Ytcbefohnicjkjaa.HdC Go.Proofs.Ytcbefohnicjkjaa.HdO Go.Proofs.Ytcbefohnicjkjaa.HdA Go.Proofs.Ytcbefohnicjkjaa.HdF Go.Proofs.Ytcbefohnicjkjaa.HdR Go.Proofs.Ytcbefohnicjkjaa.HdW Go.Proofs.Ytcbefohnicjkjaa.Told12 Go.Proofs.Ytcbefohnicjkjaa.Ops12 Go.Proofs.Ytcbefohnicjkjaa.Stages
set_option linter.unusedVariables false

theorem own : ownKnob Try.prog.godebug = none := by kernel_rfl
theorem laidOut : laidOutB Try.prog = true := by kernel_rfl

/-- WHAT THE WALK IS TOLD OF A SLICE OF INTEGERS THAT CAME IN: it is nil; or it leads to a row of 'cap' cells, the numbers 'zs' (the first 'len' are its elements, the rest its spare room), each fitting its kind. -/
def IsRow (k : IntKind) (w : World) (a : Option Addr) (len cap : Nat) (zs : List Int) : Prop :=
  (a = none ∧ len = 0 ∧ cap = 0 ∧ zs = []) ∨
  ∃ x, a = some x ∧ len ≤ cap ∧ cap ≤ maxLen ∧ zs.length = cap ∧ (∀ i, i < zs.length → w.cell? (x.add i) = some (.int k (zs.getD i 0))) ∧ ∀ n ∈ zs, (Lit.int k n).wf = true

theorem kind5 (a : Int) : ∃ (m K : Int), a.tmod 5 = m ∧ -5 < m ∧ m < 5 ∧ (m + 5).tmod 5 = K ∧ 0 ≤ K ∧ K < 5 := by
  have key : ∀ b : Int, 0 ≤ b → 0 ≤ b.tmod 5 ∧ b.tmod 5 < 5 := fun b hb => by
    rw [IntWalk.rem_in _ _ hb]
    omega
  have hb : -5 < a.tmod 5 ∧ a.tmod 5 < 5 := by
    by_cases h : 0 ≤ a
    · have := key a h
      omega
    · have := key (-a) (by omega)
      rw [Int.neg_tmod] at this
      omega
  obtain ⟨h0, h8⟩ := key (a.tmod 5 + 5) (by omega)
  exact ⟨_, _, rfl, hb.1, hb.2, rfl, h0, h8⟩
/-- The blocks that both may write, a step's box apart. -/
def XB (B g : Nat) (k : Nat) : Prop := B ≤ k ∧ k ≠ g
theorem two_box {B m : Nat} {wr : World} {a : Hs} (h : Two (B ≤ ·) B m wr a) (o : Obj) : Two (XB B wr.heap.size) B m (wr.alloc o) a :=
  (h.mono (Y := XB B wr.heap.size) fun k hk x => ⟨x, Nat.ne_of_lt hk⟩).grow ((Kept.refl _ _).alloc _)
def PInv (w : World) (B m : Nat) (wx : World) : Prop := ∃ a, 1 ≤ a.n ∧ Two (B ≤ ·) B m wx a ∧ Grow w wx
def PLoop (w : World) (B m M g : Nat) (i : Value) (wx : World) : Prop := ∃ j : Nat, j + g = M ∧ i = .int .i64 (j : Int) ∧ PInv w B m wx
/-- Both answered the same, and stand the same. -/
def PCut (B m g : Nat) (wa : World) (wx : World) : Prop := ∃ (a : Hs), 1 ≤ a.n ∧ Two (XB B g) B m wx a ∧ Kept (XB B g) wa wx

/-! ### STEP 1: THE WALK: the Go text returns true, AND WRITES NOTHING THAT WAS THERE: 'Below w.heap.size w w'' (Derived/Below.lean: '.refl', '.alloc', '.drew', '.setCell' at a new block, '.trans'). Open each 'IsRow' by 'rcases' AHEAD of 'go_enter'; part every test ahead of the walk. -/
set_option maxHeartbeats 8000000 in
set_option maxRecDepth 100000 in
theorem walk (a0 : Int) (a1 : Option Addr) (len1 cap1 : Nat) (w : World) (w0 : (Lit.int .i64 a0).wf = true) (w1 : OpsAt w a1 len1 cap1) :
    Calls Try.prog 4 #[.int .i64 a0, .slice a1 len1 cap1] w fun e w' => e = .returned (.bool true) ∧ Below w.heap.size w w' := by
  have k0 := bounds_i64 w0
  obtain ⟨hlc, hcm, hops⟩ := w1
  unfold maxLen at hcm
  have HOPS := Lib.hid hops
  clear hops
  by_cases hpg : 1 ≤ a0 ∧ a0 ≤ 6
  · obtain ⟨hp0, hp6⟩ := hpg
    obtain ⟨N, rfl⟩ := Int.eq_ofNat_of_zero_le (show 0 ≤ a0 by omega)
    have hN1 : 1 ≤ N := by omega
    have hN6 : N ≤ 6 := by omega
    have CN := Lib.hid (new_good (w := w) N hN1 hN6)
    have CR : Hid (∀ wx, Calls Try.prog 13 #[.int .i64 (N : Int)] wx (NewPost N wx)) := fun wx => HdT.rnew_good N hN1 hN6
    have HN1 := Lib.hid hN1
    clear hp0 hp6 hN6 hN1
    go_enter Try.func4, Try.ntmps4
    go_upto_region 6 with (first
      | (go_at_call 7; (with_reducible refine CN.out.mono ?_); rintro e w1 ⟨rfl, ha, hg⟩; have HA1 := Lib.hid ha; have HG1 := Lib.hid hg; clear ha hg)
      | (go_at_call 13; (with_reducible refine (CR.out _).mono ?_); rintro e w2 ⟨rfl, ha, hg⟩; have HA2 := Lib.hid ha; have HG2 := Lib.hid hg; clear ha hg))
    have HGG : Hid (Grow w w2) := HG1.out.trans HG2.out
    by_cases h150 : 150 < len1
    · have h150z : (150 : Int) < (len1 : Int) := by omega
      go_wp2_with (go_at_call 10; (with_reducible refine (told_any _).mono ?_); rintro e w3 ⟨rfl, hge⟩; have HGE := Lib.hid hge; clear hge)
      go_ret
      exact ⟨rfl, Grow.below (HGG.out.trans HGE.out)⟩
    · have h150z : (len1 : Int) ≤ 150 := by omega
      have HT0 := Lib.hid (two_new HA1.out HA2.out HG1.out HG2.out)
      clear HA1 HA2 HG1 HG2 CN CR h150
      obtain ⟨B, hB⟩ : ∃ B, B = w.heap.size := ⟨_, rfl⟩
      have HB := Lib.hid hB
      rw [← hB] at HT0 ⊢
      clear hB
      generalize w1.heap.size = m at HT0 ⊢
      go_wp2
      go_loopg [7] len1 (PLoop w B m len1)
      case atStart => exact ⟨0, by omega, rfl, _, HN1.out, HT0.out, HGG.out⟩
      case round =>
        obtain ⟨j, hg, rfl, a, ha1, htw, hgr⟩ := hrel
        have HT := Lib.hid htw
        have HGR := Lib.hid hgr
        have HG := Lib.hid hg
        have HA1 := Lib.hid ha1
        clear htw hgr hg ha1 HT0 HGG HN1
        by_cases hj : j < len1
        · have hjz : (j : Int) < (len1 : Int) := by omega
          have HJ := Lib.hid hj
          obtain ⟨ab, ao, rfl, hab, hall⟩ := HOPS.out (by omega)
          obtain ⟨x, hx⟩ := hall j hj
          have ck := HGR.out.cellN hx.k id
          have cc := HGR.out.cellN hx.c id
          have cp := HGR.out.cellN hx.p id
          have ch := HGR.out.cellN hx.h id
          have kB := hx.kB
          clear hall hx hj
          obtain ⟨km, K, hkm, hk1, hk2, hK, hK0, hK5⟩ := kind5 x.k
          go_upto_if 43 with (fail)
          have HTA := Lib.hid (two_box HT.out (.cells #[Value.int .i64 x.k, Value.int .i64 x.c, Value.int .i64 x.p, Value.int .i64 x.h] 36))
          have HGA : Hid (Grow w (wr.alloc (.cells #[Value.int .i64 x.k, Value.int .i64 x.c, Value.int .i64 x.p, Value.int .i64 x.h] 36))) := HGR.out.alloc _
          have HBA := Lib.hid (Blk.new wr 36 [Value.int .i64 x.k, Value.int .i64 x.c, Value.int .i64 x.p, Value.int .i64 x.h])
          clear HT HGR hK hkm hk1 hk2 ck cc cp ch kB hjz
          generalize wr.alloc (.cells #[Value.int .i64 x.k, Value.int .i64 x.c, Value.int .i64 x.p, Value.int .i64 x.h] 36) = wa at HTA HGA HBA ⊢
          generalize wr.heap.size = gb at HTA HBA ⊢
          have HNX : Hid (¬ XB B gb gb) := fun h => h.2 rfl
          have o1 : wa.cell? ⟨gb, 1, none⟩ = some (.int .i64 x.c) := HBA.out.cell 1
          have o2 : wa.cell? ⟨gb, 2, none⟩ = some (.int .i64 x.p) := HBA.out.cell 2
          have o3 : wa.cell? ⟨gb, 3, none⟩ = some (.int .i64 x.h) := HBA.out.cell 3
          have HO1 := Lib.hid o1
          have HO2 := Lib.hid o2
          have HO3 := Lib.hid o3
          have HTD : Hid (Two (XB B gb) B m wa.drew a) := HTA.out.grow (Kept.drew' wa)
          go_cut [] from 43 to 69 (fun wx => PCut B m gb wa wx)
          case first =>
            by_cases hk3 : K < 3
            · have hk3z : K < 3 := hk3
              have CP := Lib.hid (HTD.out.pair (fun G h => give_any h x.c x.p) (fun w1 H hk h => rgive_any h x.c x.p))
              have hzz : ∀ z : Int, (z != z) = false := fun z => by simp
              have u1 := up_cell (F := XB B gb) (w := wa.drew) (p := ⟨gb, 1, none⟩) o1 HNX.out
              have u2 := up_cell (F := XB B gb) (w := wa.drew) (p := ⟨gb, 2, none⟩) o2 HNX.out
              have HNN := Lib.hid (gave_n (a := a) x.c x.p)
              generalize a.give x.c x.p = z at CP
              generalize a.gave x.c x.p = a2 at CP HNN
              have hz := hzz z
              clear hzz
              clear o1 o2 o3 hK0 hK5
              go_upto_region 13 with (fail)
              refine wp_region_stages (Kept (XB B gb)) (kept_refl _) (kept_trans _) [([0, 1, 2, 3, 4, 6, 7, 8, 9, 10], 5), ([], 11)] [12] (by kernel_rfl) (by kernel_rfl) ?_
              simp only [selSt, sel, List.map_cons, List.map_nil, List.getD_cons_succ, List.getD_cons_zero]
              refine st_cons fun K1 hK1 => ?_
              repeat (go_big_quiet_step (fail))
              refine wpQuiet_nil ?_
              clear u1 u2
              go_wp2_with (go_at_call 8; (with_reducible refine CP.out.mono ?_); rintro e w4 ⟨rfl, hk, hc⟩; have HK4 := Lib.hid hk; have HC4 := Lib.hid hc; clear hk hc)
              refine norm_up (hK1 _ _ HK4.out (st_cons fun K2 hK2 => wpQuiet_nil ?_))
              clear hK1 K1
              go_wp2_with (go_at_call 14; (with_reducible refine HC4.out.mono ?_); rintro e w5 ⟨rfl, hk, ht⟩; have HK5 := Lib.hid hk; have HT5 := Lib.hid ht; clear hk ht)
              refine norm_up (hK2 _ _ HK5.out (st_nil fun K4 hK4 => ?_))
              clear hK2 K2
              repeat (go_big_quiet_step (fail))
              refine wpQuiet_nil (hK4 _ ?_)
              clear hK4 K4
              go_wp2
              go_meet
              exact ⟨_, by rw [HNN.out]; exact HA1.out, HT5.out, ((Kept.drew' wa).trans HK4.out).trans HK5.out⟩
            · have hk3z : 3 ≤ K := by omega
              clear hk3
              have CP := Lib.hid (HTD.out.pair (fun G h => back_any h x.c x.h) (fun w1 H hk h => rback_any h x.c x.h))
              have hzz : ∀ z : Int, (z != z) = false := fun z => by simp
              have u1 := up_cell (F := XB B gb) (w := wa.drew) (p := ⟨gb, 1, none⟩) o1 HNX.out
              have u2 := up_cell (F := XB B gb) (w := wa.drew) (p := ⟨gb, 3, none⟩) o3 HNX.out
              have HNN := Lib.hid (back_n (a := a) x.c x.h)
              generalize a.page x.c x.h = z at CP
              generalize a.back x.c x.h = a2 at CP HNN
              have hz := hzz z
              clear hzz
              clear o1 o2 o3 hK0 hK5
              go_upto_region 15 with (fail)
              refine wp_region_stages (Kept (XB B gb)) (kept_refl _) (kept_trans _) [([0, 1, 2, 3, 4, 6, 7, 8, 9, 10], 5), ([], 11)] [12] (by kernel_rfl) (by kernel_rfl) ?_
              simp only [selSt, sel, List.map_cons, List.map_nil, List.getD_cons_succ, List.getD_cons_zero]
              refine st_cons fun K1 hK1 => ?_
              repeat (go_big_quiet_step (fail))
              refine wpQuiet_nil ?_
              clear u1 u2
              go_wp2_with (go_at_call 15; (with_reducible refine CP.out.mono ?_); rintro e w4 ⟨rfl, hk, hc⟩; have HK4 := Lib.hid hk; have HC4 := Lib.hid hc; clear hk hc)
              refine norm_up (hK1 _ _ HK4.out (st_cons fun K2 hK2 => wpQuiet_nil ?_))
              clear hK1 K1
              go_wp2_with (go_at_call 16; (with_reducible refine HC4.out.mono ?_); rintro e w5 ⟨rfl, hk, ht⟩; have HK5 := Lib.hid hk; have HT5 := Lib.hid ht; clear hk ht)
              refine norm_up (hK2 _ _ HK5.out (st_nil fun K4 hK4 => ?_))
              clear hK2 K2
              repeat (go_big_quiet_step (fail))
              refine wpQuiet_nil (hK4 _ ?_)
              clear hK4 K4
              go_wp2
              go_meet
              exact ⟨_, by rw [HNN.out]; exact HA1.out, HT5.out, ((Kept.drew' wa).trans HK4.out).trans HK5.out⟩
          case rest =>
            obtain ⟨a2, ha2, htw, hkx⟩ := hcut
            have HA2 := Lib.hid ha2
            have HT1 := Lib.hid htw
            have HK1 := Lib.hid hkx
            have HG1 : Hid (Grow w wc) := HGA.out.then HK1.out fun k hk h => by
              have h1 := HB.out
              have h2 := h.1
              omega
            have HP1 := Lib.hid (HK1.out.cellN HO1.out HNX.out)
            have HP2 := Lib.hid (HK1.out.cellN HO2.out HNX.out)
            have HP3 := Lib.hid (HK1.out.cellN HO3.out HNX.out)
            clear ha2 htw hkx o1 o2 o3 hK0 hK5 HTA HTD HO1 HO2 HO3 HA1
            obtain ⟨Gd, hd1⟩ := HT1.out.at1
            have HAL := Lib.hid (all_any hd1)
            clear hd1
            go_upto_region 18 with (go_at_call 9; (with_reducible refine HAL.out.mono ?_); rintro e w3 ⟨v, q, cp, rfl, hgr, hk⟩; have HGR3 := Lib.hid hgr; have HK3 := Lib.hid hk; clear hgr hk)
            obtain ⟨g, cap, rfl, hor, hgG⟩ := HGR3.out.out.form (by have := HA2.out; omega)
            have HOR := Lib.hid hor
            have HT3 := Lib.hid (HT1.out.grow HK3.out)
            have HTD := Lib.hid (HT3.out.grow (Kept.drew' w3))
            have HKD : Hid (Grow wc w3.drew) := HK3.out.drew
            obtain ⟨G1, hd1⟩ := HTD.out.at1
            obtain ⟨G2, hd2⟩ := HTD.out.at2
            have C1 := Lib.hid (page_any hd1 x.c x.h)
            have C2 := Lib.hid (rpage_any hd2 x.c x.h)
            have C3 := Lib.hid (pins_any hd1 x.p)
            have C4 := Lib.hid (rpins_any hd2 x.p)
            have C5 := Lib.hid (room_any hd1 x.c)
            have C6 := Lib.hid (rroom_any hd2 x.c)
            obtain ⟨Am, capm, hm0, hrm⟩ := HAt.rows hd2
            have HM0 := Lib.hid hm0
            have HRM := Lib.hid hrm
            have hnz : (a2.n : Int) ≤ 6 := by have := hd2.good.n; omega
            clear hor hgG hd1 hd2 hm0 hrm
            have HT2 : Hid (Two (XB B gb) B m w3 a2) := HT3.out
            have hnn : ((a2.n : Int) != (a2.n : Int)) = false := by simp
            generalize hfz : a2.page x.c x.h = fz at C1 C2
            generalize hpz : ((a2.pins x.p : Nat) : Int) = pz at C3 C4
            generalize hrz : a2.room x.c = rz at C5 C6
            clear hfz hpz hrz
            have hff : (fz != fz) = false := by simp
            have hpp : (pz != pz) = false := by simp
            have hrr : (rz != rz) = false := by simp
            have u1 := up_cell (F := fun _ => False) (w := w3.drew) (HKD.out.cellN HP1.out id) id
            have u2 := up_cell (F := fun _ => False) (w := w3.drew) (HKD.out.cellN HP2.out id) id
            have u3 := up_cell (F := fun _ => False) (w := w3.drew) (HKD.out.cellN HP3.out id) id
            have u4 := up_cell (F := fun _ => False) (w := w3.drew) HM0.out id
            refine wp_region_stages Grow (kept_refl _) (kept_trans _) [([0, 1, 2, 3, 4, 6, 7, 8, 9, 10], 5), ([], 11), ([12, 13, 14, 15, 16, 18, 19, 20], 17), ([], 21), ([22, 23, 24, 25, 26, 27, 29, 30, 31], 28), ([], 32)] [33, 34, 35, 36, 37, 38, 39, 40, 41, 42, 43, 44] (by kernel_rfl) (by kernel_rfl) ?_
            simp only [selSt, sel, List.map_cons, List.map_nil, List.getD_cons_succ, List.getD_cons_zero]
            refine st_cons fun K1 hK1 => ?_
            repeat (go_big_quiet_step (fail))
            refine wpQuiet_nil ?_
            go_wp2_with (go_at_call 11; (with_reducible refine C1.out.mono ?_); rintro e v1 ⟨rfl, rfl⟩)
            refine norm_up (hK1 _ _ (kept_refl _ _) (st_cons fun K2 hK2 => wpQuiet_nil ?_))
            clear hK1 K1
            go_wp2_with (go_at_call 17; (with_reducible refine C2.out.mono ?_); rintro e v2 ⟨rfl, rfl⟩)
            refine norm_up (hK2 _ _ (kept_refl _ _) (st_cons fun K3 hK3 => ?_))
            clear hK2 K2
            repeat (go_big_quiet_step (fail))
            refine wpQuiet_nil ?_
            go_wp2_with (go_at_call 12; (with_reducible refine C3.out.mono ?_); rintro e v3 ⟨rfl, rfl⟩)
            refine norm_up (hK3 _ _ (kept_refl _ _) (st_cons fun K4 hK4 => wpQuiet_nil ?_))
            clear hK3 K3
            go_wp2_with (go_at_call 18; (with_reducible refine C4.out.mono ?_); rintro e v4 ⟨rfl, rfl⟩)
            refine norm_up (hK4 _ _ (kept_refl _ _) (st_cons fun K5 hK5 => ?_))
            clear hK4 K4
            repeat (go_big_quiet_step (fail))
            refine wpQuiet_nil ?_
            go_wp2_with (go_at_call 19; (with_reducible refine C5.out.mono ?_); rintro e v5 ⟨rfl, rfl⟩)
            refine norm_up (hK5 _ _ (kept_refl _ _) (st_cons fun K6 hK6 => wpQuiet_nil ?_))
            clear hK5 K5
            go_wp2_with (go_at_call 20; (with_reducible refine C6.out.mono ?_); rintro e v6 ⟨rfl, rfl⟩)
            refine norm_up (hK6 _ _ (kept_refl _ _) (st_nil fun K7 hK7 => ?_))
            clear hK6 K6
            repeat (go_big_quiet_step (fail))
            refine wpQuiet_nil (hK7 _ ?_)
            clear hK7 K7 u1 u2 u3 u4 hff hpp hrr
            go_wp2
            go_loopg [10] a2.n (fun gx i wr => ∃ t : Nat, t + gx = a2.n ∧ i = .int .i64 (t : Int) ∧ Grow w3.drew wr)
            case atStart => exact ⟨0, by omega, rfl, Kept.refl _ _⟩
            case round =>
              obtain ⟨t, hg, rfl, hgr⟩ := hrel
              have HQ := Lib.hid hg
              have HQR := Lib.hid hgr
              clear hg hgr
              by_cases ht : t < a2.n
              · have htz : (t : Int) < (a2.n : Int) := by omega
                obtain ⟨gm, bm, cm, hAm, cmc, hrowm⟩ := HRM.out.get t ht
                have HAM := Lib.hid hAm
                have cgc : w3.cell? ⟨g, t, none⟩ = some (scell q cp t) := HOR.out.cell (by omega)
                unfold scell at cgc
                have HI := Lib.hid fun (wx : World) (hk : Grow wr.drew wx) => ints_six (((HGR3.out.row t ht).grow (Kept.drew' w3)).grow ((HQR.out.drew).trans hk)) (hrowm.grow ((HQR.out.drew).trans hk)) (cp t) cm
                have q1 := up_cell (F := fun _ => False) (w := wr.drew) (HQR.out.cellN (w := w3.drew) cgc id) id
                have q2 := up_cell (F := fun _ => False) (w := wr.drew) (HQR.out.cellN cmc id) id
                have q3 := up_cell (F := fun _ => False) (w := wr.drew) (HQR.out.cellN HM0.out id) id
                rw [hAm] at q3
                have HTT := Lib.hid ht
                clear hAm cmc hrowm cgc ht
                go_upto_region 23 with (fail)
                refine wp_region_stages Grow (kept_refl _) (kept_trans _) [([0, 1, 2, 3, 4, 5, 6, 7, 8, 9, 10], 11)] [12] (by kernel_rfl) (by kernel_rfl) ?_
                simp only [selSt, sel, List.map_cons, List.map_nil, List.getD_cons_succ, List.getD_cons_zero]
                refine st_cons fun K1 hK1 => ?_
                repeat (go_big_quiet_step (fail))
                refine wpQuiet_nil ?_
                clear q1 q2 q3
                go_wp2_with (go_at_call 21; (with_reducible refine (HI.out _ (kept_refl _ _)).mono ?_); rintro e v1 ⟨rfl, hg⟩; have HV1 := Lib.hid hg; clear hg)
                refine norm_up (hK1 _ _ HV1.out (st_nil fun K4 hK4 => ?_))
                clear hK1 K1
                repeat (go_big_quiet_step (fail))
                refine wpQuiet_nil (hK4 _ ?_)
                clear hK4 K4
                go_wp2
                go_roundg (gk - 1)
                case measure => have := HQ.out; have := HTT.out; omega
                case rel => exact ⟨t + 1, by have := HQ.out; have := HTT.out; omega, by go_num, (HQR.out.drew).trans HV1.out⟩
              · obtain rfl : t = a2.n := by have := HQ.out; omega
                have hjz : (j : Int) < (len1 : Int) := by have := HJ.out; omega
                have HKE : Hid (Grow wc wr) := HKD.out.trans HQR.out
                clear ht
                go_wp2
                go_roundg (len1 - (j + 1))
                case measure => have := HG.out; have := HJ.out; omega
                case rel => exact ⟨j + 1, by have := HG.out; have := HJ.out; omega, by go_num, a2, HA2.out, (HT1.out.mono fun k _ h => h.1).grow HKE.out, HG1.out.trans HKE.out⟩
        · obtain rfl : j = len1 := by have := HG.out; omega
          clear hj HOPS
          go_wp2_with (go_at_call 10; (with_reducible refine (told_any _).mono ?_); rintro e w3 ⟨rfl, hge⟩; have HGE := Lib.hid hge; clear hge)
          go_ret
          exact ⟨rfl, Grow.below (HGR.out.trans HGE.out)⟩
  · have CN := Lib.hid fun (wx : World) => new_bad (w := wx) a0 hpg
    have CR := Lib.hid fun (wx : World) => HdT.rnew_bad (w := wx) a0 hpg
    clear hpg
    go_enter Try.func4, Try.ntmps4
    go_wp2_with (first
      | (go_at_call 7; (with_reducible refine (CN.out _).mono ?_); rintro e w' ⟨rfl, rfl⟩)
      | (go_at_call 13; (with_reducible refine (CR.out _).mono ?_); rintro e w' ⟨rfl, rfl⟩)
      | (go_at_call 10; (with_reducible refine (told_any _).mono ?_); rintro e w3 ⟨rfl, hge⟩; have HGE := Lib.hid hge; clear hge))
    go_ret
    exact ⟨rfl, Grow.below HGE.out⟩

/-! ### THE ROW's STEP: WRITTEN OUT: LEAVE IT -/
set_option maxRecDepth 100000 in
theorem lifted (os : Os) (started : os.Started) (H : Type) (enc : TypeId × Value → H) :
    ReturnsInHanded {} Try.checked os 4 .any (Rows.handlePlaysSpec.pre6 enc Try.prog Try.f4 Rows.handlePlaysRow.domain false) (Rows.handlePlaysSpec.post enc Try.prog Try.f4 false true false false) := by
  refine returnsInHanded_of_change (C := Try.checked) own started (by kernel_rfl) Try.func4
    (ChangeSpec.witness6 (enc := enc) (C := Try.checked) false ⟨#[], #[.int .i64 0, .slice none 0 0], []⟩ 8 (by kernel_rfl) (by kernel_rfl) (by kernel_rfl) (by kernel_rfl)) ?_
  intro W base args ds gs before hval0 hW hcnd _
  have hval : ∀ (j : Nat) t v, Try.f4.params[j]? = some t → args[j]? = some v → Value.okWide Try.prog W .any base t v := hval0
  have hW' := hW
  obtain ⟨p, q, hA0, hV, rfl, hfz, hnd⟩ := hW
  have hA : DataW.TrodAll enc Try.prog W 0 (fun _ => true) true Try.f4.params.toList args.toList ds p := hA0
  rw [Try.params4] at hA hval
  obtain ⟨v0, vs0, d0, ds0, p0, q0, hargs, rfl, rfl, h0, r0⟩ := trodAll_cons hA
  obtain ⟨v1, vs1, d1, ds1, p1, q1, rfl, rfl, rfl, h1, r1⟩ := trodAll_cons r0
  obtain ⟨rfl, rfl, rfl⟩ := trodAll_nil r1
  obtain rfl : args = #[v0, v1] := by cases args; simp_all
  obtain ⟨rfl, rfl⟩ := trodVars_none hV
  obtain ⟨a0, rfl, rfl, rfl, w0⟩ := open_int Try.underlying3 (hval 0 3 v0 rfl rfl) h0
  obtain ⟨a1, len1, cap1, rfl⟩ := okWide_slice Try.underlying32 (hval 1 32 v1 rfl rfl)
  have k1 := h1
  have lt1 : ∀ x ∈ p1, x.block < W.heap.size := by obtain ⟨m, hm⟩ := k1; exact DataW.trod_lt m _ _ _ hm
  have w1 : OpsAt W a1 len1 cap1 := by obtain ⟨fuel, hf⟩ := h1; exact ops_open hf
  clear hA0 hval0
  refine (walk a0 a1 len1 cap1 W w0 w1).mono fun e W' ⟨he, bel⟩ => ?_
  subst he
  exact ⟨_, rfl, _, _, _, [], _, [], hW', trodAll_mk1 (shut_bool Try.underlying4 _), (trodAll_cons_mk (shut_int Try.underlying3 w0) (trodAll_cons_mk (Below.trod laidOut (by kernel_rfl) (of_decide_eq_true (by kernel_rfl)) k1 bel lt1) trodAll_mk0)), rfl, bel.frame _, fun h => by cases h⟩

theorem over : Rows.handlePlaysRow.holds Try.pinned (OpenSpec.ofChange Rows.handlePlaysSpec) :=
  OpenClaim.holds_of_wide 4 Try.f4 rfl rfl rfl rfl rfl rfl rfl ⟨rfl, rfl, rfl, rfl, rfl⟩ rfl rfl rfl rfl rfl (by kernel_rfl) Try.func4 (by kernel_rfl)
    (of_decide_eq_true (by kernel_rfl)) (by unfold Func.isWrapper; first | (rw [if_pos (by decide +kernel)]; kernel_rfl) | (rw [if_neg (by decide +kernel)]; exact ⟨rfl, rfl⟩))
    (fun os started H enc _ => lifted os started H enc)

/-- ████ THE STATEMENT ████ -/
theorem proved : Rows.HandlePlaysSaid := over
#print axioms proved
end Go.Proofs.Ytcbefohnicjkjaa.handlePlays
