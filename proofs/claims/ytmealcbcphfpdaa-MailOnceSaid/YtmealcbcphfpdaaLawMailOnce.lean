/-
  For every input the call of lavabolaw9.MailOnce returns true and leaves its arguments as they were; no condition.
-/
import Derived.Test.YtmealcbcphfpdaaOnceMem
import Derived.Test.YtmealcbcphfpdaaMailSteps
import Derived.Test.YtmealcbcphfpdaaRows
import Derived.WalkKit
import Derived.ProofKit
import Derived.OpenShut
import Derived.ShutString
import Derived.ChangeOld
import Derived.Below
namespace Go.Proofs.Ytmealcbcphfpdaa.mailOnce
open Go.ChangeShapes Go.WideShapes Go.ChangeAt Go.RowKit
open Go.ChangeMaps (open_string shut_string)
open Go.Conc
open Go.Proofs.Ytmealcbcphfpdaa.Mem Go.Proofs.Ytmealcbcphfpdaa.Blk Go.Proofs.Ytmealcbcphfpdaa.Cells Go.Proofs.Ytmealcbcphfpdaa.Chan Go.Proofs.Ytmealcbcphfpdaa.Prs Go.Proofs.Ytmealcbcphfpdaa.MailM Go.Proofs.Ytmealcbcphfpdaa.MailC Go.Proofs.Ytmealcbcphfpdaa.MailT Go.Proofs.Ytmealcbcphfpdaa.MailP Go.Proofs.Ytmealcbcphfpdaa.MailK Go.Proofs.Ytmealcbcphfpdaa.MailH Go.Proofs.Ytmealcbcphfpdaa.Told9 Go.Proofs.Ytmealcbcphfpdaa.GsC Go.Proofs.Ytmealcbcphfpdaa.Once Go.Proofs.Ytmealcbcphfpdaa.OnceM Go.Proofs.Ytmealcbcphfpdaa.Ops3 Go.Proofs.Ytmealcbcphfpdaa.Stages
set_option linter.unusedVariables false

theorem own : ownKnob Try.prog.godebug = none := by kernel_rfl
theorem laidOut : laidOutB Try.prog = true := by kernel_rfl

/-- WHAT THE WALK IS TOLD OF A SLICE OF INTEGERS THAT CAME IN: it is nil; or it leads to a row of 'cap' cells, the numbers 'zs' (the first 'len' are its elements, the rest its spare room), each fitting its kind. -/
def IsRow (k : IntKind) (w : World) (a : Option Addr) (len cap : Nat) (zs : List Int) : Prop :=
  (a = none ∧ len = 0 ∧ cap = 0 ∧ zs = []) ∨
  ∃ x, a = some x ∧ len ≤ cap ∧ cap ≤ maxLen ∧ zs.length = cap ∧ (∀ i, i < zs.length → w.cell? (x.add i) = some (.int k (zs.getD i 0))) ∧ ∀ n ∈ zs, (Lit.int k n).wf = true

def OSt (w : World) (B QB g1 g2 g3 N : Nat) (s7 : Value) (wx : World) : Prop :=
  ∃ b SN GT HD q A c, s7 = .slice A q.length c ∧ OMem w wx B QB g1 g2 g3 b SN GT HD A q.length c (ints q) ∧ Inv b SN GT HD q [] ∧ ∀ t, t < 12 → SN t ≤ N
def OLoop (w : World) (B QB g1 g2 g3 M g : Nat) (s7 s8 : Value) (wx : World) : Prop :=
  ∃ j : Nat, j + g = M ∧ s8 = .int .i64 (j : Int) ∧ OSt w B QB g1 g2 g3 j s7 wx
theorem inv_bounds {b : Bx} {SN GT HD : Nat → Nat} {q o : List Nat} (h : Inv b SN GT HD q o) {t N : Nat} (ht : t < 12) (hs : SN t ≤ N) : HD t ≤ N ∧ GT t ≤ N := by
  rcases h.st t ht with ⟨_, _, e1, e2⟩ | ⟨_, _, e1, e2, _⟩ | ⟨_, _, e1, e2⟩ <;> omega

theorem sc {w wx : World} {B QB g1 g2 g3 n c t : Nat} {b : Bx} {SN GT HD : Nat → Nat} {A : Option Addr} {zs : List Int} (h : OMem w wx B QB g1 g2 g3 b SN GT HD A n c zs) (ht : t < 12) :
    wx.cell? ⟨g1, t, none⟩ = some (.int .i64 (SN t : Int)) ∧ wx.cell? ⟨g2, t, none⟩ = some (.int .i64 (GT t : Int)) ∧ wx.cell? ⟨g3, t, none⟩ = some (.int .i64 (HD t : Int)) := ⟨h.s.cell ht, h.t.cell ht, h.h.cell ht⟩

/-- What the call's steps on a box may turn, seen from where they begin. -/
def RB (B : Nat) (a b : World) : Prop := Kept (BF B B a) a b
theorem rb_refl {B : Nat} (a : World) : RB B a a := Kept.refl _ _
theorem rb_trans {B : Nat} (a b c : World) (h : RB B a b) (k : RB B b c) : RB B a c := BF.trans h k
theorem up_rb {B : Nat} {w : World} {p : Addr} {v : Value} (h : w.cell? p = some v) (hp : p.block ≠ B) (u : Up (RB B) w) : u.u.cell? p = some v := BF.cell u.h h hp
instance rbInhabited {B : Nat} {w : World} : Inhabited (Up (RB B) w) := ⟨⟨w, rb_refl w⟩⟩
theorem head_of {q : List Nat} {n0 m : Nat} (hm : m < n0) (hn : n0 ≤ q.length) (SN : Nat → Nat) : ∃ t : Nat, (q.take n0).drop m = t :: (q.take n0).drop (m + 1) ∧ (ints q).drop m = (t : Int) :: (ints q).drop (m + 1) ∧ ((q.take n0).map (word SN)).getD m (0, 0) = ((t : Int), 100 * (t : Int) + (SN t : Int) - 1) := by
  have h1 : m < (q.take n0).length := by rw [List.length_take]; omega
  have h2 : m < (ints q).length := by rw [List.length_map]; omega
  refine ⟨q[m], ?_, ?_, ?_⟩
  · rw [List.drop_eq_getElem_cons h1, List.getElem_take]
  · rw [List.drop_eq_getElem_cons h2, List.getElem_map]
  · rw [List.getD_eq_getElem?_getD, List.getElem?_map, List.getElem?_take_of_lt hm, List.getElem?_eq_getElem (by omega)]
    rfl
def ILoop (w : World) (B QB g1 g2 g3 : Nat) (SN HD : Nat → Nat) (q : List Nat) (n0 : Nat) (A' : Option Addr) (us : List P2) (P g : Nat) (s7 s12 : Value) (wx : World) : Prop :=
  ∃ m : Nat, m + g = n0 ∧ s12 = .int .i64 (m : Int) ∧ ∃ b GT A c L, L + m = q.length ∧ s7 = .slice A L c ∧ OMem w wx B QB g1 g2 g3 b SN GT HD A L c ((ints q).drop m) ∧ Inv b SN GT HD (q.drop n0) ((q.take n0).drop m) ∧ Pl wx P A' n0 us

/-! ### STEP 1: THE WALK: the Go text returns true, AND WRITES NOTHING THAT WAS THERE: 'Below w.heap.size w w'' (Derived/Below.lean: '.refl', '.alloc', '.drew', '.setCell' at a new block, '.trans'). Open each 'IsRow' by 'rcases' AHEAD of 'go_enter'; part every test ahead of the walk. -/
set_option maxHeartbeats 8000000 in
set_option maxRecDepth 100000 in
theorem walk (a0 : Option Addr) (len0 cap0 : Nat) (w : World) (w0 : OpsAt w a0 len0 cap0) :
    Calls Try.prog 4 #[.slice a0 len0 cap0] w fun e w' => e = .returned (.bool true) ∧ Below w.heap.size w w' := by
  obtain ⟨hlc, hcm, hops⟩ := w0
  unfold maxLen at hcm
  have HOPS := Lib.hid hops
  obtain ⟨M, hM⟩ : ∃ M : Nat, M = min len0 150 := ⟨_, rfl⟩
  have HM := Lib.hid hM
  clear hops hM
  go_enter Try.func4, Try.ntmps4
  go_upto_block 0 with (go_at_call 6; (with_reducible refine new_any.mono ?_); rintro e w1 ⟨rfl, hr, hg⟩; have HR0 := Lib.hid (hr _ (Nat.le_refl _)); have G0 := Lib.hid hg; clear hr hg)
  have hom := om_new HR0.out G0.out (Nat.le_refl _)
  have H0 := Lib.hid hom.1
  have HPL := Lib.hid hom.2
  clear hom G0 HR0
  generalize ((w1.alloc (.cells #[.int .i64 0, .int .i64 0, .int .i64 0, .int .i64 0, .int .i64 0, .int .i64 0, .int .i64 0, .int .i64 0, .int .i64 0, .int .i64 0, .int .i64 0, .int .i64 0] 40)).alloc (.cells #[.int .i64 0, .int .i64 0, .int .i64 0, .int .i64 0, .int .i64 0, .int .i64 0, .int .i64 0, .int .i64 0, .int .i64 0, .int .i64 0, .int .i64 0, .int .i64 0] 40)).alloc (.cells #[.int .i64 0, .int .i64 0, .int .i64 0, .int .i64 0, .int .i64 0, .int .i64 0, .int .i64 0, .int .i64 0, .int .i64 0, .int .i64 0, .int .i64 0, .int .i64 0] 40) = w3 at H0 ⊢
  have hp := HPL.out
  generalize w1.heap.size + 3 = QB at *
  generalize hg3 : w1.heap.size + 2 = g3 at *
  generalize hg2 : w1.heap.size + 1 = g2 at *
  generalize hg1 : w1.heap.size = g1 at *
  obtain ⟨B, hB⟩ : ∃ B, B = w.heap.size := ⟨_, rfl⟩
  rw [← hB] at H0 HPL ⊢
  clear hB hg1 hg2 hg3 hp
  go_wp2_with fail
  go_loopg [7, 8] M (OLoop w B QB g1 g2 g3 M)
  case atStart => exact ⟨0, by omega, rfl, _, _, _, _, [], none, 0, rfl, H0.out, Inv.new, fun t _ => Nat.le_refl _⟩
  case round =>
    obtain ⟨j, hg, rfl, b, SN, GT, HD, q, A, c, rfl, hom, hinv, hsn⟩ := hrel
    obtain ⟨wo, rfl⟩ : ∃ wo, wo = wr := ⟨_, rfl⟩
    have HG := Lib.hid hg
    have HO := Lib.hid hom
    have HI := Lib.hid hinv
    have HSN := Lib.hid hsn
    have HFIT := Lib.hid hom.a.good
    have hql : q.length ≤ 8 := by have h1 := hinv.len; have h2 := HFIT.out.len; omega
    have hqz : (q.length : Int) ≤ 8 := by omega
    clear hg hom hinv hsn H0
    by_cases hj : j < M
    · have hj1 : j < len0 := by have := HM.out; omega
      have hj2 : (j : Int) < 150 := by have := HM.out; omega
      have hj1z : (j : Int) < (len0 : Int) := by omega
      obtain ⟨ab, ao, rfl, hab, hall⟩ := HOPS.out (by omega)
      obtain ⟨x, hx⟩ := hall j hj1
      have ck := HO.out.g.cellN hx.k id
      have cp := HO.out.g.cellN hx.p id
      have kB := hx.kB
      have pB := hx.pB
      clear hall hx
      obtain ⟨T, hT, hT12⟩ := tmod_nat x.p 12 (by omega)
      simp only [Int.cast_ofNat_Int] at hT
      have hTz : (T : Int) < 12 := by omega
      obtain ⟨KK, hKK, hK0, hK3⟩ : ∃ KK : Int, bits BinOp.and IntKind.i64 x.k 3 = KK ∧ 0 ≤ KK ∧ KK ≤ 3 := ⟨_, rfl, by rw [and3]; omega, by rw [and3]; omega⟩
      go_upto_block 2 with fail
      clear hT hKK ck cp kB pB
      · by_cases hk0 : KK = 0
        · subst hk0
          clear hK0 hK3
          have hcl := sc HO.out hT12
          have r1 := hcl.1
          have hsz : (SN T : Int) ≤ 150 := by have := HSN.out T hT12; omega
          have hsz0 : 0 ≤ (SN T : Int) := by omega
          have HP := Lib.hid (post_any HO.out.a (T : Int) (100 * (T : Int) + (SN T : Int)))
          rcases HI.out.post hT12 with ⟨he, hs, hq8, hi2⟩ | ⟨he, hs, hb⟩ | ⟨he, hb⟩
          · rw [he] at HP
            generalize b.postB (T : Int) (100 * (T : Int) + (SN T : Int)) = b2 at HP hi2
            have HI2 := Lib.hid hi2
            have HSE := Lib.hid hs
            have hq8z : (q.length : Int) < 8 := by omega
            clear he hs hq8 hi2 hcl
            obtain ⟨sT, hsT⟩ : ∃ sT : Int, sT = (SN T : Int) := ⟨_, rfl⟩
            have HST := Lib.hid hsT
            rw [← hsT] at HP r1 hsz hsz0
            clear hsT
            go_upto_region 19 with (go_at_call 8; (with_reducible refine HP.out.mono ?_); rintro e w4 ⟨rfl, hr, hk⟩; have HO4 := Lib.hid ((HO.out.box HPL.out hr hk).grow (Kept.drew' w4)); clear hr hk)
            have c4 := sc HO4.out hT12
            rw [← HSE.out, ← HST.out] at c4
            obtain ⟨d1, _, d3⟩ := c4
            have f1 := HO4.out.s.frozen T
            go_upto_region 19 with (fail)
            refine wp_region_stages Grow (kept_refl _) (kept_trans _) [] [0, 1, 2, 3, 4, 5, 6, 7, 8, 9, 10, 11] (by kernel_rfl) (by kernel_rfl) ?_
            simp only [selSt, sel, List.map_cons, List.map_nil, List.getD_cons_succ, List.getD_cons_zero]
            refine st_nil fun K4 hK4 => ?_
            have u0f := up_cell (F := fun _ => False) (w := w4.drew) d1 id
            have u1f := up_cell (F := fun _ => False) (w := w4.drew) d3 id
            repeat (go_big_quiet_step (fail))
            refine wpQuiet_nil (hK4 _ ?_)
            clear hK4 K4 u0f u1f
            go_upto_region 22 with (fail)
            have HO5 := Lib.hid ((HO4.out.setS HPL.out T (SN T + 1)))
            rw [show ((SN T + 1 : Nat) : Int) = sT + 1 by have := HST.out; omega] at HO5
            have HO5' : Hid (OMem w (w4.setCell ⟨g1, T, none⟩ (.int .i64 (sT + 1))).drew B QB g1 g2 g3 b2 (upd SN T (SN T + 1)) GT HD A q.length c (ints q)) := HO5.out
            generalize (w4.setCell ⟨g1, T, none⟩ (.int .i64 (sT + 1))).drew = w5 at HO5' ⊢
            clear d1 d3 f1 r1 HO5
            have HO6 := Lib.hid (HO5'.out.grow ((Kept.refl _ w5).alloc (.cells #[.int .i64 (T : Int)] 3)))
            obtain ⟨A', c', w7, hr, hgs, hk, hb⟩ := append_gs 27 HO6.out.q (by omega) w5.heap.size (T : Int) (cell_new1 _ _ _)
            have HR := Lib.hid hr
            have HO7 := Lib.hid (HO6.out.app HPL.out hk hgs hb)
            clear hr hgs hk hb
            go_wp2_with (at_builtin; refine Lib.wpList_append_run _ rfl _ _ _ _ rfl _ _ rfl rfl _ _ HR.out ?_)
            go_roundg (gk - 1)
            case measure => have := HG.out; omega
            refine ⟨j + 1, by have := HG.out; omega, by go_num, b2, _, GT, HD, q ++ [T], A', c', by rw [List.length_append]; rfl, ?_, HI2.out, fun t ht => ?_⟩
            · rw [List.length_append]
              have := HO7.out
              unfold ints at this ⊢
              rw [List.map_append]
              exact this
            · by_cases e : t = T
              · subst e; rw [upd_same]; have := HSN.out t ht; omega
              · rw [upd_other _ _ e]; have := HSN.out t ht; omega
          · rw [he, hb] at HP
            have hcl2 := inv_bounds HI.out hT12 (HSN.out T hT12)
            have hdz : (HD T : Int) ≤ 150 := by have := hcl2.1; omega
            have hne : (((SN T : Nat) : Int) == ((HD T : Nat) : Int)) = false := by rw [beq_eq_false_iff_ne]; omega
            clear he hs hb hcl hcl2
            obtain ⟨sT, hsT⟩ : ∃ sT : Int, sT = (SN T : Int) := ⟨_, rfl⟩
            obtain ⟨hT, hhT⟩ : ∃ hT : Int, hT = (HD T : Int) := ⟨_, rfl⟩
            have HST := Lib.hid hsT
            have HHT := Lib.hid hhT
            rw [← hsT] at HP r1 hsz hsz0
            rw [← hsT, ← hhT] at hne
            clear hsT hhT hdz
            go_upto_region 23 with (go_at_call 8; (with_reducible refine HP.out.mono ?_); rintro e w4 ⟨rfl, hr, hk⟩; have HO4 := Lib.hid ((HO.out.box HPL.out hr hk).grow (Kept.drew' w4)); clear hr hk)
            have c4 := sc HO4.out hT12
            rw [← HST.out, ← HHT.out] at c4
            obtain ⟨d1, _, d3⟩ := c4
            go_upto_region 23 with (fail)
            refine wp_region_stages Grow (kept_refl _) (kept_trans _) [] [0, 1, 2, 3, 4, 5, 6, 7, 8, 9, 10, 11, 12, 13, 14, 15, 16, 17, 18] (by kernel_rfl) (by kernel_rfl) ?_
            simp only [selSt, sel, List.map_cons, List.map_nil, List.getD_cons_succ, List.getD_cons_zero]
            refine st_nil fun K4 hK4 => ?_
            have u0f := up_cell (F := fun _ => False) (w := w4.drew) d1 id
            have u1f := up_cell (F := fun _ => False) (w := w4.drew) d3 id
            repeat (go_big_quiet_step (fail))
            refine wpQuiet_nil (hK4 _ ?_)
            clear hK4 K4 u0f u1f
            go_wp2
            go_roundg (gk - 1)
            case measure => have := HG.out; omega
            exact ⟨j + 1, by have := HG.out; omega, by go_num, b, SN, GT, HD, q, A, c, rfl, HO4.out, HI.out, fun t ht => Nat.le_succ_of_le (HSN.out t ht)⟩
          · rw [he, hb] at HP
            clear he hb hcl
            obtain ⟨sT, hsT⟩ : ∃ sT : Int, sT = (SN T : Int) := ⟨_, rfl⟩
            rw [← hsT] at HP r1 hsz hsz0
            clear hsT
            go_upto_region 23 with (go_at_call 8; (with_reducible refine HP.out.mono ?_); rintro e w4 ⟨rfl, hr, hk⟩; have HO4 := Lib.hid ((HO.out.box HPL.out hr hk).grow (Kept.drew' w4)); clear hr hk)
            go_upto_region 23 with (fail)
            refine wp_region_stages Grow (kept_refl _) (kept_trans _) [] [0, 1, 2, 3, 4, 5, 6, 7, 8, 9, 10, 11, 12, 13, 14, 15, 16, 17, 18] (by kernel_rfl) (by kernel_rfl) ?_
            simp only [selSt, sel, List.map_cons, List.map_nil, List.getD_cons_succ, List.getD_cons_zero]
            refine st_nil fun K4 hK4 => ?_
            repeat (go_big_quiet_step (fail))
            refine wpQuiet_nil (hK4 _ ?_)
            clear hK4 K4
            go_wp2
            go_roundg (gk - 1)
            case measure => have := HG.out; omega
            exact ⟨j + 1, by have := HG.out; omega, by go_num, b, SN, GT, HD, q, A, c, rfl, HO4.out, HI.out, fun t ht => Nat.le_succ_of_le (HSN.out t ht)⟩
        · by_cases hk1 : KK = 1
          · subst hk1
            clear hK0 hK3 hk0
            have HK := Lib.hid (take_any HO.out.a 2)
            obtain ⟨htk, hi2⟩ := HI.out.take 2
            obtain ⟨n0, hn0⟩ : ∃ n0, n0 = b.tk 2 := ⟨_, rfl⟩
            have hnq : n0 ≤ q.length := by rw [hn0, ← HI.out.len]; exact Nat.min_le_right _ _
            rw [← hn0] at htk hi2
            rw [htk] at HK
            have hul : ((q.take n0).map (word SN)).length = n0 := by rw [List.length_map, List.length_take]; omega
            obtain ⟨us, hus⟩ : ∃ us, us = (q.take n0).map (word SN) := ⟨_, rfl⟩
            rw [← hus] at HK hul
            have HUS := Lib.hid hus
            have HUL := Lib.hid hul
            have HI2 := Lib.hid hi2
            have HN := Lib.hid hnq
            have hn8 : (n0 : Int) ≤ 8 := by omega
            clear htk hi2 hn0 hnq hul hus
            generalize b.takeB 2 = b2 at HK HI2
            go_upto_region 27 with (go_at_call 11; (with_reducible refine HK.out.mono ?_); rintro e w4 ⟨A', k, rfl, hs, hx, hr, hk⟩; have HO4 := Lib.hid (HO.out.box HPL.out hr hk); have HS := Lib.hid hs; have HX := Lib.hid hx; clear hs hx hr hk)
            rw [HUL.out] at HS ⊢
            have HAX : Hid (∀ x, A' = some x → QB ≤ x.block) := fun x hx => Nat.le_trans HO.out.lo (HX.out x hx)
            obtain ⟨gO, hgO⟩ : ∃ g, g = gk := ⟨_, rfl⟩
            subst hgO
            go_wp2
            go_loopg [7, 12] n0 (ILoop w B QB g1 g2 g3 SN HD q n0 A' us w4.heap.size)
            case atStart => exact ⟨0, by omega, rfl, _, _, _, _, _, rfl, rfl, HO4.out, HI2.out, HS.out⟩
            case round =>
              obtain ⟨m, hg, rfl, b3, GT3, A3, c3, L, hL, rfl, hom, hinv, hpl⟩ := hrel
              have HG2 := Lib.hid hg
              have HO5 := Lib.hid hom
              have HI5 := Lib.hid hinv
              have HS5 := Lib.hid hpl
              have HL := Lib.hid hL
              have hL8 : (L : Int) ≤ 8 := by omega
              clear hg hom hinv hpl hL
              by_cases hm : m < n0
              · have hmz : (m : Int) < (n0 : Int) := by omega
                obtain ⟨t, ho, hq, hu⟩ := head_of hm HN.out SN
                rw [← HUS.out] at hu
                have hi5 := HI5.out
                rw [ho] at hi5
                have ht12 : t < 12 := hi5.lt t (by simp)
                have htz : (t : Int) < 12 := by omega
                have hLz : 0 < (L : Int) := by have h1 := HL.out; have h2 := HN.out; omega
                have hL0 : ((L : Int) == 0) = false := by rw [beq_eq_false_iff_ne]; omega
                have hcc := HO5.out.q.le
                obtain ⟨bq, oq, f, rfl, hrow, hf⟩ := HO5.out.q.row (by omega)
                have qc := hrow.cell (i := oq) (by omega)
                have hf0 := hf 0 (by omega)
                rw [Nat.add_zero, hq, List.getD_cons_zero] at hf0
                rw [hf0] at qc
                obtain ⟨b1, o1, rfl, _, hc⟩ := HS5.out.at_ (by omega)
                have q1 := (hc m hm).1
                have q2 := (hc m hm).2
                rw [hu] at q1 q2
                simp only at q1 q2
                have r1 := (sc HO5.out ht12).1
                have hsz : (SN t : Int) ≤ 150 := by have := HSN.out t ht12; omega
                have hsz0 : 0 ≤ (SN t : Int) := by omega
                have HI6 := Lib.hid hi5
                clear hrow hf hf0 hc hcc hi5
                obtain ⟨sT, hsT⟩ : ∃ sT : Int, sT = (SN t : Int) := ⟨_, rfl⟩
                have HST := Lib.hid hsT
                rw [← hsT] at q2 r1 hsz hsz0
                clear hsT
                go_upto_region 30 with (fail)
                refine wp_region_stages Grow (kept_refl _) (kept_trans _) [] [0, 1, 2, 3, 4, 5, 6, 7, 8, 9, 10, 11, 12, 13, 14, 15, 16, 17, 18, 19, 20, 21, 22, 23, 24, 25, 26, 27, 28, 29, 30, 31, 32] (by kernel_rfl) (by kernel_rfl) ?_
                simp only [selSt, sel, List.map_cons, List.map_nil, List.getD_cons_succ, List.getD_cons_zero]
                refine st_nil fun K4 hK4 => ?_
                have u0 := up_cell (F := fun _ => False) (w := wr.drew) q1 id
                have u1 := up_cell (F := fun _ => False) (w := wr.drew) q2 id
                have u2 := up_cell (F := fun _ => False) (w := wr.drew) qc id
                have u3 := up_cell (F := fun _ => False) (w := wr.drew) r1 id
                repeat (go_big_quiet_step (fail))
                refine wpQuiet_nil (hK4 _ ?_)
                clear hK4 K4 u0 u1 u2 u3
                go_upto_region 33 with (fail)
                obtain ⟨A6, hA6⟩ : ∃ A6, A6 = (if c3 = 1 then some (⟨bq, oq, none⟩ : Addr) else some ⟨bq, oq + 1, none⟩) := ⟨_, rfl⟩
                have ho6 := (HO5.out.grow (Kept.drew' wr)).cut (m := 1) (by omega)
                simp only [Option.map_some, GsC.add_off] at ho6
                rw [← hA6] at ho6 ⊢
                rw [hq] at ho6
                have HO6 : Hid (OMem w wr.drew B QB g1 g2 g3 b3 SN GT3 HD A6 (L - 1) (c3 - 1) ((ints q).drop (m + 1))) := Lib.hid ho6
                have HAN := Lib.hid (HI6.out.answer HO5.out.a.good)
                clear ho6 hq hu qc r1 hA6
                generalize c3 - 1 = c6 at HO6 ⊢
                have hgt := (inv_bounds HI6.out ht12 (HSN.out t ht12)).2
                have hgz : (GT3 t : Int) ≤ 150 := by omega
                have hgz0 : 0 ≤ (GT3 t : Int) := by omega
                have r2 := (sc HO6.out ht12).2.1
                have f2 := HO6.out.t.frozen t
                have hb1 : b1 ≠ B := by have h1 := HAX.out _ rfl; have h2 := HPL.out.b1; have h3 := HPL.out.b2; have h4 := HPL.out.b3; have h5 := HPL.out.b4; simp only at h1; omega
                have hb2 : b1 ≠ g2 := by have h1 := HAX.out _ rfl; have h2 := HPL.out.b1; have h3 := HPL.out.b2; have h4 := HPL.out.b3; have h5 := HPL.out.b4; simp only at h1; omega
                obtain ⟨gT, hgT⟩ : ∃ gT : Int, gT = (GT3 t : Int) := ⟨_, rfl⟩
                have HGT := Lib.hid hgT
                rw [← hgT] at r2 hgz hgz0
                clear hgT hgt
                go_upto_region 34 with (fail)
                have HO7 := Lib.hid ((HO6.out.setT HPL.out t (GT3 t + 1)))
                rw [show ((GT3 t + 1 : Nat) : Int) = gT + 1 by have := HGT.out; omega] at HO7
                have HS7 : Hid (Pl (wr.setCell ⟨g2, t, none⟩ (.int .i64 (gT + 1))) w4.heap.size (some ⟨b1, o1, none⟩) n0 us) := Lib.hid (HS5.out.kept (kept_set wr g2 t _) fun x hx e => hb2 (by injection hx with hx; rw [← e, ← hx]))
                have HO7' : Hid (OMem w (wr.setCell ⟨g2, t, none⟩ (.int .i64 (gT + 1))).drew B QB g1 g2 g3 b3 SN (upd GT3 t (GT3 t + 1)) HD A6 (L - 1) c6 ((ints q).drop (m + 1))) := HO7.out
                have HO8 := Lib.hid (HO7'.out.grow (Kept.drew' _))
                have HS8 := Lib.hid ((HS7.out.grow (Kept.drew' _)).grow (Kept.drew' _))
                obtain ⟨e1, hi7, e2, e3⟩ := HAN.out
                have p1 : (wr.setCell ⟨g2, t, none⟩ (.int .i64 (gT + 1))).drew.drew.cell? ⟨b1, o1 + m * 2, none⟩ = some (.int .i64 (t : Int)) := (kept_set wr g2 t (.int .i64 (gT + 1))).cellN q1 hb2
                have p2 : (wr.setCell ⟨g2, t, none⟩ (.int .i64 (gT + 1))).drew.drew.cell? ⟨b1, o1 + m * 2 + 1, none⟩ = some (.int .i64 (100 * (t : Int) + sT - 1)) := (kept_set wr g2 t (.int .i64 (gT + 1))).cellN q2 hb2
                generalize (wr.setCell ⟨g2, t, none⟩ (.int .i64 (gT + 1))).drew = w5 at *
                have HA1 : Hid (Calls Try.prog 13 #[.pointer (some ⟨B, 0, none⟩), .int .i64 (t : Int), .int .i64 (7 * (100 * (t : Int) + sT - 1))] w5.drew (RPost B B w5.drew (.int .i64 0) (b3.ansB (t : Int) (7 * (word SN t).2)))) := by
                  rw [HST.out]
                  exact Lib.hid (t_answer HO8.out.a _ _ 0 _ e1 rfl)
                generalize b3.ansB (t : Int) (7 * (word SN t).2) = b4 at *
                have HI7 := Lib.hid hi7
                have HE2 := Lib.hid e2
                have HE3 := Lib.hid e3
                clear e1 hi7 e2 e3 HAN r2 f2 q1 q2 HO7 HO7' HS7
                refine wp_region_stages (RB B) rb_refl rb_trans [([0, 1, 2, 3, 4, 5, 6, 7, 8, 9, 10, 11], 12), ([13, 14, 15, 16, 17, 18, 19, 20], 21)] [22, 23] (by kernel_rfl) (by kernel_rfl) ?_
                simp only [selSt, sel, List.map_cons, List.map_nil, List.getD_cons_succ, List.getD_cons_zero]
                refine st_cons fun K1 hK1 => ?_
                have u0 := up_rb (B := B) (w := w5.drew) p1 hb1
                have u1 := up_rb (B := B) (w := w5.drew) p2 hb1
                repeat (go_big_quiet_step (fail))
                refine wpQuiet_nil ?_
                clear u0 u1
                go_wp2_with (go_at_call 13; (with_reducible refine HA1.out.mono ?_); rintro e w6 ⟨rfl, hr, hk⟩; have HO9 := Lib.hid (HO8.out.box HPL.out hr hk); have HK9 := Lib.hid hk; clear hr hk)
                refine norm_up (hK1 _ _ HK9.out (st_cons fun K2 hK2 => ?_))
                clear hK1 K1
                have p3 := BF.cell HK9.out p1 hb1
                have u0 := up_rb (B := B) (w := w6) p3 hb1
                repeat (go_big_quiet_step (fail))
                refine wpQuiet_nil ?_
                clear u0 p1 p2 p3
                have HA2 := Lib.hid (t_answer HO9.out.a (t : Int) 1 2 b4 HE2.out HE3.out)
                go_wp2_with (go_at_call 13; (with_reducible refine HA2.out.mono ?_); rintro e w7 ⟨rfl, hr, hk⟩; have HO10 := Lib.hid (HO9.out.box HPL.out hr hk); have HK10 := Lib.hid hk; clear hr hk)
                refine norm_up (hK2 _ _ HK10.out (st_nil fun K4 hK4 => ?_))
                clear hK2 K2
                repeat (go_big_quiet_step (fail))
                refine wpQuiet_nil (hK4 _ ?_)
                clear hK4 K4
                have HS10 := Lib.hid (BF.pl HK10.out (BF.pl HK9.out HS8.out fun x hx e => hb1 (by injection hx with hx; rw [← e, ← hx])) fun x hx e => hb1 (by injection hx with hx; rw [← e, ← hx]))
                go_wp2
                go_roundg (gk - 1)
                case measure => have := HG2.out; omega
                exact ⟨m + 1, by have := HG2.out; omega, by go_num, b4, _, A6, c6, L - 1, by have := HL.out; omega, rfl, HO10.out, HI7.out, HS10.out⟩
              · obtain rfl : m = n0 := by have := HG2.out; omega
                have hi5 := HI5.out
                have e0 : (q.take m).drop m = [] := List.drop_eq_nil_of_le (by rw [List.length_take]; omega)
                rw [e0] at hi5
                have HI6 := Lib.hid hi5
                clear hi5
                go_wp2
                go_roundg (gO - 1)
                case measure => have := HG.out; omega
                refine ⟨j + 1, by have := HG.out; omega, by go_num, b3, SN, GT3, HD, q.drop m, A3, c3, ?_, ?_, HI6.out, fun t ht => Nat.le_succ_of_le (HSN.out t ht)⟩
                · rw [List.length_drop, show q.length - m = L by have := HL.out; omega]
                · rw [List.length_drop, show q.length - m = L by have := HL.out; omega]
                  have := HO5.out
                  unfold ints at this ⊢
                  rwa [List.map_drop]
          · have hk0' : (KK == 0) = false := by rw [beq_eq_false_iff_ne]; exact hk0
            have hk1' : (KK == 1) = false := by rw [beq_eq_false_iff_ne]; exact hk1
            clear hK0 hK3 hk0 hk1
            have HH := Lib.hid (hear_any HO.out.a (T : Int))
            have hcl2 := inv_bounds HI.out hT12 (HSN.out T hT12)
            have hsz : (SN T : Int) ≤ 150 := by have := HSN.out T hT12; omega
            have hsz0 : 0 ≤ (SN T : Int) := by omega
            have hdz : (HD T : Int) ≤ 150 := by have := hcl2.1; omega
            have hdz0 : 0 ≤ (HD T : Int) := by omega
            obtain ⟨sT, hsT⟩ : ∃ sT : Int, sT = (SN T : Int) := ⟨_, rfl⟩
            obtain ⟨hT, hhT⟩ : ∃ hT : Int, hT = (HD T : Int) := ⟨_, rfl⟩
            have HST := Lib.hid hsT
            have HHT := Lib.hid hhT
            rw [← hsT] at hsz hsz0
            rw [← hhT] at hdz hdz0
            rcases HI.out.hear HFIT.out hT12 with ⟨h3, hgt, hv, hi2⟩ | ⟨h3, hgt, hv, hb⟩
            · rw [hv, decide_eq_true h3, ← hsT] at HH
              generalize b.hearB (T : Int) = b2 at HH hi2
              have HI2 := Lib.hid hi2
              have HGT := Lib.hid hgt
              have hbb : decide (hT < hT + 1) = true := decide_eq_true (by omega)
              clear h3 hgt hv hi2 hcl2 hsT hhT
              go_upto_region 12 with (go_at_call 15; (with_reducible refine HH.out.mono ?_); rintro e w4 ⟨rfl, hr, hk⟩; have HO4 := Lib.hid (HO.out.box HPL.out hr hk); clear hr hk)
              have c4 := sc HO4.out hT12
              rw [HGT.out, ← HST.out, show ((HD T + 1 : Nat) : Int) = hT + 1 by have := HHT.out; omega, ← HHT.out] at c4
              obtain ⟨d1, d2, d3⟩ := c4
              have f3 := HO4.out.h.frozen T
              refine wp_region_stages Grow (kept_refl _) (kept_trans _) [] [0, 1, 2, 3, 4, 5, 6, 7, 8, 9, 10, 11, 12, 13, 14, 15, 16, 17, 18, 19, 20, 21, 22, 23] (by kernel_rfl) (by kernel_rfl) ?_
              simp only [selSt, sel, List.map_cons, List.map_nil, List.getD_cons_succ, List.getD_cons_zero]
              refine st_nil fun K4 hK4 => ?_
              have u0 := up_cell (F := fun _ => False) (w := w4.drew) d1 id
              have u1 := up_cell (F := fun _ => False) (w := w4.drew) d2 id
              have u2 := up_cell (F := fun _ => False) (w := w4.drew) d3 id
              repeat (go_big_quiet_step (fail))
              refine wpQuiet_nil (hK4 _ ?_)
              clear hK4 K4 u0 u1 u2
              go_wp2
              go_roundg (gk - 1)
              case measure => have := HG.out; omega
              refine ⟨j + 1, by have := HG.out; omega, by go_num, b2, SN, GT, upd HD T (HD T + 1), q, A, c, rfl, ?_, HI2.out, fun t ht => Nat.le_succ_of_le (HSN.out t ht)⟩
              have := (HO4.out.grow (Kept.drew' w4)).setH HPL.out T (HD T + 1)
              rw [show ((HD T + 1 : Nat) : Int) = hT + 1 by have := HHT.out; omega] at this
              exact this
            · rw [hv, decide_eq_false h3, hb] at HH
              have HGT := Lib.hid hgt
              have hbb : decide (hT < hT) = false := decide_eq_false (by omega)
              clear h3 hgt hv hb hcl2 hsT hhT
              go_upto_region 12 with (go_at_call 15; (with_reducible refine HH.out.mono ?_); rintro e w4 ⟨rfl, hr, hk⟩; have HO4 := Lib.hid (HO.out.box HPL.out hr hk); clear hr hk)
              have c4 := sc HO4.out hT12
              rw [HGT.out, ← HST.out, ← HHT.out] at c4
              obtain ⟨d1, d2, d3⟩ := c4
              refine wp_region_stages Grow (kept_refl _) (kept_trans _) [] [0, 1, 2, 3, 4, 5, 6, 7, 8, 9, 10, 11, 12, 13, 14, 15, 16, 17, 18, 19, 20, 21, 22, 23] (by kernel_rfl) (by kernel_rfl) ?_
              simp only [selSt, sel, List.map_cons, List.map_nil, List.getD_cons_succ, List.getD_cons_zero]
              refine st_nil fun K4 hK4 => ?_
              have u0 := up_cell (F := fun _ => False) (w := w4.drew) d1 id
              have u1 := up_cell (F := fun _ => False) (w := w4.drew) d2 id
              have u2 := up_cell (F := fun _ => False) (w := w4.drew) d3 id
              repeat (go_big_quiet_step (fail))
              refine wpQuiet_nil (hK4 _ ?_)
              clear hK4 K4 u0 u1 u2
              go_wp2
              go_roundg (gk - 1)
              case measure => have := HG.out; omega
              exact ⟨j + 1, by have := HG.out; omega, by go_num, b, SN, GT, HD, q, A, c, rfl, HO4.out.grow (Kept.drew' w4), HI.out, fun t ht => Nat.le_succ_of_le (HSN.out t ht)⟩
    · obtain rfl : j = M := by have := HG.out; omega
      have HT := Lib.hid (told_any wo)
      by_cases hl : j < len0
      · obtain rfl : j = 150 := by have := HM.out; omega
        have hlz : (150 : Int) < (len0 : Int) := by omega
        go_wp2_with (first
          | (go_at_call 7; (with_reducible refine (told_any _).mono ?_); rintro e w5 ⟨rfl, hge⟩; have HGE := Lib.hid hge; clear hge)
          | (go_at_call 17; (with_reducible refine (t_len (HO.out.a.grow HGE.out) (q.length : Int) (by have := HI.out.len; omega)).mono ?_); rintro e w' ⟨rfl, rfl⟩))
        go_ret
        exact ⟨rfl, Grow.below (HO.out.g.trans HGE.out)⟩
      · have hlz : (len0 : Int) ≤ (j : Int) := by omega
        go_wp2_with (first
          | (go_at_call 7; (with_reducible refine (told_any _).mono ?_); rintro e w5 ⟨rfl, hge⟩; have HGE := Lib.hid hge; clear hge)
          | (go_at_call 17; (with_reducible refine (t_len (HO.out.a.grow HGE.out) (q.length : Int) (by have := HI.out.len; omega)).mono ?_); rintro e w' ⟨rfl, rfl⟩))
        go_ret
        exact ⟨rfl, Grow.below (HO.out.g.trans HGE.out)⟩

/-! ### THE ROW's STEP: WRITTEN OUT: LEAVE IT -/
set_option maxRecDepth 100000 in
theorem lifted (os : Os) (started : os.Started) (H : Type) (enc : TypeId × Value → H) :
    ReturnsInHanded {} Try.checked os 4 .any (Rows.mailOnceSpec.pre6 enc Try.prog Try.f4 Rows.mailOnceRow.domain false) (Rows.mailOnceSpec.post enc Try.prog Try.f4 false true false false) := by
  refine returnsInHanded_of_change (C := Try.checked) own started (by kernel_rfl) Try.func4
    (ChangeSpec.witness6 (enc := enc) (C := Try.checked) false ⟨#[], #[.slice none 0 0], []⟩ 8 (by kernel_rfl) (by kernel_rfl) (by kernel_rfl) (by kernel_rfl)) ?_
  intro W base args ds gs before hval0 hW hcnd _
  have hval : ∀ (j : Nat) t v, Try.f4.params[j]? = some t → args[j]? = some v → Value.okWide Try.prog W .any base t v := hval0
  have hW' := hW
  obtain ⟨p, q, hA0, hV, rfl, hfz, hnd⟩ := hW
  have hA : DataW.TrodAll enc Try.prog W 0 (fun _ => true) true Try.f4.params.toList args.toList ds p := hA0
  rw [Try.params4] at hA hval
  obtain ⟨v0, vs0, d0, ds0, p0, q0, hargs, rfl, rfl, h0, r0⟩ := trodAll_cons hA
  obtain ⟨rfl, rfl, rfl⟩ := trodAll_nil r0
  obtain rfl : args = #[v0] := by cases args; simp_all
  obtain ⟨rfl, rfl⟩ := trodVars_none hV
  obtain ⟨a0, len0, cap0, rfl⟩ := okWide_slice Try.underlying22 (hval 0 22 v0 rfl rfl)
  have k0 := h0
  have lt0 : ∀ x ∈ p0, x.block < W.heap.size := by obtain ⟨m, hm⟩ := k0; exact DataW.trod_lt m _ _ _ hm
  have w0 : OpsAt W a0 len0 cap0 := by obtain ⟨fuel, hf⟩ := h0; exact ops_open hf
  clear hA0 hval0
  refine (walk a0 len0 cap0 W w0).mono fun e W' ⟨he, bel⟩ => ?_
  subst he
  exact ⟨_, rfl, _, _, _, [], _, [], hW', trodAll_mk1 (shut_bool Try.underlying4 _), (trodAll_cons_mk (Below.trod laidOut (by kernel_rfl) (of_decide_eq_true (by kernel_rfl)) k0 bel lt0) trodAll_mk0), rfl, bel.frame _, fun h => by cases h⟩

theorem over : Rows.mailOnceRow.holds Try.pinned (OpenSpec.ofChange Rows.mailOnceSpec) :=
  OpenClaim.holds_of_wide 4 Try.f4 rfl rfl rfl rfl rfl rfl rfl ⟨rfl, rfl, rfl, rfl, rfl⟩ rfl rfl rfl rfl rfl (by kernel_rfl) Try.func4 (by kernel_rfl)
    (of_decide_eq_true (by kernel_rfl)) (by unfold Func.isWrapper; first | (rw [if_pos (by decide +kernel)]; kernel_rfl) | (rw [if_neg (by decide +kernel)]; exact ⟨rfl, rfl⟩))
    (fun os started H enc _ => lifted os started H enc)

/-- ████ THE STATEMENT ████ -/
theorem proved : Rows.MailOnceSaid := over
#print axioms proved
end Go.Proofs.Ytmealcbcphfpdaa.mailOnce
