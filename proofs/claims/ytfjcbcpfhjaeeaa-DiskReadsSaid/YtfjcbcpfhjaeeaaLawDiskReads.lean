/-
  For every input the call of lavabolaw3.DiskReads returns true and leaves its arguments as they were; no condition.
-/
import Derived.Test.YtfjcbcpfhjaeeaaDevSteps
import Derived.Test.YtfjcbcpfhjaeeaaOps
import Derived.Test.YtfjcbcpfhjaeeaaRows
import Derived.WalkKit
import Derived.ProofKit
import Derived.OpenShut
import Derived.ShutString
import Derived.ChangeOld
import Derived.Below
namespace Go.Proofs.Ytfjcbcpfhjaeeaa.diskReads
open Go.ChangeShapes Go.WideShapes Go.ChangeAt Go.RowKit
open Go.ChangeMaps (open_string shut_string)
open Go.Proofs.Ytfjcbcpfhjaeeaa.SumM Go.Proofs.Ytfjcbcpfhjaeeaa.Mem Go.Proofs.Ytfjcbcpfhjaeeaa.Blk Go.Proofs.Ytfjcbcpfhjaeeaa.PageM Go.Proofs.Ytfjcbcpfhjaeeaa.Str Go.Proofs.Ytfjcbcpfhjaeeaa.Dev Go.Proofs.Ytfjcbcpfhjaeeaa.LibC Go.Proofs.Ytfjcbcpfhjaeeaa.DevC Go.Proofs.Ytfjcbcpfhjaeeaa.DevM Go.Proofs.Ytfjcbcpfhjaeeaa.DevY Go.Proofs.Ytfjcbcpfhjaeeaa.DevK Go.Proofs.Ytfjcbcpfhjaeeaa.DevX Go.Proofs.Ytfjcbcpfhjaeeaa.DevN Go.Proofs.Ytfjcbcpfhjaeeaa.Told3 Go.Proofs.Ytfjcbcpfhjaeeaa.DevS Go.Proofs.Ytfjcbcpfhjaeeaa.Ops Go.Proofs.Ytfjcbcpfhjaeeaa.Stages
set_option linter.unusedVariables false

theorem own : ownKnob Try.prog.godebug = none := by kernel_rfl
theorem laidOut : laidOutB Try.prog = true := by kernel_rfl

/-- WHAT THE WALK IS TOLD OF A SLICE OF INTEGERS THAT CAME IN: it is nil; or it leads to a row of 'cap' cells, the numbers 'zs' (the first 'len' are its elements, the rest its spare room), each fitting its kind. -/
def IsRow (k : IntKind) (w : World) (a : Option Addr) (len cap : Nat) (zs : List Int) : Prop :=
  (a = none ∧ len = 0 ∧ cap = 0 ∧ zs = []) ∨
  ∃ x, a = some x ∧ len ≤ cap ∧ cap ≤ maxLen ∧ zs.length = cap ∧ (∀ i, i < zs.length → w.cell? (x.add i) = some (.int k (zs.getD i 0))) ∧ ∀ n ∈ zs, (Lit.int k n).wf = true

/-- The state between the steps: the device has each page as the list says; at most so many accesses. -/
structure RInv (w1 : World) (d D W gL N : Nat) (G : Nat → Prop) (bound : Nat) (S : Dv) (L : List Int) (wr : World) : Prop where
  hdev : DevAt wr d D W G S
  hN : S.N = N
  hbad : S.bad = 0
  hdown : S.down = false
  hn : S.n ≤ bound
  hcur : ∀ q, q < N → cur S q = ofB (L.getD q 0)
  hblk : NBlk wr gL 5 .u8 L
  hlen : L.length = N
  hbytes : Bytes L
  hkept : Kept (fun k => Own d D W k ∨ k = gL) w1 wr
theorem RInv.zero {w1 : World} {d D W gL N : Nat} {G : Nat → Prop} {b : Nat} {S : Dv} {L : List Int} {wr : World} (h : RInv w1 d D W gL N G b S L wr) : accC S = 0 := by
  rw [accC_up h.hdown, if_neg (by have := h.hbad; omega)]
/-- Behind an access that does nothing but count. -/
theorem RInv.acc {w1 : World} {d D W gL N : Nat} {G : Nat → Prop} {b : Nat} {S S' : Dv} {L : List Int} {wr wr' : World} (h : RInv w1 d D W gL N G b S L wr) (hd : DevAt wr' d D W G S') (hk : Kept (Own d D W) wr wr') (hg : ¬ Own d D W gL)
    (hN : S'.N = S.N) (hn : S'.n = S.n + 1) (hb : S'.bad = S.bad - 1) (hdn : S'.down = false) (hc : ∀ q, q < N → Dev.cur S' q = Dev.cur S q) : RInv w1 d D W gL N G (b + 1) S' L wr' :=
  ⟨hd, by rw [hN]; exact h.hN, by rw [hb, h.hbad], hdn, by have := h.hn; omega, fun q hq => (hc q hq).trans (h.hcur q hq), h.hblk.kept hk hg, h.hlen, h.hbytes, h.hkept.then hk (fun k _ x => .inl x)⟩
theorem RInv.grow {w1 : World} {d D W gL N : Nat} {G : Nat → Prop} {b : Nat} {S : Dv} {L : List Int} {wr wr' : World} (h : RInv w1 d D W gL N G b S L wr) (hg : Grow wr wr') : RInv w1 d D W gL N G b S L wr' :=
  ⟨h.hdev.grow hg, h.hN, h.hbad, h.hdown, h.hn, h.hcur, h.hblk.grow hg, h.hlen, h.hbytes, h.hkept.then hg (fun _ _ x => x.elim)⟩
theorem RInv.le {w1 : World} {d D W gL N : Nat} {G : Nat → Prop} {b b' : Nat} {S : Dv} {L : List Int} {wr : World} (h : RInv w1 d D W gL N G b S L wr) (hb : b ≤ b') : RInv w1 d D W gL N G b' S L wr :=
  ⟨h.hdev, h.hN, h.hbad, h.hdown, Nat.le_trans h.hn hb, h.hcur, h.hblk, h.hlen, h.hbytes, h.hkept⟩
theorem getD_set (L : List Int) (p q : Nat) (c : Int) (h : p < L.length) : (L.set p c).getD q 0 = if q = p then c else L.getD q 0 := by
  rw [List.getD_eq_getElem?_getD, List.getD_eq_getElem?_getD, List.getElem?_set]
  by_cases e : p = q
  · subst e; rw [if_pos rfl, if_pos h, if_pos rfl]; rfl
  · rw [if_neg e, if_neg (fun x => e x.symm)]
def RMid (w1 : World) (d D W gL N : Nat) (G : Nat → Prop) (b : Nat) (wx : World) : Prop := ∃ S L, RInv w1 d D W gL N G b S L wx
def RLoop (w1 : World) (d D W gL N M : Nat) (G : Nat → Prop) (g : Nat) (i : Value) (wx : World) : Prop := ∃ (j : Nat) (S : Dv) (L : List Int), j + g = M ∧ i = .int .i64 (j : Int) ∧ RInv w1 d D W gL N G (9 * j) S L wx
def RIn (w1 : World) (d D W gL N b : Nat) (L : List Int) (G : Nat → Prop) (g : Nat) (i : Value) (wx : World) : Prop := ∃ (q : Nat) (S : Dv), q + g = N ∧ i = .int .i64 (q : Int) ∧ RInv w1 d D W gL N G (b + q) S L wx

/-! ### STEP 1: THE WALK: the Go text returns true, AND WRITES NOTHING THAT WAS THERE: 'Below w.heap.size w w'' (Derived/Below.lean: '.refl', '.alloc', '.drew', '.setCell' at a new block, '.trans'). Open each 'IsRow' by 'rcases' AHEAD of 'go_enter'; part every test ahead of the walk. -/
set_option maxHeartbeats 2000000 in
set_option maxRecDepth 100000 in
theorem walk (a0 : Int) (a1 : Option Addr) (len1 cap1 : Nat) (w : World) (w0 : (Lit.int .i64 a0).wf = true) (w1 : OpsAt w a1 len1 cap1) :
    Calls Try.prog 6 #[.int .i64 a0, .slice a1 len1 cap1] w fun e w' => e = .returned (.bool true) ∧ Below w.heap.size w w' := by
  have k0 := bounds_i64 w0
  obtain ⟨n0, hn, hn8⟩ := tmod_nat a0 8 (by omega)
  simp only [Int.cast_ofNat_Int] at hn
  obtain ⟨hlc, hcm, hops⟩ := w1
  unfold maxLen at hcm
  have HOPS := Lib.hid hops
  have hnz : (n0 : Int) < 8 := by omega
  obtain ⟨N, hN⟩ : ∃ N : Nat, N = 1 + n0 := ⟨_, rfl⟩
  have HN := Lib.hid hN
  have hN1 : 1 ≤ N := by omega
  have hN8 : N ≤ 8 := by omega
  clear hops hN
  go_enter Try.func6, Try.ntmps6
  go_upto_region 1 with (fail)
  go_cut [5] (fun s5 wx => s5 = .int .i64 (N : Int) ∧ w = wx)
  case first =>
    go_wp2_with fail
    all_goals (go_meet; exact ⟨by have := HN.out; congr 1; omega, rfl⟩)
  case rest =>
    obtain ⟨rfl, rfl⟩ := hcut
    clear hn hnz hn8
    have hNz : (N : Int) ≤ 8 := by omega
    have hNz1 : (1 : Int) ≤ (N : Int) := by omega
    go_upto_region 5 with (go_at_call 8; (with_reducible refine (new_int (N : Int) N _ rfl hN1 (by omega)).mono ?_); rintro e w1 ⟨d, D, W, rfl, hdev, hold, hgr⟩; have HD1 := Lib.hid hdev; have HOLD := Lib.hid hold; have HG1 := Lib.hid hgr; clear hdev hold hgr)
    have hmk := fun w => run_make_row' (P := Try.prog) 28 5 (.int .u8 0) 1 Try.underlying28 infoU8 rfl .i64 .i64 N (by omega) (by omega) w
    have HLOW := Lib.hid (newG_low HD1.out HG1.out.size)
    have HR0 : Hid (RInv w1 d D W w1.heap.size N (fun k => newG w d D W k ∨ k = w1.heap.size) (9 * 0) (newS N) (List.replicate N 0) (w1.alloc (.cells (madeCells #[Value.int .u8 0] N) 5))) := by
      have hg : Grow w1 (w1.alloc (.cells (madeCells #[Value.int .u8 0] N) 5)) := (Kept.refl _ _).alloc _
      refine ⟨HD1.out.also hg (Nat.le_refl _), rfl, rfl, rfl, Nat.le_refl _, fun q hq => ?_, NBlk.made w1 _ _ N, by simp, fun c hc => ?_, hg.kept⟩
      · show zeros 24 = _
        rw [List.getD_eq_getElem?_getD, List.getElem?_replicate, if_pos hq]; rfl
      · rw [List.eq_of_mem_replicate hc]; exact ⟨by omega, by omega⟩
    have hgo : ¬ Own d D W w1.heap.size := fun h => by have := HLOW.out _ (.inr h); omega
    have HGO := Lib.hid hgo
    obtain ⟨gL, hgL⟩ : ∃ gL, gL = w1.heap.size := ⟨_, rfl⟩
    have HGL := Lib.hid hgL
    rw [← hgL] at HR0 HGO
    have hmk1 := hmk w1
    rw [← hgL] at hmk1
    clear hgo hgL hmk
    go_wp2
    have HLOWG : Hid (∀ (wx : World) (S : Dv) (L : List Int) (b : Nat), RInv w1 d D W gL N (fun k => newG w d D W k ∨ k = gL) b S L wx → ∀ k, (newG w d D W k ∨ k = gL) → k < wx.heap.size) := fun wx S L b h k hk => by
      rcases hk with hk | rfl
      · exact Nat.lt_of_lt_of_le (HLOW.out k hk) h.hkept.size
      · exact Blk.lt h.hblk
    have HOLDW : Hid (∀ k, k < w.heap.size → ¬ (Own d D W k ∨ k = gL)) := fun k hk h => by
      have := HOLD.out
      have := HGL.out
      have := HG1.out.size
      rcases h with (rfl | rfl | rfl) | rfl <;> omega
    obtain ⟨M, hM⟩ : ∃ M : Nat, M = min len1 60 := ⟨_, rfl⟩
    have HM := Lib.hid hM
    clear hM hmk1
    go_loopg [8] M (RLoop w1 d D W gL N M (fun k => newG w d D W k ∨ k = gL))
    case atStart => exact ⟨0, _, _, by omega, rfl, HR0.out⟩
    case round =>
      obtain ⟨j, S, L, hg, rfl, hr⟩ := hrel
      have HR := Lib.hid hr
      have HG := Lib.hid hg
      clear hr hg
      by_cases hj : j < M
      · have hj1 : j < len1 := by have := HM.out; omega
        have hj2 : (j : Int) < 60 := by have := HM.out; omega
        have hj1z : (j : Int) < (len1 : Int) := by omega
        obtain ⟨ab, ao, rfl, hab, hall⟩ := HOPS.out (by omega)
        obtain ⟨x, hx⟩ := hall j hj1
        have hkx : ∀ o v, w.cell? ⟨ab, o, none⟩ = some v → wr.cell? ⟨ab, o, none⟩ = some v := fun o v h => HR.out.hkept.cellN (HG1.out.cellN h id) (HOLDW.out ab hab)
        have ck := hkx _ _ hx.k
        have cp := hkx _ _ hx.p
        have cc := hkx _ _ hx.c
        have kB := hx.kB
        have pB := hx.pB
        have HX := Lib.hid hx
        clear hall hx hkx
        obtain ⟨p, hp, hpN⟩ := tmod_nat x.p N (by omega)
        have hpz : (p : Int) < (N : Int) := by omega
        have hbo : 9 * M ≤ 540 := by have := HM.out; omega
        have hnb : (S.n : Int) < 9223372036854775807 := by have := HR.out.hn; omega
        have hbb : (S.bad : Int) < 9223372036854775807 := by have := HR.out.hbad; omega
        have habo : ¬ Own d D W ab := fun h => HOLDW.out ab hab (.inl h)
        have CS := Lib.hid (sync_good HR.out.hdev hnb hbb HR.out.zero)
        have HAC := Lib.hid (accS_up HR.out.hdown)
        have CW := Lib.hid fun (wx : World) (g : Nat) (hx' : Grow wr wx) (hg : wr.heap.size ≤ g) (hb : NBlk wx g 5 .u8 (ofB x.c)) =>
            write_int (p : Int) (HR.out.hdev.grow hx') p rfl (by rw [HR.out.hN]; exact hpN) (some ⟨g, 0, none⟩) 24 (g + 1) _ (fun w' hk => Sl.of_blk0 (Blk.kept hb hk (fun h => by have := HR.out.hdev.lt; rcases h with rfl | rfl | rfl <;> omega)) (ofB_len _) (by omega)) (ofB_bytes HX.out.cB) (fun k hk => Nat.lt_of_lt_of_le (HLOWG.out _ _ _ _ HR.out k hk) hx'.size) hnb hbb HR.out.zero
        have HABO := Lib.hid habo
        have CB := Lib.hid (bytes_any x.c)
        clear hbo hnb hbb habo
        go_upto_if 50 with (fail)
        go_cut [] from 49 to 71 (fun wx => RMid w1 d D W gL N (fun k => newG w d D W k ∨ k = gL) (9 * j + 1) wx)
        case first =>
          go_wp2_with (first
            | (go_at_call 16; (with_reducible refine CS.out.mono ?_); rintro e w4 ⟨rfl, hdev, hkp⟩; have HD4 := Lib.hid hdev; have HK4 := Lib.hid hkp; clear hdev hkp)
            | (go_at_call 14; (with_reducible refine (CB.out _).mono ?_); rintro e w3 ⟨g, rfl, hg, hblk, hgr⟩; have HB := Lib.hid hblk; have HGR := Lib.hid hgr; have HGG := Lib.hid hg; clear hblk hgr hg)
            | (go_at_call 13; (with_reducible refine (CW.out _ _ HGR.out HGG.out HB.out).mono ?_); rintro e w4 ⟨rfl, hdev, hkp⟩; have HD4 := Lib.hid hdev; have HK4 := Lib.hid hkp; have cc4 := hkp.cellN (HGR.out.cellN cc id) HABO.out; have hb4 := Blk.kept (HR.out.hblk.grow HGR.out) hkp HGO.out; have hc4 := NBlk.at_ hb4 (j := p) (by rw [HR.out.hlen]; exact hpN); have hf4 := Blk.frozen hb4 p; have HB4 := Lib.hid hb4; clear hdev hkp hb4))
          · go_meet
            exact ⟨_, L, HR.out.acc HD4.out HK4.out HGO.out (accS_N S) HAC.out.1 HAC.out.2.1 HAC.out.2.2 (fun q _ => cur_acc S q)⟩
          · go_meet
            have hpL : p < L.length := by rw [HR.out.hlen]; exact hpN
            refine ⟨_, L.set p x.c, HD4.out.kept (kept_set _ _ _ _) (fun k e => .inr e) (fun k h e => HGO.out (e ▸ h)), (accS_N S).trans HR.out.hN, ?_, HAC.out.2.2, ?_, fun q hq => ?_, NBlk.set HB4.out p x.c, by rw [List.length_set]; exact HR.out.hlen, fun c hc => ?_, ((HR.out.hkept.then HGR.out (fun _ _ x => x.elim)).then HK4.out (fun k _ h => .inl h)).then (kept_set _ _ _ _) (fun k _ h => .inr h)⟩
            · show (accS S).bad = 0
              rw [HAC.out.2.1, HR.out.hbad]
            · show (accS S).n ≤ _
              rw [HAC.out.1]
              have := HR.out.hn
              omega
            · rw [cur_put, getD_set L p q x.c hpL]
              by_cases e : q = p
              · rw [if_pos e, if_pos e]
              · rw [if_neg e, if_neg e, cur_acc]; exact HR.out.hcur q hq
            · rcases List.mem_or_eq_of_mem_set hc with h | h
              · exact HR.out.hbytes c h
              · rw [h]; exact HX.out.cB
        case rest =>
          obtain ⟨S2, L2, hr2⟩ := hcut
          have HR2 := Lib.hid hr2
          clear hr2 CS CW CB HAC ck cp cc hp
          go_wp2
          go_loopg [10] N (RIn w1 d D W gL N (9 * j + 1) L2 (fun k => newG w d D W k ∨ k = gL))
          case atStart => exact ⟨0, S2, by omega, rfl, HR2.out⟩
          case round =>
            obtain ⟨q, T, hgq, rfl, hrq⟩ := hrel
            have HRQ := Lib.hid hrq
            have HGQ := Lib.hid hgq
            clear hrq hgq
            by_cases hq : q < N
            · have hqz : (q : Int) < (N : Int) := by omega
              have hjM : 9 * j ≤ 540 := by have := HM.out; omega
              have hnb : (T.n : Int) < 9223372036854775807 := by have := HRQ.out.hn; omega
              have hbb : (T.bad : Int) < 9223372036854775807 := by have := HRQ.out.hbad; omega
              have CR := Lib.hid (read_int (q : Int) HRQ.out.hdev q rfl (by rw [HRQ.out.hN]; exact hq) hnb hbb HRQ.out.zero)
              rw [HRQ.out.hcur q hq] at CR
              have HAQ := Lib.hid (accS_up HRQ.out.hdown)
              clear hjM hnb hbb
              go_upto_region 20 with (go_at_call 11; (with_reducible refine CR.out.mono ?_); rintro e w5 ⟨A5, n5, c5, rfl, _, hz5, hdev, hk⟩; obtain ⟨rfl, g5, rfl, _, hrow⟩ := hz5 rfl; have HD5 := Lib.hid (back hdev (fun k h => .inl (.inr h))); have HK5 := Lib.hid hk; have HR5 := Lib.hid hrow; clear hdev hk hz5 hrow)
              have HRN : Hid (RInv w1 d D W gL N (fun k => newG w d D W k ∨ k = gL) (9 * j + 1 + (q + 1)) (accS T) L2 w5.drew) := ((HRQ.out.acc HD5.out HK5.out HGO.out (accS_N T) HAQ.out.1 HAQ.out.2.1 HAQ.out.2.2 (fun q _ => cur_acc T q)).grow (Kept.drew' _)).le (by omega)
              have e0 := HR5.out.cell (i := 0) (by omega)
              have e23 := HR5.out.cell (i := 23) (by omega)
              rw [ofB_at _ (by omega)] at e0 e23
              have eL := NBlk.at_ HRN.out.hblk (j := q) (by rw [HRN.out.hlen]; exact hq)
              generalize L2.getD q 0 = c at *
              have u0 := up_cell (F := fun _ => False) (w := w5.drew) e0 id
              have u23 := up_cell (F := fun _ => False) (w := w5.drew) e23 id
              have uL := up_cell (F := fun _ => False) (w := w5.drew) eL id
              clear e0 e23 eL
              refine wp_region_stages Grow (kept_refl _) (kept_trans _) [] [0, 1, 2, 3, 4, 5, 6, 7, 8, 9, 10, 11, 12, 13, 14, 15, 16, 17, 18, 19, 20, 21, 22, 23, 24, 25, 26] (by kernel_rfl) (by kernel_rfl) ?_
              simp only [selSt, sel, List.map_cons, List.map_nil, List.getD_cons_succ, List.getD_cons_zero]
              refine st_nil fun K2 hK2 => ?_
              repeat (go_big_quiet_step (fail))
              refine wpQuiet_nil (hK2 _ ?_)
              clear hK2 K2 u0 u23 uL
              go_wp2
              go_roundg (N - (q + 1))
              case measure => have := HGQ.out; omega
              case rel => exact ⟨q + 1, accS T, by omega, by go_num, HRN.out⟩
            · have hqN : q = N := by have := HGQ.out; omega
              subst hqN
              go_wp2
              go_roundg (M - (j + 1))
              case measure => have := HG.out; omega
              case rel => exact ⟨j + 1, T, L2, by omega, by go_num, HRQ.out.le (by omega)⟩
      · have hjM : j = M := by have := HG.out; omega
        have HFIN : Hid (Below w.heap.size w wr) := Kept.below ((Grow.kept HG1.out).then HR.out.hkept (fun _ _ x => x)) (fun k h => Nat.le_of_not_lt fun hk => HOLDW.out k hk h) (Nat.le_refl _)
        have HM' : Hid (j = min len1 60) := by have := HM.out; show _ = _; omega
        clear hjM hj HOPS
        by_cases h60 : len1 ≤ 60
        · have hlz : (len1 : Int) ≤ 60 := by omega
          obtain rfl : len1 = j := by have := HM'.out; omega
          go_wp2_with (go_at_call 10; (with_reducible refine (told_any _).mono ?_); rintro e w3 ⟨rfl, hge⟩; have HGE := Lib.hid hge; clear hge)
          go_ret
          exact ⟨rfl, HFIN.out.trans (HGE.out.below.mono HFIN.out.size)⟩
        · obtain rfl : j = 60 := by have := HM'.out; omega
          simp only [Int.cast_ofNat_Int]
          have hlz : (60 : Int) < (len1 : Int) := by omega
          go_wp2_with (go_at_call 10; (with_reducible refine (told_any _).mono ?_); rintro e w3 ⟨rfl, hge⟩; have HGE := Lib.hid hge; clear hge)
          go_ret
          exact ⟨rfl, HFIN.out.trans (HGE.out.below.mono HFIN.out.size)⟩

/-! ### THE ROW's STEP: WRITTEN OUT: LEAVE IT -/
set_option maxRecDepth 100000 in
theorem lifted (os : Os) (started : os.Started) (H : Type) (enc : TypeId × Value → H) :
    ReturnsInHanded {} Try.checked os 6 .any (Rows.diskReadsSpec.pre6 enc Try.prog Try.f6 Rows.diskReadsRow.domain false) (Rows.diskReadsSpec.post enc Try.prog Try.f6 false true false false) := by
  refine returnsInHanded_of_change (C := Try.checked) own started (by kernel_rfl) Try.func6
    (ChangeSpec.witness6 (enc := enc) (C := Try.checked) false ⟨#[], #[.int .i64 0, .slice none 0 0], []⟩ 8 (by kernel_rfl) (by kernel_rfl) (by kernel_rfl) (by kernel_rfl)) ?_
  intro W base args ds gs before hval0 hW hcnd _
  have hval : ∀ (j : Nat) t v, Try.f6.params[j]? = some t → args[j]? = some v → Value.okWide Try.prog W .any base t v := hval0
  have hW' := hW
  obtain ⟨p, q, hA0, hV, rfl, hfz, hnd⟩ := hW
  have hA : DataW.TrodAll enc Try.prog W 0 (fun _ => true) true Try.f6.params.toList args.toList ds p := hA0
  rw [Try.params6] at hA hval
  obtain ⟨v0, vs0, d0, ds0, p0, q0, hargs, rfl, rfl, h0, r0⟩ := trodAll_cons hA
  obtain ⟨v1, vs1, d1, ds1, p1, q1, rfl, rfl, rfl, h1, r1⟩ := trodAll_cons r0
  obtain ⟨rfl, rfl, rfl⟩ := trodAll_nil r1
  obtain rfl : args = #[v0, v1] := by cases args; simp_all
  obtain ⟨rfl, rfl⟩ := trodVars_none hV
  obtain ⟨a0, rfl, rfl, rfl, w0⟩ := open_int Try.underlying3 (hval 0 3 v0 rfl rfl) h0
  obtain ⟨a1, len1, cap1, rfl⟩ := okWide_slice Try.underlying22 (hval 1 22 v1 rfl rfl)
  have k1 := h1
  have lt1 : ∀ x ∈ p1, x.block < W.heap.size := by obtain ⟨m, hm⟩ := k1; exact DataW.trod_lt m _ _ _ hm
  have w1 : OpsAt W a1 len1 cap1 := by obtain ⟨fuel, hf⟩ := h1; exact ops_open hf
  clear hA0 hval0
  refine (walk a0 a1 len1 cap1 W w0 w1).mono fun e W' ⟨he, bel⟩ => ?_
  subst he
  exact ⟨_, rfl, _, _, _, [], _, [], hW', trodAll_mk1 (shut_bool Try.underlying4 _), (trodAll_cons_mk (shut_int Try.underlying3 w0) (trodAll_cons_mk (Below.trod laidOut (by kernel_rfl) (of_decide_eq_true (by kernel_rfl)) k1 bel lt1) trodAll_mk0)), rfl, bel.frame _, fun h => by cases h⟩

theorem over : Rows.diskReadsRow.holds Try.pinned (OpenSpec.ofChange Rows.diskReadsSpec) :=
  OpenClaim.holds_of_wide 6 Try.f6 rfl rfl rfl rfl rfl rfl rfl ⟨rfl, rfl, rfl, rfl, rfl⟩ rfl rfl rfl rfl rfl (by kernel_rfl) Try.func6 (by kernel_rfl)
    (of_decide_eq_true (by kernel_rfl)) (by unfold Func.isWrapper; first | (rw [if_pos (by decide +kernel)]; kernel_rfl) | (rw [if_neg (by decide +kernel)]; exact ⟨rfl, rfl⟩))
    (fun os started H enc _ => lifted os started H enc)

/-- ████ THE STATEMENT ████ -/
theorem proved : Rows.DiskReadsSaid := over
#print axioms proved
end Go.Proofs.Ytfjcbcpfhjaeeaa.diskReads
