/-
  For every input the call of lavabolaw7.SchedFrees returns true and leaves its arguments as they were; no condition.
-/
import Derived.Test.YtboglnaagigcmaaTold7
import Derived.Test.YtboglnaagigcmaaSchOne
import Derived.Test.YtboglnaagigcmaaSchField
import Derived.Test.YtboglnaagigcmaaRows
import Derived.WalkKit
import Derived.ProofKit
import Derived.OpenShut
import Derived.ShutString
import Derived.ChangeOld
import Derived.Below
namespace Go.Proofs.Ytboglnaagigcmaa.schedFrees
open Go.ChangeShapes Go.WideShapes Go.ChangeAt Go.RowKit
open Go.ChangeMaps (open_string shut_string)
open Go.Proofs.Ytboglnaagigcmaa.Mem Go.Proofs.Ytboglnaagigcmaa.Blk Go.Proofs.Ytboglnaagigcmaa.Cells Go.Proofs.Ytboglnaagigcmaa.SchM Go.Proofs.Ytboglnaagigcmaa.SchC Go.Proofs.Ytboglnaagigcmaa.SchD Go.Proofs.Ytboglnaagigcmaa.SchE Go.Proofs.Ytboglnaagigcmaa.Told7 Go.Proofs.Ytboglnaagigcmaa.Stages
set_option linter.unusedVariables false

theorem own : ownKnob Try.prog.godebug = none := by kernel_rfl
theorem laidOut : laidOutB Try.prog = true := by kernel_rfl

/-- WHAT THE WALK IS TOLD OF A SLICE OF INTEGERS THAT CAME IN: it is nil; or it leads to a row of 'cap' cells, the numbers 'zs' (the first 'len' are its elements, the rest its spare room), each fitting its kind. -/
def IsRow (k : IntKind) (w : World) (a : Option Addr) (len cap : Nat) (zs : List Int) : Prop :=
  (a = none ∧ len = 0 ∧ cap = 0 ∧ zs = []) ∨
  ∃ x, a = some x ∧ len ≤ cap ∧ cap ≤ maxLen ∧ zs.length = cap ∧ (∀ i, i < zs.length → w.cell? (x.add i) = some (.int k (zs.getD i 0))) ∧ ∀ n ∈ zs, (Lit.int k n).wf = true

/-- The first j of eight blocked, each on its number; the others as new. -/
def bl (f : Nat → Int) (j : Nat) : Sc := ⟨8, fun t => if t < j then 2 else 0, fun _ => 0, fun t => if t < j then f t else -1⟩
theorem bl_zero (f : Nat → Int) : bl f 0 = fresh 8 := by
  unfold bl fresh
  simp
theorem bl_step (f : Nat → Int) {j : Nat} (hj : j < 8) (hf : 0 ≤ f j) : ∃ M : Sc, ((bl f j).wakeB (j : Int) 0 = true ∧ (bl f j).wake (j : Int) 0 = M) ∧ (M.goB (j : Int) (f j) = true ∧ M.block (j : Int) (f j) = bl f (j + 1)) := by
  have h1 : (bl f j).wakeB (j : Int) 0 = true := wakeB_on hj (Int.le_refl 0) (.inl (if_neg (Nat.lt_irrefl j)))
  have e1 : (bl f j).wake (j : Int) 0 = (bl f j).set j 1 0 (-1) := by rw [wake_on h1, Int.toNat_natCast]
  have h2 : ((bl f j).set j 1 0 (-1)).goB (j : Int) (f j) = true := goB_on hj hf (upd_same _ _ _)
  refine ⟨_, ⟨h1, e1⟩, h2, ?_⟩
  rw [block_on h2, Int.toNat_natCast]
  unfold Sc.set bl
  congr 1
  · funext t
    unfold upd
    dsimp only
    by_cases e : t = j
    · rw [if_pos e, if_pos (by omega)]
    · rw [if_neg e, if_neg e]
      by_cases e2 : t < j
      · rw [if_pos e2, if_pos (by omega)]
      · rw [if_neg e2, if_neg (by omega)]
  · funext t
    unfold upd
    dsimp only
    by_cases e : t = j
    · rw [if_pos e, if_pos rfl]
    · rw [if_neg e, if_neg e]
  · funext t
    unfold upd
    dsimp only
    by_cases e : t = j
    · rw [if_pos e, if_pos (by omega), e]
    · rw [if_neg e, if_neg e]
      by_cases e2 : t < j
      · rw [if_pos e2, if_pos (by omega)]
      · rw [if_neg e2, if_neg (by omega)]
/-- Who of the first j waits on W. -/
def cls (f : Nat → Int) (W : Int) (j : Nat) : List Nat := (List.range j).filter fun t => decide (f t = W)
theorem cls_in {f : Nat → Int} {W : Int} {j : Nat} (h : f j = W) : (cls f W (j + 1)).length = (cls f W j).length + 1 := by
  unfold cls
  rw [List.range_succ, List.filter_append, List.filter_cons_of_pos (by simpa using h), List.filter_nil, List.length_append]
  rfl
theorem cls_out {f : Nat → Int} {W : Int} {j : Nat} (h : f j ≠ W) : cls f W (j + 1) = cls f W j := by
  unfold cls
  rw [List.range_succ, List.filter_append, List.filter_cons_of_neg (by simpa using h), List.filter_nil, List.append_nil]
theorem mem_cls {f : Nat → Int} {W : Int} {j t : Nat} : t ∈ cls f W j ↔ t < j ∧ f t = W := by
  unfold cls
  rw [List.mem_filter, List.mem_range, decide_eq_true_eq]
theorem cls_len (f : Nat → Int) (W : Int) (j : Nat) : (cls f W j).length ≤ j := by
  have := List.length_filter_le (fun t => decide (f t = W)) (List.range j)
  rwa [List.length_range] at this
theorem bl_which (f : Nat → Int) (W : Int) : which (bl f 8) 2 W = cls f W 8 := by
  unfold which upto cls
  show (List.range 8).filter _ = _
  refine List.filter_congr fun t ht => ?_
  have ht := List.mem_range.1 ht
  unfold Sc.pred bl
  rw [decide_eq_decide]
  dsimp only
  rw [if_pos ht, if_pos ht]
  exact ⟨fun h => h.2, fun h => ⟨rfl, h⟩⟩
theorem bl_stuck (f : Nat → Int) : (bl f 8).stuck = true := by
  rw [stuck_none (fun k hk => by
    have hk : k < 8 := hk
    show (if k < 8 then (2 : Int) else 0) ≠ 1
    rw [if_pos hk]
    omega)]
  show some2 (bl f 8) 8 = true
  rw [some2_succ, show decide ((bl f 8).S 7 = 2) = true by rw [decide_eq_true_eq]; rfl]
  simp
theorem freed_in {f : Nat → Int} {W : Int} {t : Nat} (h : t ∈ cls f W 8) : ((bl f 8).free W).S t = 1 ∧ ((bl f 8).free W).P t = 0 ∧ ((bl f 8).free W).O t = -1 := by
  unfold Sc.free
  rw [bl_which]
  exact ⟨if_pos h, rfl, if_pos h⟩
theorem freed_ready (f : Nat → Int) (W : Int) : ((bl f 8).free W).ready = cls f W 8 := by
  unfold Sc.ready which upto
  show (List.range 8).filter _ = _
  show _ = (List.range 8).filter _
  refine List.filter_congr fun t ht => ?_
  have ht := List.mem_range.1 ht
  unfold Sc.pred
  rw [decide_eq_decide]
  by_cases h : t ∈ cls f W 8
  · have h1 := freed_in h
    exact ⟨fun _ => (mem_cls.1 h).2, fun _ => ⟨h1.1, h1.2.2⟩⟩
  · have h1 : ((bl f 8).free W).S t = 2 := by
      unfold Sc.free
      rw [bl_which]
      show (if t ∈ cls f W 8 then (1 : Int) else if t < 8 then 2 else 0) = 2
      rw [if_neg h, if_pos ht]
    exact ⟨fun x => by have h2 := x.1; rw [h1] at h2; omega, fun x => absurd (mem_cls.2 ⟨ht, x⟩) h⟩
theorem freed_stuck (f : Nat → Int) (W : Int) : ((bl f 8).free W).stuck = decide ((cls f W 8).length = 0) := by
  by_cases h : (cls f W 8).length = 0
  · rw [decide_eq_true h]
    have h0 : cls f W 8 = [] := List.eq_nil_of_length_eq_zero h
    have : (bl f 8).free W = bl f 8 := by unfold Sc.free; rw [bl_which, h0, free1_nil]
    rw [this]
    exact bl_stuck f
  · rw [stuck_len, freed_ready]
    rw [decide_eq_false h]
    simp

/-! ### STEP 1: THE WALK: the Go text returns true, AND WRITES NOTHING THAT WAS THERE: 'Below w.heap.size w w'' (Derived/Below.lean: '.refl', '.alloc', '.drew', '.setCell' at a new block, '.trans'). Open each 'IsRow' by 'rcases' AHEAD of 'go_enter'; part every test ahead of the walk. -/
set_option maxHeartbeats 4000000 in
theorem walk (a0 : Option Addr) (len0 cap0 : Nat) (z0 : List Int) (a1 : Int) (w : World) (w0 : IsRow .i64 w a0 len0 cap0 z0) (w1 : (Lit.int .i64 a1).wf = true) :
    Calls Try.prog 5 #[.slice a0 len0 cap0, .int .i64 a1] w fun e w' => e = .returned (.bool true) ∧ Below w.heap.size w w' := by
  obtain ⟨hs, hle, hcap, hwf⟩ := Sl.of_isRow w0
  unfold maxLen at hcap
  have k1 := bounds_i64 w1
  generalize z0.take len0 = zs at hs hwf
  have HS := Lib.hid hs
  clear hs hwf w0
  obtain ⟨W, hW, hW3⟩ := tmod_nat a1 3 (by omega)
  simp only [Int.cast_ofNat_Int] at hW
  have hWz : (W : Int) < 3 := by omega
  clear hW3
  have CN := Lib.hid fun (wx : World) => new_good (w := wx) 8 (by omega) (by omega)
  simp only [Int.cast_ofNat_Int] at CN
  by_cases h8 : len0 < 8
  · have h8z : (len0 : Int) < 8 := by omega
    clear h8
    go_enter Try.func5, Try.ntmps5
    go_wp2_with (first
      | (go_at_call 9; (with_reducible refine (told_any _).mono ?_); rintro e w5 ⟨rfl, hge⟩; have HGE := Lib.hid hge; clear hge)
      | (go_at_call 7; (with_reducible refine (CN.out _).mono ?_); rintro e w4 ⟨d, D, c, rfl, hl, hd1, hd2, hg⟩; have G0 := Lib.hid hg; clear hl hd1 hd2 hg))
    go_ret
    exact ⟨rfl, Grow.below (G0.out.trans HGE.out)⟩
  · have h8z : (8 : Int) ≤ (len0 : Int) := by omega
    have h8' : 8 ≤ len0 := by omega
    obtain ⟨b, o, rfl, hb, hc⟩ := HS.out.at_ (by omega)
    have HB := Lib.hid hb
    have HC : Hid (∀ t, t < 8 → w.cell? ⟨b, o + t, none⟩ = some (.int .i64 (zs.getD t 0))) := fun t ht => hc t (by omega)
    obtain ⟨f, hf⟩ : ∃ f : Nat → Int, f = fun t => (IntKind.u64.wrap (zs.getD t 0)).tmod 3 := ⟨_, rfl⟩
    have HF : Hid (∀ t, ∃ K : Nat, f t = (K : Int) ∧ (IntKind.u64.wrap (zs.getD t 0)).tmod 3 = (K : Int) ∧ K < 3) := fun t => by
      obtain ⟨K, h1, h2⟩ := tmod_nat (zs.getD t 0) 3 (by omega)
      simp only [Int.cast_ofNat_Int] at h1
      exact ⟨K, by rw [hf]; exact h1, h1, h2⟩
    clear hf hc hb h8 h8' HS
    go_enter Try.func5, Try.ntmps5
    go_wp2_with (go_at_call 7; (with_reducible refine (CN.out _).mono ?_); rintro e w4 ⟨d, D, c, rfl, hl, hd1, hd2, hg⟩; have H0 := Lib.hid hl; have HD := Lib.hid (And.intro hd1 hd2); have G0 := Lib.hid hg; clear hl hd1 hd2 hg)
    have HRD : Hid (∀ wx, Kept (At D) w4 wx → ∀ t, t < 8 → wx.cell? ⟨b, o + t, none⟩ = some (.int .i64 (zs.getD t 0))) := fun wx hk t ht =>
      hk.cellN (G0.out.cellN (HC.out t ht) id) (fun e => by have e : b = D := e; have := HB.out; have := HD.out.2; omega)
    have KG : Hid (∀ {a b : World}, Grow a b → Kept (At D) a b) := fun h => Grow.kept h
    go_loopg [7, 8] 8 (fun gx n i wr => ∃ j : Nat, j + gx = 8 ∧ i = .int .i64 (j : Int) ∧ n = .int .i64 ((cls f (W : Int) j).length : Int) ∧ SchAt wr d D c (bl f j) ∧ Kept (At D) w4 wr)
    case atStart => exact ⟨0, by omega, rfl, rfl, by rw [bl_zero]; exact H0.out, Kept.refl _ _⟩
    case round =>
      obtain ⟨j, hg, rfl, rfl, hs, hk⟩ := hrel
      have HG := Lib.hid hg
      have HSC := Lib.hid hs
      have HK := Lib.hid hk
      have HCL := Lib.hid (cls_len f (W : Int) j)
      clear hg hs hk
      by_cases hj : j < 8
      · have hjz : (j : Int) < 8 := by omega
        have hjl : (j : Int) < (len0 : Int) := by omega
        have hcz : ((cls f (W : Int) j).length : Int) ≤ 8 := by have := HCL.out; omega
        obtain ⟨K, hfk, hK, hK3⟩ := HF.out j
        obtain ⟨M, m1, m2⟩ := bl_step f hj (by omega)
        have HJ := Lib.hid hj
        have HFK := Lib.hid hfk
        rw [hfk] at m2
        have M1 := Lib.hid m1
        have M2 := Lib.hid m2
        have r0 := HRD.out wr HK.out j hj
        have hKz : (K : Int) < 3 := by omega
        clear m1 m2 hfk hj
        generalize zs.getD j 0 = z at *
        by_cases hKW : K = W
        · subst hKW
          have HE := Lib.hid (cls_in HFK.out)
          generalize (cls f (K : Int) j).length = L at *
          go_wp2_with (first
            | (go_at_call 10; (with_reducible refine (t_wake _ _ HSC.out M1.out.1 M1.out.2).mono ?_); rintro e w5 ⟨rfl, hl, hk⟩; have H1 := Lib.hid hl; have G1 := Lib.hid hk; clear hl hk)
            | (go_at_call 14; (with_reducible refine (t_block _ _ H1.out M2.out.1 M2.out.2).mono ?_); rintro e w6 ⟨rfl, hl, hk⟩; have H2 := Lib.hid hl; have G2 := Lib.hid hk; clear hl hk))
          go_roundg (gk - 1)
          case measure => have := HG.out; omega
          case rel => exact ⟨j + 1, by have := HG.out; omega, by go_num, by rw [HE.out]; go_num, H2.out, (HK.out.trans G1.out).trans G2.out⟩
        · have hKW' : ((K : Int) == (W : Int)) = false := beq_eq_false_iff_ne.2 (by omega)
          have HE := Lib.hid (cls_out (f := f) (W := (W : Int)) (j := j) (by rw [HFK.out]; omega))
          clear hKW
          go_wp2_with (first
            | (go_at_call 10; (with_reducible refine (t_wake _ _ HSC.out M1.out.1 M1.out.2).mono ?_); rintro e w5 ⟨rfl, hl, hk⟩; have H1 := Lib.hid hl; have G1 := Lib.hid hk; clear hl hk)
            | (go_at_call 14; (with_reducible refine (t_block _ _ H1.out M2.out.1 M2.out.2).mono ?_); rintro e w6 ⟨rfl, hl, hk⟩; have H2 := Lib.hid hl; have G2 := Lib.hid hk; clear hl hk))
          go_roundg (gk - 1)
          case measure => have := HG.out; omega
          case rel => exact ⟨j + 1, by have := HG.out; omega, by go_num, by rw [HE.out], H2.out, (HK.out.trans G1.out).trans G2.out⟩
      · obtain rfl : j = 8 := by have := HG.out; omega
        have HST := Lib.hid (bl_stuck f)
        have HSF := Lib.hid (freed_stuck f (W : Int))
        have HRE := Lib.hid (freed_ready f (W : Int))
        have HWH := Lib.hid (bl_which f (W : Int))
        have HIN : Hid (∀ t, t ∈ cls f (W : Int) 8 → tval ((bl f 8).free (W : Int)) (t : Int) = .agg #[.int .i64 1, .int .i64 0, .int .i64 (-1)] ∧ t < 8 ∧ (IntKind.u64.wrap (zs.getD t 0)).tmod 3 = (W : Int)) := fun t ht => by
          have h1 := freed_in ht
          have h2 := mem_cls.1 ht
          obtain ⟨K, q1, q2, _⟩ := HF.out t
          refine ⟨?_, h2.1, by rw [q2, ← q1]; exact h2.2⟩
          rw [tval_in (T := (bl f 8).free (W : Int)) (k := t) h2.1, h1.1, h1.2.1, h1.2.2]
        have HFR : Hid ((bl f 8).free (W : Int) = (bl f 8).free (W : Int)) := rfl
        clear hj
        generalize hT : (bl f 8).free (W : Int) = T at *
        have HT := Lib.hid hT
        clear hT
        generalize cls f (W : Int) 8 = R at *
        obtain ⟨L, hL⟩ : ∃ L, R.length = L := ⟨_, rfl⟩
        have HL8 : Hid (L ≤ 8) := by have := HCL.out; show _ ≤ _; omega
        have hLz : (L : Int) ≤ 8 := by have := HL8.out; omega
        have HLL := Lib.hid hL
        rw [hL] at HSF ⊢
        clear hL
        go_wp2_with (first
          | (go_at_call 25; (with_reducible refine (t_stuck HSC.out HST.out).mono ?_); rintro e w5 ⟨rfl, hg⟩; have H1 := Lib.hid (HSC.out.grow hg); have G1 := Lib.hid hg; clear hg)
          | (go_at_call 19; (with_reducible refine (t_free _ H1.out HWH.out HT.out).mono ?_); rintro e w6 ⟨A, cc, rfl, hs, hn, hl, hk⟩; rw [HLL.out]; have HFS := Lib.hid hs; have HFN := Lib.hid hn; have H2 := Lib.hid hl; have G2 := Lib.hid hk; clear hs hn hl hk))
        have HDD := Lib.hid H2.out.r.lt
        have HKA := Lib.hid ((HK.out.trans (KG.out G1.out)).trans G2.out)
        go_loopg [11] L (fun gx i wr => ∃ j : Nat, j + gx = L ∧ i = .int .i64 (j : Int) ∧ Grow w6 wr)
        case atStart => exact ⟨0, by omega, rfl, Kept.refl _ _⟩
        case round =>
          obtain ⟨j, hg, rfl, hgr⟩ := hrel
          have HG2 := Lib.hid hg
          have HGR := Lib.hid hgr
          clear hg hgr
          by_cases hj : j < L
          · have hjz : (j : Int) < (L : Int) := by omega
            obtain ⟨b2, o2, rfl, _, hc2⟩ := HFS.out.at_ (by rw [HLL.out]; omega)
            have q0 := hc2 j (by rw [HLL.out]; omega)
            rw [ints_get] at q0
            have q1 := HGR.out.cellN q0 id
            have hm := HIN.out (R.getD j 0) (getD_mem (by rw [HLL.out]; omega))
            clear hc2 q0
            generalize R.getD j 0 = t at *
            have HV := Lib.hid hm.1
            have htz : (t : Int) < 8 := by have := hm.2.1; omega
            have htl : (t : Int) < (len0 : Int) := by omega
            have hmod := hm.2.2
            have r0 := HRD.out wr (HKA.out.trans (KG.out HGR.out)) t hm.2.1
            have H3 := Lib.hid (H2.out.grow HGR.out)
            clear hm
            generalize zs.getD t 0 = z at *
            have kf := fun (wx : World) => field_state wx 1 0 (-1)
            go_wp2_with (go_at_call 27; (with_reducible refine (t_task _ H3.out HV.out).mono ?_); rintro e w7 ⟨rfl, hg⟩; have G3 := Lib.hid hg; clear hg)
            go_roundg (gk - 1)
            case measure => have := HG2.out; omega
            case rel => exact ⟨j + 1, by have := HG2.out; omega, by go_num, HGR.out.trans G3.out⟩
          · obtain rfl : j = L := by have := HG2.out; omega
            have H3 := Lib.hid (H2.out.grow HGR.out)
            have HBL : Hid (∀ wx, Grow wr wx → Below w.heap.size w wx) := fun wx h => Grow.below (Kept.then G0.out ((HKA.out.trans (KG.out HGR.out)).trans (KG.out h)) fun k hk ho => by have ho : k = D := ho; have := HD.out.2; omega)
            by_cases h0 : j = 0
            · subst h0
              rw [decide_eq_true rfl] at HSF
              go_wp2_with (first
                | (go_at_call 9; (with_reducible refine (told_any _).mono ?_); rintro e w7 ⟨rfl, hge⟩; have HGE := Lib.hid hge; have H4 := Lib.hid (H3.out.grow hge); clear hge)
                | (go_at_call 23; (with_reducible refine (t_ready H4.out HRE.out).mono ?_); rintro e w8 ⟨A', cc', rfl, hs, hn, hg⟩; rw [HLL.out]; have H5 := Lib.hid (H4.out.grow hg); have G5 := Lib.hid hg; clear hs hn hg)
                | (go_at_call 25; (with_reducible refine (t_stuck H5.out HSF.out).mono ?_); rintro e w9 ⟨rfl, hg⟩; have G6 := Lib.hid hg; clear hg))
              go_ret
              exact ⟨rfl, HBL.out _ ((HGE.out.trans G5.out).trans G6.out)⟩
            · rw [decide_eq_false h0] at HSF
              have h0' : ((j : Int) == 0) = false := beq_eq_false_iff_ne.2 (by omega)
              clear h0
              go_wp2_with (first
                | (go_at_call 9; (with_reducible refine (told_any _).mono ?_); rintro e w7 ⟨rfl, hge⟩; have HGE := Lib.hid hge; have H4 := Lib.hid (H3.out.grow hge); clear hge)
                | (go_at_call 23; (with_reducible refine (t_ready H4.out HRE.out).mono ?_); rintro e w8 ⟨A', cc', rfl, hs, hn, hg⟩; rw [HLL.out]; have H5 := Lib.hid (H4.out.grow hg); have G5 := Lib.hid hg; clear hs hn hg)
                | (go_at_call 25; (with_reducible refine (t_stuck H5.out HSF.out).mono ?_); rintro e w9 ⟨rfl, hg⟩; have G6 := Lib.hid hg; clear hg))
              go_ret
              exact ⟨rfl, HBL.out _ ((HGE.out.trans G5.out).trans G6.out)⟩

/-! ### THE ROW's STEP: WRITTEN OUT: LEAVE IT -/
set_option maxRecDepth 100000 in
theorem lifted (os : Os) (started : os.Started) (H : Type) (enc : TypeId × Value → H) :
    ReturnsInHanded {} Try.checked os 5 .any (Rows.schedFreesSpec.pre6 enc Try.prog Try.f5 Rows.schedFreesRow.domain false) (Rows.schedFreesSpec.post enc Try.prog Try.f5 false true false false) := by
  refine returnsInHanded_of_change (C := Try.checked) own started (by kernel_rfl) Try.func5
    (ChangeSpec.witness6 (enc := enc) (C := Try.checked) false ⟨#[], #[.slice none 0 0, .int .i64 0], []⟩ 8 (by kernel_rfl) (by kernel_rfl) (by kernel_rfl) (by kernel_rfl)) ?_
  intro W base args ds gs before hval0 hW hcnd _
  have hval : ∀ (j : Nat) t v, Try.f5.params[j]? = some t → args[j]? = some v → Value.okWide Try.prog W .any base t v := hval0
  have hW' := hW
  obtain ⟨p, q, hA0, hV, rfl, hfz, hnd⟩ := hW
  have hA : DataW.TrodAll enc Try.prog W 0 (fun _ => true) true Try.f5.params.toList args.toList ds p := hA0
  rw [Try.params5] at hA hval
  obtain ⟨v0, vs0, d0, ds0, p0, q0, hargs, rfl, rfl, h0, r0⟩ := trodAll_cons hA
  obtain ⟨v1, vs1, d1, ds1, p1, q1, rfl, rfl, rfl, h1, r1⟩ := trodAll_cons r0
  obtain ⟨rfl, rfl, rfl⟩ := trodAll_nil r1
  obtain rfl : args = #[v0, v1] := by cases args; simp_all
  obtain ⟨rfl, rfl⟩ := trodVars_none hV
  obtain ⟨a0, len0, cap0, rfl⟩ := okWide_slice Try.underlying33 (hval 0 33 v0 rfl rfl)
  have k0 := h0
  have lt0 : ∀ x ∈ p0, x.block < W.heap.size := by obtain ⟨m, hm⟩ := k0; exact DataW.trod_lt m _ _ _ hm
  obtain ⟨z0, w0⟩ : ∃ zs, IsRow .i64 W a0 len0 cap0 zs := by
    obtain ⟨fuel, hf⟩ := h0
    rcases open_ints Try.underlying33 Try.underlying3 (by kernel_rfl) hf with ⟨hcs, _⟩ | ⟨x, l, c, zs, hcs, _, hl, hm, hz, _, hcell, hwz⟩
    · simp [Value.cells] at hcs
      obtain ⟨rfl, rfl, rfl⟩ := hcs
      exact ⟨[], .inl ⟨rfl, rfl, rfl, rfl⟩⟩
    · simp [Value.cells] at hcs
      obtain ⟨rfl, rfl, rfl⟩ := hcs
      exact ⟨zs, .inr ⟨_, rfl, hl, hm, by simpa using hz, hcell, hwz⟩⟩
  obtain ⟨a1, rfl, rfl, rfl, w1⟩ := open_int Try.underlying3 (hval 1 3 v1 rfl rfl) h1
  clear hA0 hval0
  refine (walk a0 len0 cap0 z0 a1 W w0 w1).mono fun e W' ⟨he, bel⟩ => ?_
  subst he
  exact ⟨_, rfl, _, _, _, [], _, [], hW', trodAll_mk1 (shut_bool Try.underlying4 _), (trodAll_cons_mk (Below.trod laidOut (by kernel_rfl) (of_decide_eq_true (by kernel_rfl)) k0 bel lt0) (trodAll_cons_mk (shut_int Try.underlying3 w1) trodAll_mk0)), rfl, bel.frame _, fun h => by cases h⟩

theorem over : Rows.schedFreesRow.holds Try.pinned (OpenSpec.ofChange Rows.schedFreesSpec) :=
  OpenClaim.holds_of_wide 5 Try.f5 rfl rfl rfl rfl rfl rfl rfl ⟨rfl, rfl, rfl, rfl, rfl⟩ rfl rfl rfl rfl rfl (by kernel_rfl) Try.func5 (by kernel_rfl)
    (of_decide_eq_true (by kernel_rfl)) (by unfold Func.isWrapper; first | (rw [if_pos (by decide +kernel)]; kernel_rfl) | (rw [if_neg (by decide +kernel)]; exact ⟨rfl, rfl⟩))
    (fun os started H enc _ => lifted os started H enc)

/-- ████ THE STATEMENT ████ -/
theorem proved : Rows.SchedFreesSaid := over
#print axioms proved
end Go.Proofs.Ytboglnaagigcmaa.schedFrees
