/-
  For every input the call of lavabolaw6.LatchFair returns true and leaves its arguments as they were; no condition.
-/
import Derived.Test.YtpdmncdbimdfaaaFair
import Derived.Test.YtpdmncdbimdfaaaLatOps
import Derived.Deep.CutRange
import Derived.Test.YtpdmncdbimdfaaaRows
import Derived.WalkKit
import Derived.ProofKit
import Derived.OpenShut
import Derived.ShutString
import Derived.ChangeOld
import Derived.Below
namespace Go.Proofs.Ytpdmncdbimdfaaa.latchFair
open Go.ChangeShapes Go.WideShapes Go.ChangeAt Go.RowKit
open Go.ChangeMaps (open_string shut_string)
open Go.Proofs.Ytpdmncdbimdfaaa.Mem Go.Proofs.Ytpdmncdbimdfaaa.Blk Go.Proofs.Ytpdmncdbimdfaaa.Cells Go.Proofs.Ytpdmncdbimdfaaa.GsC Go.Proofs.Ytpdmncdbimdfaaa.LatM Go.Proofs.Ytpdmncdbimdfaaa.LatC Go.Proofs.Ytpdmncdbimdfaaa.LatY Go.Proofs.Ytpdmncdbimdfaaa.LatZ Go.Proofs.Ytpdmncdbimdfaaa.LatO Go.Proofs.Ytpdmncdbimdfaaa.LatI Go.Proofs.Ytpdmncdbimdfaaa.LatR Go.Proofs.Ytpdmncdbimdfaaa.LatN Go.Proofs.Ytpdmncdbimdfaaa.LatA Go.Proofs.Ytpdmncdbimdfaaa.LatL Go.Proofs.Ytpdmncdbimdfaaa.LatD Go.Proofs.Ytpdmncdbimdfaaa.LatF Go.Proofs.Ytpdmncdbimdfaaa.LatG Go.Proofs.Ytpdmncdbimdfaaa.Told6 Go.Proofs.Ytpdmncdbimdfaaa.HoldC Go.Proofs.Ytpdmncdbimdfaaa.FairC Go.Proofs.Ytpdmncdbimdfaaa.Ops Go.Proofs.Ytpdmncdbimdfaaa.Stages
set_option linter.unusedVariables false

theorem own : ownKnob Try.prog.godebug = none := by kernel_rfl
theorem laidOut : laidOutB Try.prog = true := by kernel_rfl

/-- WHAT THE WALK IS TOLD OF A SLICE OF INTEGERS THAT CAME IN: it is nil; or it leads to a row of 'cap' cells, the numbers 'zs' (the first 'len' are its elements, the rest its spare room), each fitting its kind. -/
def IsRow (k : IntKind) (w : World) (a : Option Addr) (len cap : Nat) (zs : List Int) : Prop :=
  (a = none ∧ len = 0 ∧ cap = 0 ∧ zs = []) ∨
  ∃ x, a = some x ∧ len ≤ cap ∧ cap ≤ maxLen ∧ zs.length = cap ∧ (∀ i, i < zs.length → w.cell? (x.add i) = some (.int k (zs.getD i 0))) ∧ ∀ n ∈ zs, (Lit.int k n).wf = true

def FLoop (w : World) (B g M : Nat) (gx : Nat) (q i : Value) (wx : World) : Prop := ∃ (j : Nat) (L : La) (A : Option Addr) (n c : Nat), j + gx = M ∧ i = .int .i64 (j : Int) ∧ q = .slice A n c ∧ St w B g L A n c wx
def FMid (w : World) (B g : Nat) (q : Value) (wx : World) : Prop := ∃ (L : La) (A : Option Addr) (n c : Nat), q = .slice A n c ∧ St w B g L A n c wx
section
variable {w : World} {v : Value} {L L' : La} {T : Nat} {b : Bool}
theorem f_lock (h : LatV w L v) (hg : LatM.Good L) (hT : T < 8) (hn : ¬ 0 < code L T) (hw : (T : Int) ∉ L.Q.map who) (e : goIn L.W L.R (L.Q ++ [(T : Int)]) = (L', if b then [(T : Int)] else [])) :
    Calls Try.prog 6 #[v, .int .i64 (T : Int)] w (AskX w L' L'.W L'.R.length L'.Q.length b) := by
  have ht : task (T : Int) = true := task_iff.2 (by omega)
  have hww : L.waits (T : Int) = false := by
    cases e : L.waits (T : Int) with
    | false => rfl
    | true => exact absurd ((waits_mem ht).1 e) hw
  refine (lock_any h hg (T : Int) ht (by rw [code_has hg]; exact decide_eq_false hn) hww).mono fun _ _ h => ?_
  rw [e] at h
  exact AskX.of h rfl rfl rfl rfl (by cases b <;> rfl)
theorem f_share (h : LatV w L v) (hg : LatM.Good L) (hT : T < 8) (hn : ¬ 0 < code L T) (hw : (T : Int) ∉ L.Q.map who) (e : goIn L.W L.R (L.Q ++ [-2 - (T : Int)]) = (L', if b then [(T : Int)] else [])) :
    Calls Try.prog 7 #[v, .int .i64 (T : Int)] w (AskX w L' L'.W L'.R.length L'.Q.length b) := by
  have ht : task (T : Int) = true := task_iff.2 (by omega)
  have hww : L.waits (T : Int) = false := by
    cases e : L.waits (T : Int) with
    | false => rfl
    | true => exact absurd ((waits_mem ht).1 e) hw
  refine (share_any h hg (T : Int) ht (by rw [code_has hg]; exact decide_eq_false hn) hww).mono fun _ _ h => ?_
  rw [e] at h
  exact AskX.of h rfl rfl rfl rfl (by cases b <;> rfl)
theorem f_free {k : Nat} (h : LatV w L v) (hg : LatM.Good L) (hc : 0 < code L T) (hk : k ≤ L.Q.length) (e : goIn (if L.W = (T : Int) then -1 else L.W) (if L.W = (T : Int) then L.R else L.R.filter (fun x => !decide (x = (T : Int)))) L.Q = (L', (L.Q.take k).map who)) :
    Calls Try.prog 8 #[v, .int .i64 (T : Int)] w (FreeX w L' ((L.Q.take k).map who) L'.W L'.R.length L'.Q.length k) := by
  refine (free_any h hg (T : Int) (by rw [code_has hg]; exact decide_eq_true hc)).mono fun _ _ h => ?_
  rw [e] at h
  exact FreeX.of h rfl rfl rfl rfl rfl (by rw [List.length_map, List.length_take]; omega)
end

/-! ### STEP 1: THE WALK: the Go text returns true, AND WRITES NOTHING THAT WAS THERE: 'Below w.heap.size w w'' (Derived/Below.lean: '.refl', '.alloc', '.drew', '.setCell' at a new block, '.trans'). Open each 'IsRow' by 'rcases' AHEAD of 'go_enter'; part every test ahead of the walk. -/
set_option maxHeartbeats 8000000 in
set_option maxRecDepth 100000 in
theorem walk (a0 : Option Addr) (len0 cap0 : Nat) (w : World) (w0 : OpsAt w a0 len0 cap0) :
    Calls Try.prog 3 #[.slice a0 len0 cap0] w fun e w' => e = .returned (.bool true) ∧ Below w.heap.size w w' := by
  obtain ⟨hlc, hcm, hops⟩ := w0
  unfold maxLen at hcm
  have HOPS := Lib.hid hops
  obtain ⟨M, hM⟩ : ∃ M : Nat, M = min len0 100 := ⟨_, rfl⟩
  have HM := Lib.hid hM
  clear hops hM
  go_enter Try.func3, Try.ntmps3
  go_upto_block 0 with (go_at_call 5; (with_reducible refine new_any.mono ?_); rintro e w1 ⟨rfl, hg⟩; have G1 := Lib.hid hg; clear hg)
  have hb := (Blk.new w1 25 [.int .i64 (-1), .slice none 0 0, .slice none 0 0]).alloc (.cells #[Value.int .i64 0, Value.int .i64 0, Value.int .i64 0, Value.int .i64 0, Value.int .i64 0, Value.int .i64 0, Value.int .i64 0, Value.int .i64 0] 27)
  have hg1 : Grow w1 (w1.alloc (.cells #[.int .i64 (-1), .slice none 0 0, .slice none 0 0] 25)) := (Kept.refl _ _).alloc _
  have hs1 : (w1.alloc (.cells #[.int .i64 (-1), .slice none 0 0, .slice none 0 0] 25)).heap.size = w1.heap.size + 1 := by simp
  have hr2 := row_zero8 (w1.alloc (.cells #[.int .i64 (-1), .slice none 0 0, .slice none 0 0] 25)) 27
  rw [hs1] at hr2
  have hg2 : Grow w ((w1.alloc (.cells #[.int .i64 (-1), .slice none 0 0, .slice none 0 0] 25)).alloc (.cells #[Value.int .i64 0, Value.int .i64 0, Value.int .i64 0, Value.int .i64 0, Value.int .i64 0, Value.int .i64 0, Value.int .i64 0, Value.int .i64 0] 27)) := (G1.out.trans hg1).alloc _
  generalize (w1.alloc (.cells #[.int .i64 (-1), .slice none 0 0, .slice none 0 0] 25)).alloc (.cells #[Value.int .i64 0, Value.int .i64 0, Value.int .i64 0, Value.int .i64 0, Value.int .i64 0, Value.int .i64 0, Value.int .i64 0, Value.int .i64 0] 27) = w2 at *
  have hsB : w.heap.size ≤ w1.heap.size := G1.out.size
  clear hg1 hs1 G1
  generalize w1.heap.size = B at *
  have H0 : Hid (St w B (B + 1) free none 0 0 w2) := ⟨⟨none, 0, none, 0, hb, fun u _ => latv_free u⟩, hr2.congr fun q _ => by rw [code_free], Gs.nil _ _, good_free, eight_free, hg2, hsB, by omega, fun k hk => absurd hk blk_zero, by omega⟩
  have HGB : Hid (B ≠ B + 1) := by show _ ≠ _; omega
  clear hb hr2 hg2 hsB
  generalize B + 1 = g at *
  go_wp2_with fail
  go_loopg [4, 6] M (FLoop w B g M)
  case atStart => exact ⟨0, free, none, 0, 0, by omega, rfl, rfl, H0.out⟩
  case round =>
    obtain ⟨j, L, A, n, c, hg, rfl, rfl, hst⟩ := hrel
    obtain ⟨wo, rfl⟩ : ∃ wo, wo = wr := ⟨_, rfl⟩
    have HG := Lib.hid hg
    have HST := Lib.hid hst
    clear hg hst H0
    by_cases hj : j < M
    · have hj1 : j < len0 := by have := HM.out; omega
      have hj2 : (j : Int) < 100 := by have := HM.out; omega
      have hj1z : (j : Int) < (len0 : Int) := by omega
      obtain ⟨ab, ao, rfl, hab, hall⟩ := HOPS.out (by omega)
      obtain ⟨x, hx⟩ := hall j hj1
      have HX := Lib.hid hx
      have ck := HST.out.k.cellN hx.k id
      have cp := HST.out.k.cellN hx.p id
      have kB := hx.kB
      have pB := hx.pB
      clear hall hx
      obtain ⟨T, hT, hT8⟩ := tmod_nat x.p 8 (by omega)
      simp only [Int.cast_ofNat_Int] at hT
      have hTz : (T : Int) < 8 := by omega
      obtain ⟨KK, hKK, hK0, hK3⟩ : ∃ KK : Int, bits BinOp.and IntKind.i64 x.k 3 = KK ∧ 0 ≤ KK ∧ KK ≤ 3 := ⟨_, rfl, by rw [and3]; omega, by rw [and3]; omega⟩
      have HQL := Lib.hid HST.out.q.len
      have HQS := Lib.hid (HST.out.q.sl (Nat.le_refl _))
      have hn64 : n ≤ 64 := by have := HST.out.good.pre.lenQ; have := HQL.out; rw [List.length_map] at this; omega
      have hnz : (n : Int) ≤ 64 := by omega
      go_upto_block 2 with fail
      go_cut [8] from 37 to 51 (fun s wx => s = .bool (decide ((T : Int) ∈ L.Q.map who)) ∧ wo = wx)
      case first =>
        go_wp2_with fail
        go_loopg [8, 9] n (fun gx s8 s9 wx => ∃ q : Nat, q + gx = n ∧ s9 = .int .i64 (q : Int) ∧ s8 = .bool (decide ((T : Int) ∈ (L.Q.map who).take q)) ∧ wo = wx)
        case atStart => exact ⟨0, by omega, rfl, by simp, rfl⟩
        case round =>
          obtain ⟨q, hg, rfl, rfl, rfl⟩ := hrel
          have HGQ := Lib.hid hg
          clear hg
          by_cases hq : q < n
          · have hqz : (q : Int) < (n : Int) := by omega
            obtain ⟨b, o, rfl, _, hc⟩ := HQS.out.at_ (by omega)
            have r1 := hc q hq
            have HIT := Lib.hid (in_take (t := (T : Int)) (Z := L.Q.map who) (q := q) (by rw [HQL.out]; exact hq))
            clear hc
            generalize (L.Q.map who).getD q 0 = y at *
            cases hb : decide ((T : Int) ∈ (L.Q.map who).take q) with
            | true =>
              rw [hb] at HIT
              go_wp2_with fail
              go_roundg (gk - 1)
              case measure => have := HGQ.out; omega
              case rel => exact ⟨q + 1, by have := HGQ.out; omega, by go_num, by rw [HIT.out]; rfl, rfl⟩
            | false =>
              rw [hb] at HIT
              go_wp2_with fail
              go_roundg (gk - 1)
              case measure => have := HGQ.out; omega
              case rel => exact ⟨q + 1, by have := HGQ.out; omega, by go_num, by rw [HIT.out]; rfl, rfl⟩
          · obtain rfl : q = n := by have := HGQ.out; omega
            have HTK : Hid ((L.Q.map who).take q = L.Q.map who) := List.take_of_length_le (Nat.le_of_eq HQL.out)
            go_wp2_with fail
            go_meet
            exact ⟨by rw [HTK.out], rfl⟩
      case rest =>
        obtain ⟨rfl, rfl⟩ := hcut
        go_upto_if 58 with fail
        go_cut [4, 8] from 37 to 163 (fun s4 _ wx => FMid w B g s4 wx)
        case first =>
          have ci := HST.out.i.cell (i := T) hT8
          have fi := HST.out.i.frozen T
          have hcr := code_range (L := L) (q := T)
          have hc0 := hcr.1
          have hc2 := hcr.2
          clear hcr
          obtain ⟨D0, d0, D0', d0', hbx, hsy⟩ := HST.out.l
          have HBX := Lib.hid hbx
          have HSY := Lib.hid hsy
          have k0 := hbx.cell 0
          have k1 := hbx.cell 1
          have k2 := hbx.cell 2
          simp only [List.getElem?_cons_zero, List.getElem?_cons_succ] at k0 k1 k2
          clear hbx hsy
          by_cases hK2 : KK < 2
          · by_cases hcz : 0 < code L T
            · go_wp2_with fail
              go_roundg (M - (j + 1))
              case measure => have := HG.out; omega
              case rel => exact ⟨j + 1, L, A, n, c, by have := HG.out; omega, by go_num, rfl, HST.out⟩
            · have hcz' : code L T = 0 := by omega
              cases hwt : decide ((T : Int) ∈ L.Q.map who) with
              | true =>
                go_wp2_with fail
                go_roundg (M - (j + 1))
                case measure => have := HG.out; omega
                case rel => exact ⟨j + 1, L, A, n, c, by have := HG.out; omega, by go_num, rfl, HST.out⟩
              | false =>
                have hwm : (T : Int) ∉ L.Q.map who := of_decide_eq_false hwt
                by_cases hKz : KK = 0
                · subst hKz
                  obtain ⟨L', b, hgo, hgd, he8, hbt, hbf⟩ := latch_asked HST.out.good HST.out.e hT8 hcz hwm (.inl rfl : (T : Int) = (T : Int) ∨ (T : Int) = -2 - (T : Int))
                  have HC := Lib.hid (f_lock (b := b) HSY.out.latv HST.out.good hT8 hcz hwm hgo)
                  have HGD := Lib.hid hgd
                  have HE8 := Lib.hid he8
                  have HBT := Lib.hid hbt
                  have HBF := Lib.hid hbf
                  clear hgo hgd he8 hbt hbf hwm
                  go_upto_region 19 with (go_at_call 6; (with_reducible refine HC.out.mono ?_); rintro e w3 ⟨E, e1, E', e1', rfl, hk, hg⟩; have HKP := Lib.hid hk; have HG3 := Lib.hid hg; clear hk hg k0 k1 k2 ck cp ci fi; have f0 := (HBX.out.grow HG3.out).frozenAll; have k0 := (HBX.out.grow HG3.out).cell 0; have k1 := (HBX.out.grow HG3.out).cell 1; have k2 := (HBX.out.grow HG3.out).cell 2; simp only [List.getElem?_cons_zero, List.getElem?_cons_succ] at k0 k1 k2)
                  have hmid := HST.out.mid HG3.out (HBX.out.grow HG3.out) (Stays.of HKP.out HST.out.lt.2.2)
                  have HSZ4 : w3.heap.size ≤ (((w3.setCell ⟨B, 0, none⟩ (.int .i64 L'.W)).setCell ⟨B, 1, none⟩ (.slice E L'.R.length e1)).setCell ⟨B, 2, none⟩ (.slice E' L'.Q.length e1')).heap.size := by simp [World.setCell]
                  generalize ((w3.setCell ⟨B, 0, none⟩ (.int .i64 L'.W)).setCell ⟨B, 1, none⟩ (.slice E L'.R.length e1)).setCell ⟨B, 2, none⟩ (.slice E' L'.Q.length e1') = w4 at *
                  have HMID := Lib.hid hmid
                  have ck := HMID.out.k.cellN HX.out.k id
                  have fi := HMID.out.i.frozen T
                  have ci := HMID.out.i.cell (i := T) hT8
                  clear hmid f0 k0 k1 k2
                  cases b with
                  | true =>
                    obtain ⟨hQ0, hQ1, hcode⟩ := HBT.out rfl
                    have HF := Lib.hid (HMID.out.got (v := 1) HST.out hT8 (fun q => (hcode q).trans (by have h2 : ¬ (-2 - (T : Int) = (T : Int)) := (by omega); by_cases h : q = T <;> simp [h, h2])) hQ0 hQ1 HGD.out HE8.out)
                    have hn0 : n = 0 := by have := HQL.out; rw [hQ0] at this; simpa using this.symm
                    subst hn0
                    simp only [Int.natCast_zero, Int.cast_ofNat_Int] at *
                    clear hQ0 hQ1 hcode
                    go_wp2_with fail
                    go_meet
                    exact ⟨L', A, 0, c, rfl, HF.out⟩
                  | false =>
                    obtain ⟨hQ1, hcode⟩ := HBF.out rfl
                    have HQ1 := Lib.hid hQ1
                    have HCO := Lib.hid hcode
                    clear hQ1 hcode
                    have hga : Grow w4 (w4.alloc (.cells #[.int .i64 (T : Int)] 3)) := (Kept.refl _ _).alloc _
                    have hm5 : Mid w B g L L' A n c (w4.alloc (.cells #[.int .i64 (T : Int)] 3)) := ⟨HMID.out.l.grow hga, HMID.out.i.kept hga id, HMID.out.q.grow hga, HMID.out.k.trans hga⟩
                    obtain ⟨A2, c2, w6, hr, hq6, hk6, hb6⟩ := append_gs 23 hm5.q (by omega) w4.heap.size (T : Int) (cell_new1 _ _ _)
                    have HR := Lib.hid hr
                    have hs5 : wo.heap.size ≤ (w4.alloc (.cells #[.int .i64 (T : Int)] 3)).heap.size := Nat.le_trans HG3.out.size (Nat.le_trans HSZ4 hga.size)
                    have HF := Lib.hid (hm5.wait HST.out hs5 HCO.out HQ1.out HGD.out HE8.out hq6 hk6 hb6)
                    clear hr hq6 hk6 hb6 hga hm5 hs5
                    go_wp2_with (at_builtin; refine Lib.wpList_append_run _ rfl _ _ _ _ rfl _ _ rfl rfl _ _ HR.out ?_)
                    go_meet
                    exact ⟨L', A2, n + 1, c2, rfl, HF.out⟩
                · obtain rfl : KK = 1 := by omega
                  obtain ⟨L', b, hgo, hgd, he8, hbt, hbf⟩ := latch_asked HST.out.good HST.out.e hT8 hcz hwm (.inr rfl : -2 - (T : Int) = (T : Int) ∨ -2 - (T : Int) = -2 - (T : Int))
                  have HC := Lib.hid (f_share (b := b) HSY.out.latv HST.out.good hT8 hcz hwm hgo)
                  have HGD := Lib.hid hgd
                  have HE8 := Lib.hid he8
                  have HBT := Lib.hid hbt
                  have HBF := Lib.hid hbf
                  clear hgo hgd he8 hbt hbf hwm
                  go_upto_region 19 with (go_at_call 7; (with_reducible refine HC.out.mono ?_); rintro e w3 ⟨E, e1, E', e1', rfl, hk, hg⟩; have HKP := Lib.hid hk; have HG3 := Lib.hid hg; clear hk hg k0 k1 k2 ck cp ci fi; have f0 := (HBX.out.grow HG3.out).frozenAll; have k0 := (HBX.out.grow HG3.out).cell 0; have k1 := (HBX.out.grow HG3.out).cell 1; have k2 := (HBX.out.grow HG3.out).cell 2; simp only [List.getElem?_cons_zero, List.getElem?_cons_succ] at k0 k1 k2)
                  have hmid := HST.out.mid HG3.out (HBX.out.grow HG3.out) (Stays.of HKP.out HST.out.lt.2.2)
                  have HSZ4 : w3.heap.size ≤ (((w3.setCell ⟨B, 0, none⟩ (.int .i64 L'.W)).setCell ⟨B, 1, none⟩ (.slice E L'.R.length e1)).setCell ⟨B, 2, none⟩ (.slice E' L'.Q.length e1')).heap.size := by simp [World.setCell]
                  generalize ((w3.setCell ⟨B, 0, none⟩ (.int .i64 L'.W)).setCell ⟨B, 1, none⟩ (.slice E L'.R.length e1)).setCell ⟨B, 2, none⟩ (.slice E' L'.Q.length e1') = w4 at *
                  have HMID := Lib.hid hmid
                  have ck := HMID.out.k.cellN HX.out.k id
                  have fi := HMID.out.i.frozen T
                  have ci := HMID.out.i.cell (i := T) hT8
                  clear hmid f0 k0 k1 k2
                  cases b with
                  | true =>
                    obtain ⟨hQ0, hQ1, hcode⟩ := HBT.out rfl
                    have HF := Lib.hid (HMID.out.got (v := 2) HST.out hT8 (fun q => (hcode q).trans (by have h2 : ¬ (-2 - (T : Int) = (T : Int)) := (by omega); by_cases h : q = T <;> simp [h, h2])) hQ0 hQ1 HGD.out HE8.out)
                    have hn0 : n = 0 := by have := HQL.out; rw [hQ0] at this; simpa using this.symm
                    subst hn0
                    simp only [Int.natCast_zero, Int.cast_ofNat_Int] at *
                    clear hQ0 hQ1 hcode
                    go_wp2_with fail
                    go_meet
                    exact ⟨L', A, 0, c, rfl, HF.out⟩
                  | false =>
                    obtain ⟨hQ1, hcode⟩ := HBF.out rfl
                    have HQ1 := Lib.hid hQ1
                    have HCO := Lib.hid hcode
                    clear hQ1 hcode
                    have hga : Grow w4 (w4.alloc (.cells #[.int .i64 (T : Int)] 3)) := (Kept.refl _ _).alloc _
                    have hm5 : Mid w B g L L' A n c (w4.alloc (.cells #[.int .i64 (T : Int)] 3)) := ⟨HMID.out.l.grow hga, HMID.out.i.kept hga id, HMID.out.q.grow hga, HMID.out.k.trans hga⟩
                    obtain ⟨A2, c2, w6, hr, hq6, hk6, hb6⟩ := append_gs 23 hm5.q (by omega) w4.heap.size (T : Int) (cell_new1 _ _ _)
                    have HR := Lib.hid hr
                    have hs5 : wo.heap.size ≤ (w4.alloc (.cells #[.int .i64 (T : Int)] 3)).heap.size := Nat.le_trans HG3.out.size (Nat.le_trans HSZ4 hga.size)
                    have HF := Lib.hid (hm5.wait HST.out hs5 HCO.out HQ1.out HGD.out HE8.out hq6 hk6 hb6)
                    clear hr hq6 hk6 hb6 hga hm5 hs5
                    go_wp2_with (at_builtin; refine Lib.wpList_append_run _ rfl _ _ _ _ rfl _ _ rfl rfl _ _ HR.out ?_)
                    go_meet
                    exact ⟨L', A2, n + 1, c2, rfl, HF.out⟩
          · by_cases hcz : 0 < code L T
            · generalize decide ((T : Int) ∈ L.Q.map who) = wb at *
              obtain ⟨L', k, hgo, hkl, hQd, hgd, he8, hcode⟩ := latch_freed HST.out.good HST.out.e hcz
              have HC := Lib.hid (f_free HSY.out.latv HST.out.good hcz hkl hgo)
              have HQD := Lib.hid hQd
              have HGD := Lib.hid hgd
              have HE8 := Lib.hid he8
              have HCODE := Lib.hid hcode
              have hkn : k ≤ n := by have := HQL.out; rw [List.length_map] at this; omega
              have hknz : (k : Int) ≤ (n : Int) := by omega
              have hil : ((L.Q.take k).map who).length = k := by rw [List.length_map, List.length_take]; omega
              have HIL := Lib.hid hil
              have HIQ : Hid (∀ q, q < k → (L.Q.map who).getD q 0 = ((L.Q.take k).map who).getD q 0 ∧ ∃ y : Nat, ((L.Q.take k).map who).getD q 0 = (y : Int) ∧ y < 8) := fun q hq => by
                have h1 : (L.Q.map who).getD q 0 = ((L.Q.take k).map who).getD q 0 := by
                  rw [List.map_take]
                  simp [List.getD_eq_getElem?_getD, List.getElem?_take, hq]
                have h2 : ((L.Q.take k).map who).getD q 0 ∈ (L.Q.take k).map who := get_mem (by rw [hil]; exact hq)
                obtain ⟨z, hz, e⟩ := List.mem_map.1 h2
                have hz' := List.mem_of_mem_take hz
                have h3 := task_iff.1 (HST.out.good.pre.q z hz')
                have h4 := HST.out.e.q z hz'
                exact ⟨h1, (who z).toNat, by rw [← e]; omega, by omega⟩
              clear hgo hkl hQd hgd he8 hcode hil
              generalize (L.Q.take k).map who = is at *
              go_upto_region 26 with (go_at_call 8; (with_reducible refine HC.out.mono ?_); rintro e w3 ⟨E, e1, E', e1', D, d, rfl, hk, hs, hd, hg⟩; have HKP := Lib.hid hk; have HS3 := Lib.hid hs; have HG3 := Lib.hid hg; clear hk hs hd hg k0 k1 k2 ck cp ci fi)
              have hx4 := Blk.new w3 25 [.int .i64 L'.W, .slice E L'.R.length e1, .slice E' L'.Q.length e1']
              have hg4 : Grow w3 (w3.alloc (.cells #[.int .i64 L'.W, .slice E L'.R.length e1, .slice E' L'.Q.length e1'] 25)) := (Kept.refl _ _).alloc _
              generalize w3.alloc (.cells #[.int .i64 L'.W, .slice E L'.R.length e1, .slice E' L'.Q.length e1'] 25) = w4 at *
              have hxl : B < w3.heap.size ∧ g < w3.heap.size := by
                have h1 := HST.out.lt
                have h2 := HG3.out.size
                omega
              generalize w3.heap.size = xb at *
              have b4 := (HBX.out.grow HG3.out).grow hg4
              have i4 := HST.out.i.kept (HG3.out.trans hg4) id
              have k0 := hx4.cell 0
              have k1 := hx4.cell 1
              have k2 := hx4.cell 2
              have j0 := b4.cell 0
              have j1 := b4.cell 1
              have j2 := b4.cell 2
              have f0 := b4.frozenAll
              have ci := i4.cell (i := T) hT8
              have fi := i4.frozen T
              simp only [List.getElem?_cons_zero, List.getElem?_cons_succ] at k0 k1 k2 j0 j1 j2
              have hgB := HGB.out.symm
              go_upto_block 4 with fail
              have hmid := HST.out.mid (HG3.out.trans hg4) b4 ((Stays.of HKP.out HST.out.lt.2.2).grow hg4)
              have HFR := Lib.hid (hmid.fre (i := is) (T := T) HST.out)
              have HKM : Hid (Kept (Mine B g A c) w3 ((((w4.setCell ⟨B, 0, none⟩ (.int .i64 L'.W)).setCell ⟨B, 1, none⟩ (.slice E L'.R.length e1)).setCell ⟨B, 2, none⟩ (.slice E' L'.Q.length e1')).setCell ⟨g, T, none⟩ (.int .i64 0))) :=
                (((((Grow.kept hg4).setCell (fun _ => .inl rfl) _).setCell (fun _ => .inl rfl) _).setCell (fun _ => .inl rfl) _).setCell (fun _ => .inr (.inl rfl)) _)
              clear hmid k0 k1 k2 j0 j1 j2 f0 ci fi b4 i4 hx4 hg4
              generalize (((w4.setCell ⟨B, 0, none⟩ (.int .i64 L'.W)).setCell ⟨B, 1, none⟩ (.slice E L'.R.length e1)).setCell ⟨B, 2, none⟩ (.slice E' L'.Q.length e1')).setCell ⟨g, T, none⟩ (.int .i64 0) = w5 at *
              go_wp2_with fail
              go_loopg [14] k (fun gx s14 wx => ∃ q : Nat, q + gx = k ∧ s14 = .int .i64 (q : Int) ∧ Fre w B g L L' A n c T is q wx ∧ Kept (Mine B g A c) w3 wx)
              case atStart => exact ⟨0, by omega, rfl, HFR.out, HKM.out⟩
              case round =>
                obtain ⟨q, hg, rfl, hfr, hkm⟩ := hrel
                have HGQ := Lib.hid hg
                have HFQ := Lib.hid hfr
                have HKQ := Lib.hid hkm
                clear hg hfr hkm HFR HKM
                by_cases hq : q < k
                · have hqz : (q : Int) < (k : Int) := by omega
                  have hqz2 : (q : Int) < (n : Int) := by omega
                  obtain ⟨hqq, y, hy, hy8⟩ := HIQ.out q hq
                  have hyz : (y : Int) < 8 := by omega
                  obtain ⟨b1, o1, rfl, _, hc1⟩ := (HFQ.out.q.sl (Nat.le_refl _)).at_ (by omega)
                  obtain ⟨b2, o2, rfl, _, hc2⟩ := (HS3.out (Mine B g (some ⟨b1, o1, none⟩) c) _ HKQ.out fun k h1 h2 => by have := HST.out.lt.2.2 k h2; omega).at_ (by omega)
                  have r1 := hc1 q (by omega)
                  have r2 := hc2 q (by omega)
                  rw [hqq, hy] at r1
                  rw [hy] at r2
                  clear hc1 hc2 hqq
                  have q1 := up_cell (F := fun _ => False) (w := wr.drew) r1 id
                  have q2 := up_cell (F := fun _ => False) (w := wr.drew) r2 id
                  go_upto_region 32 with fail
                  refine wp_region_stages Grow (kept_refl _) (kept_trans _) [] [0, 1, 2, 3, 4, 5, 6, 7, 8] (by kernel_rfl) (by kernel_rfl) ?_
                  simp only [selSt, sel, List.map_cons, List.map_nil, List.getD_cons_succ, List.getD_cons_zero]
                  refine st_nil fun K2 hK2 => ?_
                  repeat (go_big_quiet_step (fail))
                  refine wpQuiet_nil (hK2 _ ?_)
                  clear hK2 K2 q1 q2
                  have r2 : wr.drew.cell? ⟨b2, o2 + q, none⟩ = some (.int .i64 (y : Int)) := r2
                  have cy : wr.drew.cell? ⟨g, y, none⟩ = some (.int .i64 (freed L L' T (is.take q) y)) := HFQ.out.i.cell hy8
                  have fy : wr.drew.frozen? ⟨g, y, none⟩ = false := HFQ.out.i.frozen y
                  have hd1 := HFQ.out.grow (Kept.drew' wr)
                  have HD1 := Lib.hid hd1
                  have HKD : Hid (Kept (Mine B g (some ⟨b1, o1, none⟩) c) w3 wr.drew) := HKQ.out.drew
                  have HRL := Lib.hid r1
                  clear hd1 r1
                  generalize wr.drew = u at *
                  go_upto_region 35 with fail
                  have hk6 := kept_set u g y (.int .i64 2)
                  have HLQ := Lib.hid ((HS3.out (Mine B g (some ⟨b1, o1, none⟩) c) _ (HKD.out.trans (hk6.mono fun _ _ e => .inr (.inl e))) fun k h1 h2 => by have := HST.out.lt.2.2 k h2; omega))
                  have r6 : (u.setCell ⟨g, y, none⟩ (.int .i64 2)).cell? ⟨b2, o2 + q, none⟩ = some (.int .i64 (y : Int)) := by
                    obtain ⟨b3, o3, e, _, hc⟩ := HLQ.out.at_ (by omega)
                    injection e with e
                    injection e with e1 e2
                    subst e1 e2
                    rw [hc q (by omega), hy]
                  have bx6 : (u.setCell ⟨g, y, none⟩ (.int .i64 2)).cell? ⟨B, 0, none⟩ = some (.int .i64 L'.W) := by
                    obtain ⟨_, _, _, _, hb, _⟩ := HD1.out.l
                    exact (hb.other (p := ⟨g, y, none⟩) (fun e => HGB.out e) (.int .i64 2)).cell 0
                  have i6 := HD1.out.i.set y (.int .i64 2)
                  have HKE : Hid (Kept (Mine B g (some ⟨b1, o1, none⟩) c) w3 (u.setCell ⟨g, y, none⟩ (.int .i64 2))) := HKD.out.trans (hk6.mono fun _ _ e => .inr (.inl e))
                  have HTWO := Lib.hid fun (h : L'.W ≠ (y : Int)) => HD1.out.two HST.out (by rw [HIL.out]; exact hq) hy h
                  have HONE := Lib.hid fun (h : L'.W = (y : Int)) => HD1.out.one HST.out (by rw [HIL.out]; exact hq) hy h
                  clear hk6 r2 cy fy HLQ
                  have HI6 := Lib.hid i6
                  clear i6
                  generalize u.setCell ⟨g, y, none⟩ (.int .i64 2) = u6 at *
                  have q1 := up_cell (F := fun _ => False) (w := u6.drew) r6 id
                  have q2 := up_cell (F := fun _ => False) (w := u6.drew) bx6 id
                  refine wp_region_stages Grow (kept_refl _) (kept_trans _) [] [0, 1, 2, 3, 4, 5, 6] (by kernel_rfl) (by kernel_rfl) ?_
                  simp only [selSt, sel, List.map_cons, List.map_nil, List.getD_cons_succ, List.getD_cons_zero]
                  refine st_nil fun K2 hK2 => ?_
                  by_cases hWy : L'.W = (y : Int)
                  · have hWb : (L'.W == (y : Int)) = true := beq_iff_eq.2 hWy
                    repeat (go_big_quiet_step (fail))
                    refine wpQuiet_nil (hK2 _ ?_)
                    clear hK2 K2 q1 q2
                    have hf7 : Fre w B g L L' (some ⟨b1, o1, none⟩) n c T is (q + 1) (u6.drew.setCell ⟨g, y, none⟩ (.int .i64 1)) := (HONE.out hWy).grow (Kept.drew' _)
                    have hk7 : Kept (Mine B g (some ⟨b1, o1, none⟩) c) w3 (u6.drew.setCell ⟨g, y, none⟩ (.int .i64 1)) := HKE.out.drew.trans ((kept_set _ g y (.int .i64 1)).mono fun _ _ e => .inr (.inl e))
                    have cy : u6.drew.cell? ⟨g, y, none⟩ = some (.int .i64 2) := by
                      have := HI6.out.cell hy8
                      rw [if_pos rfl] at this
                      exact this
                    have fy : u6.drew.frozen? ⟨g, y, none⟩ = false := HI6.out.frozen y
                    have r7 : u6.drew.cell? ⟨b2, o2 + q, none⟩ = some (.int .i64 (y : Int)) := r6
                    have HF7 := Lib.hid hf7
                    have HK7 := Lib.hid hk7
                    clear hf7 hk7 r6 bx6 HTWO HONE HI6
                    generalize u6.drew = u7 at *
                    go_wp2_with fail
                    go_roundg (gk - 1)
                    case measure => have := HGQ.out; omega
                    case rel => exact ⟨q + 1, by have := HGQ.out; omega, by go_num, HF7.out, HK7.out⟩
                  · have hWb : (L'.W == (y : Int)) = false := beq_eq_false_iff_ne.2 hWy
                    repeat (go_big_quiet_step (fail))
                    refine wpQuiet_nil (hK2 _ ?_)
                    clear hK2 K2 q1 q2
                    go_wp2_with fail
                    go_roundg (gk - 1)
                    case measure => have := HGQ.out; omega
                    case rel =>
                      have hf := HTWO.out hWy
                      exact ⟨q + 1, by have := HGQ.out; omega, by go_num, hf.grow (Kept.drew' _), HKE.out.drew⟩
                · obtain rfl : q = k := by have := HGQ.out; omega
                  have hst := Fre.st (L' := L') (i := is) (by rw [HIL.out]; exact HFQ.out) HST.out hkn HQD.out HGD.out HE8.out HCODE.out
                  have HSTF := Lib.hid hst
                  clear hst hq
                  go_wp2_with fail
                  · have h := HSTF.out
                    rw [if_pos (by assumption), show c - q = 0 by omega] at h
                    go_meet
                    exact ⟨L', A, n - q, 0, rfl, h⟩
                  · have h := HSTF.out
                    rw [if_neg (by assumption)] at h
                    go_meet
                    exact ⟨L', _, _, _, rfl, h⟩
            · have hcz' : code L T = 0 := by omega
              go_wp2_with fail
              go_roundg (M - (j + 1))
              case measure => have := HG.out; omega
              case rel => exact ⟨j + 1, L, A, n, c, by have := HG.out; omega, by go_num, rfl, HST.out⟩
        case rest =>
          obtain ⟨L2, A2, n2, c2, rfl, hst2⟩ := hcut
          have HS1 := Lib.hid hst2
          clear hst2 HQL HQS
          go_wp2_with fail
          go_loopg [15, 16, 17] 8 (fun gx s15 s16 s17 wx => ∃ k r : Nat, k + gx = 8 ∧ s17 = .int .i64 (k : Int) ∧ s15 = .int .i64 (wcount L2 k) ∧ s16 = .int .i64 (r : Int) ∧ r ≤ k ∧ (L2.R = [] → r = 0) ∧ St w B g L2 A2 n2 c2 wx)
          case atStart => exact ⟨0, 0, by omega, rfl, by rw [wcount_zero], rfl, Nat.le_refl _, fun _ => rfl, HS1.out⟩
          case round =>
            obtain ⟨k, r, hg, rfl, rfl, rfl, hrk, hr0, hst2⟩ := hrel
            have HGK := Lib.hid hg
            have HS2 := Lib.hid hst2
            have HR0 := Lib.hid hr0
            clear hg hst2 hr0
            have hw1 := wcount_range (L := L2) (k := k)
            have hw10 := hw1.1
            have hw11 := hw1.2
            clear hw1
            by_cases hk : k < 8
            · have hkz : (k : Int) < 8 := by omega
              have hrz : (r : Int) ≤ 8 := by omega
              have ci := HS2.out.i.cell (i := k) hk
              obtain ⟨D0, d0, D0', d0', hbx, hsy⟩ := HS2.out.l
              have HBX := Lib.hid hbx
              have HSY := Lib.hid hsy
              have k0 := hbx.cell 0
              have k1 := hbx.cell 1
              have k2 := hbx.cell 2
              simp only [List.getElem?_cons_zero, List.getElem?_cons_succ] at k0 k1 k2
              clear hbx hsy
              have hcr := code_range (L := L2) (q := k)
              have hcases : code L2 k = 1 ∨ code L2 k = 2 ∨ code L2 k = 0 := by omega
              clear hcr
              rcases hcases with hc1 | hc1 | hc1
              · have HWS := Lib.hid (wcount_one hc1)
                have HHK := Lib.hid fun (w' : World) (hk : Grow wr w') => has_any (HSY.out.latv.grow hk) (k : Int) (by have := HS2.out.good.pre.lenR; omega)
                rw [code_has HS2.out.good, hc1, show decide ((0 : Int) < 1) = true from rfl] at HHK
                rw [hc1] at ci
                go_upto_region 46 with fail
                have q0 := up_cell (F := fun _ => False) (w := wr.drew) k0 id
                have q1 := up_cell (F := fun _ => False) (w := wr.drew) k1 id
                have q2 := up_cell (F := fun _ => False) (w := wr.drew) k2 id
                have q3 := up_cell (F := fun _ => False) (w := wr.drew) ci id
                refine wp_region_stages Grow (kept_refl _) (kept_trans _) [([0, 1, 3, 4, 5, 6], 2)] [7] (by kernel_rfl) (by kernel_rfl) ?_
                simp only [selSt, sel, List.map_cons, List.map_nil, List.getD_cons_succ, List.getD_cons_zero]
                refine st_cons fun K1 hK1 => ?_
                repeat (go_big_quiet_step (fail))
                refine wpQuiet_nil ?_
                go_wp2_with (go_at_call 9; (with_reducible refine (HHK.out _ (Kept.drew' wr)).mono ?_); rintro e wh ⟨rfl, hh⟩; have HGH := Lib.hid hh; clear hh)
                refine norm_up (hK1 _ _ HGH.out (st_nil fun K2 hK2 => ?_))
                repeat (go_big_quiet_step (fail))
                refine wpQuiet_nil (hK2 _ ?_)
                clear hK1 K1 hK2 K2 q0 q1 q2 q3
                go_wp2_with fail
                go_roundg (gk - 1)
                case measure => have := HGK.out; omega
                case rel => exact ⟨k + 1, r, by have := HGK.out; omega, by go_num, by rw [HWS.out], rfl, by omega, HR0.out, HS2.out.grow ((Kept.drew' wr).trans HGH.out)⟩
              · have HWS := Lib.hid (wcount_other (L := L2) (k := k) (by omega))
                have HRN := Lib.hid (code_two_ne hc1)
                have HHK := Lib.hid fun (w' : World) (hk : Grow wr w') => has_any (HSY.out.latv.grow hk) (k : Int) (by have := HS2.out.good.pre.lenR; omega)
                rw [code_has HS2.out.good, hc1, show decide ((0 : Int) < 2) = true from rfl] at HHK
                rw [hc1] at ci
                go_upto_region 46 with fail
                have q0 := up_cell (F := fun _ => False) (w := wr.drew) k0 id
                have q1 := up_cell (F := fun _ => False) (w := wr.drew) k1 id
                have q2 := up_cell (F := fun _ => False) (w := wr.drew) k2 id
                have q3 := up_cell (F := fun _ => False) (w := wr.drew) ci id
                refine wp_region_stages Grow (kept_refl _) (kept_trans _) [([0, 1, 3, 4, 5, 6], 2)] [7] (by kernel_rfl) (by kernel_rfl) ?_
                simp only [selSt, sel, List.map_cons, List.map_nil, List.getD_cons_succ, List.getD_cons_zero]
                refine st_cons fun K1 hK1 => ?_
                repeat (go_big_quiet_step (fail))
                refine wpQuiet_nil ?_
                go_wp2_with (go_at_call 9; (with_reducible refine (HHK.out _ (Kept.drew' wr)).mono ?_); rintro e wh ⟨rfl, hh⟩; have HGH := Lib.hid hh; clear hh)
                refine norm_up (hK1 _ _ HGH.out (st_nil fun K2 hK2 => ?_))
                repeat (go_big_quiet_step (fail))
                refine wpQuiet_nil (hK2 _ ?_)
                clear hK1 K1 hK2 K2 q0 q1 q2 q3
                go_wp2_with fail
                go_roundg (gk - 1)
                case measure => have := HGK.out; omega
                case rel => exact ⟨k + 1, r + 1, by have := HGK.out; omega, by go_num, by rw [HWS.out], by go_num, by omega, fun h => absurd h HRN.out, HS2.out.grow ((Kept.drew' wr).trans HGH.out)⟩
              · have HWS := Lib.hid (wcount_other (L := L2) (k := k) (by omega))
                have HHK := Lib.hid fun (w' : World) (hk : Grow wr w') => has_any (HSY.out.latv.grow hk) (k : Int) (by have := HS2.out.good.pre.lenR; omega)
                rw [code_has HS2.out.good, hc1, show decide ((0 : Int) < 0) = false from rfl] at HHK
                rw [hc1] at ci
                go_upto_region 46 with fail
                have q0 := up_cell (F := fun _ => False) (w := wr.drew) k0 id
                have q1 := up_cell (F := fun _ => False) (w := wr.drew) k1 id
                have q2 := up_cell (F := fun _ => False) (w := wr.drew) k2 id
                have q3 := up_cell (F := fun _ => False) (w := wr.drew) ci id
                refine wp_region_stages Grow (kept_refl _) (kept_trans _) [([0, 1, 3, 4, 5, 6], 2)] [7] (by kernel_rfl) (by kernel_rfl) ?_
                simp only [selSt, sel, List.map_cons, List.map_nil, List.getD_cons_succ, List.getD_cons_zero]
                refine st_cons fun K1 hK1 => ?_
                repeat (go_big_quiet_step (fail))
                refine wpQuiet_nil ?_
                go_wp2_with (go_at_call 9; (with_reducible refine (HHK.out _ (Kept.drew' wr)).mono ?_); rintro e wh ⟨rfl, hh⟩; have HGH := Lib.hid hh; clear hh)
                refine norm_up (hK1 _ _ HGH.out (st_nil fun K2 hK2 => ?_))
                repeat (go_big_quiet_step (fail))
                refine wpQuiet_nil (hK2 _ ?_)
                clear hK1 K1 hK2 K2 q0 q1 q2 q3
                go_wp2_with fail
                go_roundg (gk - 1)
                case measure => have := HGK.out; omega
                case rel => exact ⟨k + 1, r, by have := HGK.out; omega, by go_num, by rw [HWS.out], rfl, by omega, HR0.out, HS2.out.grow ((Kept.drew' wr).trans HGH.out)⟩
            · obtain rfl : k = 8 := by have := HGK.out; omega
              have HWE := Lib.hid (wcount_end HS2.out.good HS2.out.e)
              clear hk hw10 hw11
              rcases HWE.out with ⟨hw, hR⟩ | hw
              · have hr := HR0.out hR
                subst hr
                rw [hw]
                simp only [Int.natCast_zero, Int.cast_ofNat_Int]
                go_wp2_with fail
                go_roundg (M - (j + 1))
                case measure => have := HG.out; omega
                case rel => exact ⟨j + 1, L2, A2, n2, c2, by have := HG.out; omega, by go_num, rfl, HS2.out⟩
              · rw [hw]
                go_wp2_with fail
                go_roundg (M - (j + 1))
                case measure => have := HG.out; omega
                case rel => exact ⟨j + 1, L2, A2, n2, c2, by have := HG.out; omega, by go_num, rfl, HS2.out⟩
    · have hjM : j = M := by have := HG.out; omega
      have HM' : Hid (j = min len0 100) := by have := HM.out; show _ = _; omega
      clear hjM hj HOPS
      by_cases h100 : len0 ≤ 100
      · have hlz : (len0 : Int) ≤ 100 := by omega
        obtain rfl : len0 = j := by have := HM'.out; omega
        go_wp2_with (go_at_call 10; (with_reducible refine (told_any _).mono ?_); rintro e wt ⟨rfl, hge⟩; have HGE := Lib.hid hge; clear hge)
        go_ret
        exact ⟨rfl, Grow.below (HST.out.k.trans HGE.out)⟩
      · obtain rfl : j = 100 := by have := HM'.out; omega
        simp only [Int.cast_ofNat_Int]
        have hlz : (100 : Int) < (len0 : Int) := by omega
        go_wp2_with (go_at_call 10; (with_reducible refine (told_any _).mono ?_); rintro e wt ⟨rfl, hge⟩; have HGE := Lib.hid hge; clear hge)
        go_ret
        exact ⟨rfl, Grow.below (HST.out.k.trans HGE.out)⟩

/-! ### THE ROW's STEP: WRITTEN OUT: LEAVE IT -/
set_option maxRecDepth 100000 in
theorem lifted (os : Os) (started : os.Started) (H : Type) (enc : TypeId × Value → H) :
    ReturnsInHanded {} Try.checked os 3 .any (Rows.latchFairSpec.pre6 enc Try.prog Try.f3 Rows.latchFairRow.domain false) (Rows.latchFairSpec.post enc Try.prog Try.f3 false true false false) := by
  refine returnsInHanded_of_change (C := Try.checked) own started (by kernel_rfl) Try.func3
    (ChangeSpec.witness6 (enc := enc) (C := Try.checked) false ⟨#[], #[.slice none 0 0], []⟩ 8 (by kernel_rfl) (by kernel_rfl) (by kernel_rfl) (by kernel_rfl)) ?_
  intro W base args ds gs before hval0 hW hcnd _
  have hval : ∀ (j : Nat) t v, Try.f3.params[j]? = some t → args[j]? = some v → Value.okWide Try.prog W .any base t v := hval0
  have hW' := hW
  obtain ⟨p, q, hA0, hV, rfl, hfz, hnd⟩ := hW
  have hA : DataW.TrodAll enc Try.prog W 0 (fun _ => true) true Try.f3.params.toList args.toList ds p := hA0
  rw [Try.params3] at hA hval
  obtain ⟨v0, vs0, d0, ds0, p0, q0, hargs, rfl, rfl, h0, r0⟩ := trodAll_cons hA
  obtain ⟨rfl, rfl, rfl⟩ := trodAll_nil r0
  obtain rfl : args = #[v0] := by cases args; simp_all
  obtain ⟨rfl, rfl⟩ := trodVars_none hV
  obtain ⟨a0, len0, cap0, rfl⟩ := okWide_slice Try.underlying22 (hval 0 22 v0 rfl rfl)
  have k0 := h0
  have lt0 : ∀ x ∈ p0, x.block < W.heap.size := by obtain ⟨m, hm⟩ := k0; exact DataW.trod_lt m _ _ _ hm
  have w0 : OpsAt W a0 len0 cap0 := by obtain ⟨fuel, hf⟩ := h0; exact ops_open hf
  clear hA0 hval0
  refine (walk a0 len0 cap0 W w0).mono fun e W' ⟨he, bel⟩ => ?_
  subst he
  exact ⟨_, rfl, _, _, _, [], _, [], hW', trodAll_mk1 (shut_bool Try.underlying4 _), (trodAll_cons_mk (Below.trod laidOut (by kernel_rfl) (of_decide_eq_true (by kernel_rfl)) k0 bel lt0) trodAll_mk0), rfl, bel.frame _, fun h => by cases h⟩

theorem over : Rows.latchFairRow.holds Try.pinned (OpenSpec.ofChange Rows.latchFairSpec) :=
  OpenClaim.holds_of_wide 3 Try.f3 rfl rfl rfl rfl rfl rfl rfl ⟨rfl, rfl, rfl, rfl, rfl⟩ rfl rfl rfl rfl rfl (by kernel_rfl) Try.func3 (by kernel_rfl)
    (of_decide_eq_true (by kernel_rfl)) (by unfold Func.isWrapper; first | (rw [if_pos (by decide +kernel)]; kernel_rfl) | (rw [if_neg (by decide +kernel)]; exact ⟨rfl, rfl⟩))
    (fun os started H enc _ => lifted os started H enc)

/-- ████ THE STATEMENT ████ -/
theorem proved : Rows.LatchFairSaid := over
#print axioms proved
end Go.Proofs.Ytpdmncdbimdfaaa.latchFair
