/-
  Package latch: mayWait, May.
-/
import Derived.Test.YtpdmncdbimdfaaaLatMay
namespace Go.Proofs.Ytpdmncdbimdfaaa.LatZ
open Go.ChangeShapes Go.WideShapes Go.ChangeAt Go.RowKit
open Go.Proofs.Ytpdmncdbimdfaaa.Mem Go.Proofs.Ytpdmncdbimdfaaa.Blk Go.Proofs.Ytpdmncdbimdfaaa.Cells Go.Proofs.Ytpdmncdbimdfaaa.GsC Go.Proofs.Ytpdmncdbimdfaaa.LatM Go.Proofs.Ytpdmncdbimdfaaa.LatC Go.Proofs.Ytpdmncdbimdfaaa.LatY Go.Proofs.Ytpdmncdbimdfaaa.Stages

/-- Who of the first j that wait has been met. -/
def seen (Q : List Int) (j i : Nat) : Bool := decide ((i : Int) ∈ (Q.take j).map who)
theorem seen_zero (Q : List Int) (i : Nat) : seen Q 0 i = false := by unfold seen; simp
theorem seen_step {Q : List Int} {j : Nat} (hj : j < Q.length) {t : Nat} (ht : who (Q.getD j 0) = (t : Int)) (i : Nat) : seen Q (j + 1) i = if i = t then true else seen Q j i := by
  have e : Q.getD j 0 = Q[j] := by rw [List.getD_eq_getElem?_getD, List.getElem?_eq_getElem hj]; rfl
  unfold seen
  rw [List.take_succ_eq_append_getElem hj, List.map_append]
  rw [e] at ht
  by_cases h : i = t
  · subst h
    rw [if_pos rfl]
    simp [ht]
  · rw [if_neg h]
    have : ¬ (i : Int) = (t : Int) := by omega
    simp [ht, this]
theorem seen_not {Q : List Int} (hn : (Q.map who).Nodup) {j : Nat} (hj : j < Q.length) {t : Nat} (ht : who (Q.getD j 0) = (t : Int)) : seen Q j t = false := by
  have e : Q.getD j 0 = Q[j] := by rw [List.getD_eq_getElem?_getD, List.getElem?_eq_getElem hj]; rfl
  unfold seen
  rw [decide_eq_false]
  intro hm
  have h1 : Q.map who = (Q.take j).map who ++ (Q.drop j).map who := by rw [← List.map_append, List.take_append_drop]
  rw [h1, List.nodup_append] at hn
  refine hn.2.2 _ hm (t : Int) ?_ rfl
  rw [List.drop_eq_getElem_cons hj, List.map_cons, ← e, ht]
  simp

/-- Nobody waits who need not. -/
def settled (L : La) : Bool := decide (L.Q.length = 0) || !gives L.W L.R (L.Q.getD 0 0)
theorem settled_good {L : La} (h : LatM.Good L) : settled L = true := by
  unfold settled
  cases e : L.Q with
  | nil => rfl
  | cons q Q => rw [List.getD_cons_zero, h.first q Q e]; simp
section
variable {w w' : World} {L : La} {v : Value}
theorem LatV.kept {F : Nat → Prop} (h : LatV w L v) (hk : Kept F w w') (hF : ∀ k, k < w.heap.size → ¬ F k) : LatV w' L v :=
  LatV.grow h (hk.mono fun k h1 h2 => hF k h1 h2)
theorem row_false (w : World) (t : TypeId) : Row (w.alloc (.cells #[Value.bool false, Value.bool false, Value.bool false, Value.bool false, Value.bool false, Value.bool false, Value.bool false, Value.bool false, Value.bool false, Value.bool false, Value.bool false, Value.bool false, Value.bool false, Value.bool false, Value.bool false, Value.bool false, Value.bool false, Value.bool false, Value.bool false, Value.bool false, Value.bool false, Value.bool false, Value.bool false, Value.bool false, Value.bool false, Value.bool false, Value.bool false, Value.bool false, Value.bool false, Value.bool false, Value.bool false, Value.bool false, Value.bool false, Value.bool false, Value.bool false, Value.bool false, Value.bool false, Value.bool false, Value.bool false, Value.bool false, Value.bool false, Value.bool false, Value.bool false, Value.bool false, Value.bool false, Value.bool false, Value.bool false, Value.bool false, Value.bool false, Value.bool false, Value.bool false, Value.bool false, Value.bool false, Value.bool false, Value.bool false, Value.bool false, Value.bool false, Value.bool false, Value.bool false, Value.bool false, Value.bool false, Value.bool false, Value.bool false, Value.bool false] t)) w.heap.size 64 (fun _ => .bool false) := by
  refine Row.of_blk (Blk.new w t (List.replicate 64 (.bool false))) rfl fun i hi => ?_
  rw [List.getElem?_replicate, if_pos hi]
theorem mayWait_any (h : LatV w L v) (hp : Pre L.W L.R L.Q) :
    Calls Try.prog 24 #[v] w fun e w' => e = .returned (.bool (settled L)) ∧ Grow w w' := by
  have hR := hp.lenR
  have hQ := hp.lenQ
  have hQz : (L.Q.length : Int) ≤ 64 := by omega
  have HH := Lib.hid fun (w' : World) (hk : Grow w w') (t : Int) => has_any (h.grow hk) t (by omega)
  have HGV := Lib.hid fun (w' : World) (hk : Grow w w') (q : Int) (h1 : -1000 ≤ q) (h2 : q ≤ 1000) => gives_any (h.grow hk) q h1 h2 (by omega)
  have HW := Lib.hid fun (w : World) (q : Int) (h1 : -1000 ≤ q) (h2 : q ≤ 1000) => who_any (w := w) q h1 h2
  have HT := Lib.hid fun (w : World) (t : Int) => isTask_any (w := w) t
  have HP := Lib.hid hp
  have HX : Hid (∀ j, j < L.Q.length → ∃ T : Nat, who (L.Q.getD j 0) = (T : Int) ∧ T < 64 ∧ task (who (L.Q.getD j 0)) = true ∧ L.has (who (L.Q.getD j 0)) = false ∧ -1000 ≤ L.Q.getD j 0 ∧ L.Q.getD j 0 ≤ 1000) := fun j hj => by
    have hm := get_mem hj
    have h1 := HP.out.q _ hm
    have h2 := task_iff.1 h1
    have h3 := HP.out.qB _ hm
    have h4 := HP.out.no _ hm
    refine ⟨(who (L.Q.getD j 0)).toNat, by omega, by omega, h1, ?_, by omega, by omega⟩
    cases e : L.has (who (L.Q.getD j 0)) with
    | false => rfl
    | true =>
      rcases (has_iff HP.out).1 e with ⟨_, h | h⟩
      · exact absurd h.symm h4.1
      · exact absurd h h4.2
  have HSN := Lib.hid fun (j : Nat) (hj : j < L.Q.length) (t : Nat) => seen_not HP.out.nd hj (t := t)
  have HSS := Lib.hid fun (j : Nat) (hj : j < L.Q.length) (t : Nat) => seen_step (Q := L.Q) hj (t := t)
  have HST : Hid (settled L = (decide (L.Q.length = 0) || !gives L.W L.R (L.Q.getD 0 0))) := rfl
  obtain ⟨A, c, A', c', rfl, _, hs, _, _⟩ := h
  have HS := Lib.hid hs
  clear hs hp
  go_enter Try.func24, Try.ntmps24
  go_upto_region 2 with (fail)
  have hb1 := Blk.new w 25 [.int .i64 L.W, .slice A L.R.length c, .slice A' L.Q.length c']
  have hg1 : Grow w (w.alloc (.cells #[.int .i64 L.W, .slice A L.R.length c, .slice A' L.Q.length c'] 25)) := (Kept.refl _ _).alloc _
  have hsz : (w.alloc (.cells #[.int .i64 L.W, .slice A L.R.length c, .slice A' L.Q.length c'] 25)).heap.size = w.heap.size + 1 := by simp
  generalize w.alloc (.cells #[.int .i64 L.W, .slice A L.R.length c, .slice A' L.Q.length c'] 25) = w1 at *
  have hr2 := row_false w1 55
  have hg2 : Grow w1 (w1.alloc (.cells #[Value.bool false, Value.bool false, Value.bool false, Value.bool false, Value.bool false, Value.bool false, Value.bool false, Value.bool false, Value.bool false, Value.bool false, Value.bool false, Value.bool false, Value.bool false, Value.bool false, Value.bool false, Value.bool false, Value.bool false, Value.bool false, Value.bool false, Value.bool false, Value.bool false, Value.bool false, Value.bool false, Value.bool false, Value.bool false, Value.bool false, Value.bool false, Value.bool false, Value.bool false, Value.bool false, Value.bool false, Value.bool false, Value.bool false, Value.bool false, Value.bool false, Value.bool false, Value.bool false, Value.bool false, Value.bool false, Value.bool false, Value.bool false, Value.bool false, Value.bool false, Value.bool false, Value.bool false, Value.bool false, Value.bool false, Value.bool false, Value.bool false, Value.bool false, Value.bool false, Value.bool false, Value.bool false, Value.bool false, Value.bool false, Value.bool false, Value.bool false, Value.bool false, Value.bool false, Value.bool false, Value.bool false, Value.bool false, Value.bool false, Value.bool false] 55)) := (Kept.refl _ _).alloc _
  generalize w1.alloc (.cells #[Value.bool false, Value.bool false, Value.bool false, Value.bool false, Value.bool false, Value.bool false, Value.bool false, Value.bool false, Value.bool false, Value.bool false, Value.bool false, Value.bool false, Value.bool false, Value.bool false, Value.bool false, Value.bool false, Value.bool false, Value.bool false, Value.bool false, Value.bool false, Value.bool false, Value.bool false, Value.bool false, Value.bool false, Value.bool false, Value.bool false, Value.bool false, Value.bool false, Value.bool false, Value.bool false, Value.bool false, Value.bool false, Value.bool false, Value.bool false, Value.bool false, Value.bool false, Value.bool false, Value.bool false, Value.bool false, Value.bool false, Value.bool false, Value.bool false, Value.bool false, Value.bool false, Value.bool false, Value.bool false, Value.bool false, Value.bool false, Value.bool false, Value.bool false, Value.bool false, Value.bool false, Value.bool false, Value.bool false, Value.bool false, Value.bool false, Value.bool false, Value.bool false, Value.bool false, Value.bool false, Value.bool false, Value.bool false, Value.bool false, Value.bool false] 55) = w2 at *
  rw [hsz] at hr2
  have HB := Lib.hid (hb1.grow hg2)
  have HG2 := Lib.hid (hg1.trans hg2)
  have hc2 := HB.out.cell 2
  clear hb1 hg1 hg2 hsz
  have HR2 := Lib.hid hr2
  clear hr2
  go_wp2
  clear hc2
  go_loopg [10] L.Q.length (fun gx i wr => ∃ j : Nat, j + gx = L.Q.length ∧ i = .int .i64 (j : Int) ∧ Row wr (w.heap.size + 1) 64 (fun i => .bool (seen L.Q j i)) ∧ Blk wr w.heap.size 25 [.int .i64 L.W, .slice A L.R.length c, .slice A' L.Q.length c'] ∧ Grow w wr)
  case atStart => exact ⟨0, by omega, rfl, HR2.out.congr fun i _ => by rw [seen_zero], HB.out, HG2.out⟩
  case round =>
    obtain ⟨j, hg, rfl, hrow, hbx, hgr⟩ := hrel
    have HG := Lib.hid hg
    have HRW := Lib.hid hrow
    have HBX := Lib.hid hbx
    have HGW := Lib.hid hgr
    clear hg hrow hbx hgr
    by_cases hj : j < L.Q.length
    · have hjz : (j : Int) < (L.Q.length : Int) := by omega
      obtain ⟨b, o, rfl, _, hc⟩ := HS.out.at_ (by omega)
      have r1 := HGW.out.cellN (hc j hj) id
      obtain ⟨T, hT, hT64, htask, hhas, hlo, hhi⟩ := HX.out j hj
      have hTz : (T : Int) < 64 := by omega
      have r2 := HRW.out.cell hT64
      rw [HSN.out j hj T hT] at r2
      have f2 := HRW.out.frozen T
      have HSTEP := Lib.hid (HSS.out j hj T hT)
      have HW1 := Lib.hid fun (w : World) => HW.out w _ hlo hhi
      have HT1 := Lib.hid fun (w : World) => HT.out w (who (L.Q.getD j 0))
      have HH1 := Lib.hid fun (w' : World) (hk : Grow w w') => HH.out w' hk (who (L.Q.getD j 0))
      rw [hhas] at HH1
      rw [htask] at HT1
      rw [hT] at HW1 HT1 HH1
      have k0 := HBX.out.cell 0
      have k1 := HBX.out.cell 1
      have k2 := HBX.out.cell 2
      simp only [List.getElem?_cons_zero, List.getElem?_cons_succ] at k0 k1 k2
      clear hc hT htask hhas hlo hhi
      generalize L.Q.getD j 0 = y at *
      go_wp2_with (first
        | (go_at_call 26; (with_reducible refine (HW1.out _).mono ?_); rintro e w' ⟨rfl, rfl⟩)
        | (go_at_call 18; (with_reducible refine (HT1.out _).mono ?_); rintro e w' ⟨rfl, rfl⟩)
        | (go_at_call 9; (with_reducible refine (HH1.out _ HGW.out).mono ?_); rintro e wh ⟨rfl, hh⟩; have HGH := Lib.hid hh; clear hh; have f2' := (HRW.out.kept HGH.out id).frozen T; have r2' := (HRW.out.kept HGH.out id).cell hT64))
      go_roundg (gk - 1)
      case measure => have := HG.out; omega
      case rel =>
        refine ⟨j + 1, by have := HG.out; omega, by go_num, ((HRW.out.kept HGH.out id).set T (.bool true)).congr fun i _ => ?_, (HBX.out.grow HGH.out).other (by show w.heap.size ≠ w.heap.size + 1; omega) _, (HGW.out.trans HGH.out).setCell (fun h => absurd h (by show ¬ (w.heap.size + 1 < w.heap.size); omega)) _⟩
        rw [HSTEP.out i]
        by_cases e : i = T
        · rw [if_pos e, if_pos e]
        · rw [if_neg e, if_neg e]
    · obtain rfl : j = L.Q.length := by have := HG.out; omega
      clear hj
      have k0 := HBX.out.cell 0
      have k1 := HBX.out.cell 1
      have k2 := HBX.out.cell 2
      simp only [List.getElem?_cons_zero, List.getElem?_cons_succ] at k0 k1 k2
      have q0 := up_cell (F := fun _ => False) (w := wr.drew) k0 id
      have q1 := up_cell (F := fun _ => False) (w := wr.drew) k1 id
      have q2 := up_cell (F := fun _ => False) (w := wr.drew) k2 id
      clear k0 k1 k2
      by_cases hz : L.Q.length = 0
      · have HE : Hid (settled L = true) := by
          show _ = _
          rw [HST.out, hz]; rfl
        clear HX HSN HSS HST HH HGV HP HS HBX HG HB HR2 HRW hQ hQz
        generalize L.Q.length = n at *
        subst hz
        simp only [Int.natCast_zero, Int.cast_ofNat_Int] at *
        go_upto_region 10 with (fail)
        refine wp_region_stages Grow (kept_refl _) (kept_trans _) [([0, 1, 2, 3, 4, 5, 6, 7, 8, 9], 10)] [11, 12, 13] (by kernel_rfl) (by kernel_rfl) ?_
        simp only [selSt, sel, List.map_cons, List.map_nil, List.getD_cons_succ, List.getD_cons_zero]
        refine st_cons fun K1 hK1 => ?_
        repeat (go_big_quiet_step (fail))
        refine wpQuiet_nil ?_
        go_wp2
        refine norm_up (hK1 _ _ (Kept.refl _ _) (st_nil fun K2 hK2 => ?_))
        repeat (go_big_quiet_step (fail))
        refine wpQuiet_nil (hK2 _ ?_)
        go_wp2
        go_ret
        exact ⟨by rw [HE.out]; rfl, HGW.out.drew⟩
      · obtain ⟨_, _, _, _, _, hlo, hhi⟩ := HX.out 0 (by omega)
        have HE : Hid (settled L = !gives L.W L.R (L.Q.getD 0 0)) := by
          show _ = _
          rw [HST.out, decide_eq_false hz]; rfl
        have HG1 := Lib.hid fun (w' : World) (hk : Grow w w') => HGV.out w' hk _ hlo hhi
        obtain ⟨b, o, rfl, _, hc⟩ := HS.out.at_ (by omega)
        have hc0 := hc 0 (by omega)
        rw [Nat.add_zero] at hc0
        have q3 := up_cell (F := fun _ => False) (w := wr.drew) (HGW.out.cellN hc0 id) id
        clear hc0
        have hz1 : 0 < L.Q.length := by omega
        have hz2 : (0 : Int) < (L.Q.length : Int) := by omega
        have hz3 : ((L.Q.length : Int) == 0) = false := beq_eq_false_iff_ne.2 (by omega)
        have hz4 : (L.Q.length == 0) = false := beq_eq_false_iff_ne.2 (by omega)
        clear hc hlo hhi
        generalize gives L.W L.R (L.Q.getD 0 0) = G at *
        generalize L.Q.getD 0 0 = y at *
        generalize L.Q.length = n at *
        go_upto_region 10 with (fail)
        refine wp_region_stages Grow (kept_refl _) (kept_trans _) [([0, 1, 2, 3, 4, 5, 6, 7, 8, 9], 10)] [11, 12, 13] (by kernel_rfl) (by kernel_rfl) ?_
        simp only [selSt, sel, List.map_cons, List.map_nil, List.getD_cons_succ, List.getD_cons_zero]
        refine st_cons fun K1 hK1 => ?_
        repeat (go_big_quiet_step (fail))
        refine wpQuiet_nil ?_
        go_wp2_with (go_at_call 27; (with_reducible refine (HG1.out _ HGW.out.drew).mono ?_); rintro e wg ⟨rfl, hg⟩; have HGG := Lib.hid hg; clear hg)
        refine norm_up (hK1 _ _ HGG.out (st_nil fun K2 hK2 => ?_))
        repeat (go_big_quiet_step (fail))
        refine wpQuiet_nil (hK2 _ ?_)
        go_wp2
        go_ret
        exact ⟨by rw [HE.out]; rfl, HGW.out.drew.trans HGG.out⟩

theorem may_any (h : LatV w L v) (hp : Pre L.W L.R L.Q) :
    Calls Try.prog 14 #[v] w fun e w' => e = .returned (.bool (settled L)) ∧ Grow w w' := by
  have HH := Lib.hid fun (w' : World) (hk : Grow w w') => mayHold_good (h.grow hk) hp
  have HW := Lib.hid fun (w' : World) (hk : Grow w w') => mayWait_any (h.grow hk) hp
  obtain ⟨A, c, A', c', rfl, _, _, _, _⟩ := h
  generalize settled L = G at *
  generalize L.Q.length = m at *
  generalize L.R.length = n at *
  generalize L.W = W at *
  clear hp
  go_enter Try.func14, Try.ntmps14
  go_upto_region 1 with (fail)
  have hb1 := Blk.new w 25 [.int .i64 W, .slice A n c, .slice A' m c']
  have hg1 : Grow w (w.alloc (.cells #[.int .i64 W, .slice A n c, .slice A' m c'] 25)) := (Kept.refl _ _).alloc _
  generalize w.alloc (.cells #[.int .i64 W, .slice A n c, .slice A' m c'] 25) = w1 at *
  have HB := Lib.hid hb1
  have HG1 := Lib.hid hg1
  have k0 := hb1.cell 0
  have k1 := hb1.cell 1
  have k2 := hb1.cell 2
  simp only [List.getElem?_cons_zero, List.getElem?_cons_succ] at k0 k1 k2
  clear hb1 hg1
  go_wp2_with (first
    | (go_at_call 23; (with_reducible refine (HH.out _ HG1.out).mono ?_); rintro e w2 ⟨rfl, hg⟩; have HG2 := Lib.hid hg; clear hg k0 k1 k2; have k0 := (HB.out.grow HG2.out).cell 0; have k1 := (HB.out.grow HG2.out).cell 1; have k2 := (HB.out.grow HG2.out).cell 2; simp only [List.getElem?_cons_zero, List.getElem?_cons_succ] at k0 k1 k2)
    | (go_at_call 24; (with_reducible refine (HW.out _ (HG1.out.trans HG2.out)).mono ?_); rintro e w3 ⟨rfl, hg⟩; have HG3 := Lib.hid hg; clear hg))
  go_ret
  exact ⟨rfl, (HG1.out.trans HG2.out).trans HG3.out⟩
end
end Go.Proofs.Ytpdmncdbimdfaaa.LatZ
