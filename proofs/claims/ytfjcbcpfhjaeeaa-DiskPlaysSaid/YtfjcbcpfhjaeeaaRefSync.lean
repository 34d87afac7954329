/-
  The document's own answer of chapter 3, more: Sync.
-/
import Derived.Test.YtfjcbcpfhjaeeaaRefMore
namespace Go.Proofs.Ytfjcbcpfhjaeeaa.RefY
open Go.ChangeShapes Go.WideShapes Go.ChangeAt Go.RowKit
open Go.Proofs.Ytfjcbcpfhjaeeaa.SumM Go.Proofs.Ytfjcbcpfhjaeeaa.Mem Go.Proofs.Ytfjcbcpfhjaeeaa.Blk Go.Proofs.Ytfjcbcpfhjaeeaa.PageM Go.Proofs.Ytfjcbcpfhjaeeaa.Str Go.Proofs.Ytfjcbcpfhjaeeaa.Dev Go.Proofs.Ytfjcbcpfhjaeeaa.LibC Go.Proofs.Ytfjcbcpfhjaeeaa.DevC Go.Proofs.Ytfjcbcpfhjaeeaa.DevM Go.Proofs.Ytfjcbcpfhjaeeaa.DevY Go.Proofs.Ytfjcbcpfhjaeeaa.DevK Go.Proofs.Ytfjcbcpfhjaeeaa.DevX Go.Proofs.Ytfjcbcpfhjaeeaa.DevN Go.Proofs.Ytfjcbcpfhjaeeaa.Told3 Go.Proofs.Ytfjcbcpfhjaeeaa.DevS Go.Proofs.Ytfjcbcpfhjaeeaa.RefD Go.Proofs.Ytfjcbcpfhjaeeaa.RefM Go.Proofs.Ytfjcbcpfhjaeeaa.Stages

section
variable {w : World} {r : Rf} {S : Dv}

set_option maxHeartbeats 1000000 in
theorem rsync_any (h : RefAt w r S) (hn : (S.n : Int) < 9223372036854775807) (hbb : (S.bad : Int) < 9223372036854775807) :
    Calls Try.prog 17 #[.pointer (some ⟨r.m, 0, none⟩)] w (RefPost r w (.int .i64 (accC S)) (syncS S)) := by
  have H := Lib.hid h
  obtain ⟨t, h3, h4⟩ := h
  have c5 := h3.c5
  have hN := h3.size
  cases hd : S.down with
  | true =>
    rw [hd] at c5
    have HV : Hid (accC S = 12 ∧ syncS S = S) := ⟨accC_down hd, by unfold syncS; rw [accC_down hd, if_neg (by decide), accS_down hd]⟩
    clear h3 h4 hd hn hbb
    go_enter Try.func17, Try.ntmps17
    go_wp2
    go_ret
    exact ⟨by rw [HV.out.1]; rfl, by rw [HV.out.2]; exact H.out, Kept.refl _ _⟩
  | false =>
    rw [hd] at c5
    by_cases hb : S.bad = 1
    · have CA := Lib.hid (racc_hit H.out hd hn hb)
      have e9 : accC S = 9 := by rw [accC_up hd, if_pos hb]
      have HV : Hid (accC S = 9 ∧ syncS S = accS S) := ⟨e9, by unfold syncS; rw [e9, if_neg (by decide)]⟩
      clear h3 h4 hd hn hbb hb e9
      go_enter Try.func17, Try.ntmps17
      go_wp2_with (go_at_call 33; (with_reducible refine CA.out.mono ?_); rintro e w1 ⟨rfl, hdev, hk⟩; have HD := Lib.hid hdev; have HK := Lib.hid hk; clear hdev hk)
      go_ret
      exact ⟨by rw [HV.out.1]; rfl, by rw [HV.out.2]; exact HD.out, HK.out⟩
    · have CA := Lib.hid (racc_miss H.out hd hn hbb hb)
      have e0 : accC S = 0 := by rw [accC_up hd, if_neg hb]
      have HV : Hid (accC S = 0 ∧ syncS S = flushS (accS S)) := ⟨e0, by unfold syncS; rw [e0, if_pos rfl]⟩
      have HUP := Lib.hid (accS_up hd)
      rw [← accS_N] at hN
      clear h3 h4 hd hn hbb hb e0
      generalize accS S = U at *
      go_enter Try.func17, Try.ntmps17
      go_wp2_with (go_at_call 33; (with_reducible refine CA.out.mono ?_); rintro e w1 ⟨rfl, hdev, hk⟩; have HD := Lib.hid hdev; have HK := Lib.hid hk; clear hdev hk)
      obtain ⟨t', g3, g4⟩ := HD.out
      have HT := Lib.hid (g4 HUP.out.2.2)
      have H0 : Hid (Rows3 w1 r U.n U.bad U.N U.down (fun p => if p < 0 then t' p else U.dur p) t' (fun p => if p < 0 then false else (U.wr p).isSome)) := g3.congr (fun p _ => by show (if p < 0 then t' p else U.dur p) = U.dur p; rw [if_neg (by omega)]) (fun p _ => rfl) (fun p _ => by show (if p < 0 then false else (U.wr p).isSome) = (U.wr p).isSome; rw [if_neg (by omega)])
      clear g3 g4
      go_loopg [3] U.N (fun g i wr => ∃ j : Nat, j + g = U.N ∧ i = .int .i64 (j : Int) ∧ Rows3 wr r U.n U.bad U.N U.down (fun p => if p < j then t' p else U.dur p) t' (fun p => if p < j then false else (U.wr p).isSome) ∧ Kept (POwn r) w wr)
      case atStart => exact ⟨0, by omega, rfl, H0.out, HK.out⟩
      case round =>
        obtain ⟨j, hg, rfl, hr, hkk⟩ := hrel
        have HR := Lib.hid hr
        have HKK := Lib.hid hkk
        have HG := Lib.hid hg
        have c0 := hr.c0
        by_cases hj : j < U.N
        · have hjz : (j : Int) < (U.N : Int) := by omega
          have c1 := hr.c1
          have c2 := hr.c2
          have rT := hr.tail.cell (i := j) hj
          have rA := hr.safe.cell (i := j) hj
          have fA := hr.safe.frozen j
          have hne := hr.ne
          simp only [strV] at rT
          have q0 := up_cell (F := fun k => k = r.A ∨ k = r.V) (w := wr.drew) c0 (fun e => by rcases e with e | e; exact hne.1 e; exact hne.2.2.1 e)
          have q1 := up_cell (F := fun k => k = r.A ∨ k = r.V) (w := wr.drew) c1 (fun e => by rcases e with e | e; exact hne.1 e; exact hne.2.2.1 e)
          have q2 := up_cell (F := fun k => k = r.A ∨ k = r.V) (w := wr.drew) c2 (fun e => by rcases e with e | e; exact hne.1 e; exact hne.2.2.1 e)
          have q3 := up_cell (F := fun k => k = r.A ∨ k = r.V) (w := wr.drew) rT (fun e => by rcases e with e | e; exact hne.2.2.2.1 e.symm; exact hne.2.2.2.2.2 e)
          have HS1 := Lib.hid (hr.setA (k := j) (z := t' j) (hr.ok j hj).2)
          have HS2 := Lib.hid (HS1.out.setV (k := j) (b := false))
          have rV := HS1.out.wait.cell (i := j) hj
          have fV := HS1.out.wait.frozen j
          have HNX : Hid (Rows3 ((wr.setCell ⟨r.A, j, none⟩ (strV (t' j))).setCell ⟨r.V, j, none⟩ (.bool false)).drew r U.n U.bad U.N U.down (fun p => if p < j + 1 then t' p else U.dur p) t' (fun p => if p < j + 1 then false else (U.wr p).isSome)) := by
            refine (HS2.out.grow (Kept.drew' _)).congr (fun p _ => ?_) (fun p _ => rfl) (fun p _ => ?_)
            · show (if p < j + 1 then t' p else U.dur p) = (if p = j then t' j else if p < j then t' p else U.dur p)
              by_cases e : p = j
              · rw [if_pos (by omega), if_pos e, e]
              · by_cases e2 : p < j
                · rw [if_pos (by omega), if_neg e, if_pos e2]
                · rw [if_neg (by omega), if_neg e, if_neg e2]
            · show (if p < j + 1 then false else (U.wr p).isSome) = (if p = j then false else if p < j then false else (U.wr p).isSome)
              by_cases e : p = j
              · rw [if_pos (by omega), if_pos e]
              · by_cases e2 : p < j
                · rw [if_pos (by omega), if_neg e, if_pos e2]
                · rw [if_neg (by omega), if_neg e, if_neg e2]
          have HKX : Hid (Kept (POwn r) w ((wr.setCell ⟨r.A, j, none⟩ (strV (t' j))).setCell ⟨r.V, j, none⟩ (.bool false)).drew) := ((hkk.trans ((kept_set _ _ _ _).mono fun _ _ e => .inr (.inl e))).trans ((kept_set _ _ _ _).mono fun _ _ e => .inr (.inr (.inr e)))).drew
          simp only [strV] at rA rV fV HNX HKX
          clear hr hkk hg c1 c2 hne rT HS1 HS2
          go_upto_region 8 with (fail)
          refine wp_region_stages (Kept fun k => k = r.A ∨ k = r.V) (kept_refl _) (kept_trans _) [([0, 1, 2, 3, 4, 5, 6, 7, 8, 9, 10, 11, 12, 13, 14, 15, 16, 17], 18), ([19], 20)] [] (by kernel_rfl) (by kernel_rfl) ?_
          simp only [selSt, sel, List.map_cons, List.map_nil, List.getD_cons_succ, List.getD_cons_zero]
          refine st_cons fun K1 hK1 => ?_
          repeat (go_big_quiet_step (fail))
          refine wpQuiet_nil ?_
          clear q0 q1 q2 q3
          go_wp2
          refine norm_up (hK1 _ _ ((kept_set _ _ _ _).mono fun _ _ e => .inl e) ?_)
          clear hK1 K1
          refine st_cons fun K2 hK2 => ?_
          repeat (go_big_quiet_step (fail))
          refine wpQuiet_nil ?_
          go_wp2
          refine norm_up (hK2 _ _ ((kept_set _ _ _ _).mono fun _ _ e => .inr e) (st_nil fun K3 hK3 => wpQuiet_nil (hK3 _ ?_)))
          clear hK2 K2 K3 hK3 rA rV fA fV
          go_wp2
          go_roundg (U.N - (j + 1))
          case measure => have := HG.out; omega
          case rel => exact ⟨j + 1, by omega, by go_num, HNX.out, HKX.out⟩
        · have hjN : j = U.N := by omega
          subst hjN
          have HFIN : Hid (RefAt wr r (flushS U)) := by
            refine ⟨t', hr.congr (fun p hp => ?_) (fun p _ => rfl) (fun p hp => ?_), fun _ p hp => HT.out p hp⟩
            · show cur U p = (if p < U.N then t' p else U.dur p)
              rw [if_pos hp, HT.out p hp]
            · show false = (if p < U.N then false else (U.wr p).isSome)
              rw [if_pos hp]
          clear hr hkk hg
          go_wp2
          go_ret
          exact ⟨by rw [HV.out.1]; rfl, by rw [HV.out.2]; exact HFIN.out, HKK.out⟩
end
end Go.Proofs.Ytfjcbcpfhjaeeaa.RefY
