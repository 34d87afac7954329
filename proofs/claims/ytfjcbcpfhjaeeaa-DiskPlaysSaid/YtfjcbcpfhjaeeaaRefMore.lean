/-
  The document's own answer of chapter 3, more: Read, Write, Sync, Waits.
-/
import Derived.Test.YtfjcbcpfhjaeeaaRefDev
namespace Go.Proofs.Ytfjcbcpfhjaeeaa.RefM
open Go.ChangeShapes Go.WideShapes Go.ChangeAt Go.RowKit
open Go.Proofs.Ytfjcbcpfhjaeeaa.SumM Go.Proofs.Ytfjcbcpfhjaeeaa.Mem Go.Proofs.Ytfjcbcpfhjaeeaa.Blk Go.Proofs.Ytfjcbcpfhjaeeaa.PageM Go.Proofs.Ytfjcbcpfhjaeeaa.Str Go.Proofs.Ytfjcbcpfhjaeeaa.Dev Go.Proofs.Ytfjcbcpfhjaeeaa.LibC Go.Proofs.Ytfjcbcpfhjaeeaa.DevC Go.Proofs.Ytfjcbcpfhjaeeaa.DevM Go.Proofs.Ytfjcbcpfhjaeeaa.DevY Go.Proofs.Ytfjcbcpfhjaeeaa.DevK Go.Proofs.Ytfjcbcpfhjaeeaa.DevX Go.Proofs.Ytfjcbcpfhjaeeaa.DevN Go.Proofs.Ytfjcbcpfhjaeeaa.Told3 Go.Proofs.Ytfjcbcpfhjaeeaa.DevS Go.Proofs.Ytfjcbcpfhjaeeaa.RefD Go.Proofs.Ytfjcbcpfhjaeeaa.Stages

theorem accC_down {S : Dv} (h : S.down = true) : accC S = 12 := by unfold accC; rw [h]; rfl
theorem accS_down {S : Dv} (h : S.down = true) : accS S = S := by unfold accS; rw [h]; rfl
theorem str_nil : strOfNums [] = ⟨#[]⟩ := rfl

section
variable {w : World} {r : Rf} {S : Dv}

set_option maxHeartbeats 1000000 in
set_option maxRecDepth 100000 in
theorem rread_any (h : RefAt w r S) (p : Int) (hlo : -9223372036854775808 ≤ p) (hhi : p < 9223372036854775808) (hn : (S.n : Int) < 9223372036854775807) (hbb : (S.bad : Int) < 9223372036854775807) :
    Calls Try.prog 12 #[.pointer (some ⟨r.m, 0, none⟩), .int .i64 p] w (RefPost r w (.tuple #[.string (strOfNums (readB S p)), .int .i64 (readC S p)]) (readS S p)) := by
  have H := Lib.hid h
  obtain ⟨t, h3, h4⟩ := h
  have c0 := h3.c0
  have c5 := h3.c5
  have hN := h3.size
  by_cases hp : 0 ≤ p ∧ p < (S.N : Int)
  · obtain ⟨hp0, hp1⟩ := hp
    have hh : hasI S p = true := by simp [hasI, hp0, hp1]
    have hrc : readC S p = accC S := by unfold readC; rw [hh]; rfl
    have hrs : readS S p = accS S := by unfold readS; rw [hh]; rfl
    cases hd : S.down with
    | true =>
      rw [hd] at c5
      have HV : Hid (readB S p = [] ∧ readC S p = 12 ∧ readS S p = S) := by
        have e : readC S p = 12 := by rw [hrc, accC_down hd]
        refine ⟨?_, e, by rw [hrs, accS_down hd]⟩
        unfold readB; rw [e, if_neg (by decide)]
      clear h3 h4 hh hrc hrs hd
      generalize S.N = N at *
      have hge : decide ((N : Int) ≤ p) = false := by rw [decide_eq_false_iff_not]; omega
      clear hp1
      clear hn hbb
      go_enter Try.func12, Try.ntmps12
      go_wp2
      go_ret2
      exact ⟨by rw [HV.out.1, HV.out.2.1]; rfl, by rw [HV.out.2.2]; exact H.out, Kept.refl _ _⟩
    | false =>
      rw [hd] at c5
      by_cases hb : S.bad = 1
      · have CA := Lib.hid (racc_hit H.out hd hn hb)
        have HV : Hid (readB S p = [] ∧ readC S p = 9 ∧ readS S p = accS S) := by
          have e : readC S p = 9 := by rw [hrc, accC_up hd, if_pos hb]
          refine ⟨?_, e, hrs⟩
          unfold readB; rw [e, if_neg (by decide)]
        clear h3 h4 hh hrc hrs hd hb
        generalize S.N = N at *
        have hge : decide ((N : Int) ≤ p) = false := by rw [decide_eq_false_iff_not]; omega
        clear hp1
        clear hn hbb
        go_enter Try.func12, Try.ntmps12
        go_wp2_with (go_at_call 33; (with_reducible refine CA.out.mono ?_); rintro e w1 ⟨rfl, hdev, hk⟩; have HD := Lib.hid hdev; have HK := Lib.hid hk; clear hdev hk)
        go_ret2
        exact ⟨by rw [HV.out.1, HV.out.2.1]; rfl, by rw [HV.out.2.2]; exact HD.out, HK.out⟩
      · have CA := Lib.hid (racc_miss H.out hd hn hbb hb)
        obtain ⟨k, rfl⟩ := Int.eq_ofNat_of_zero_le hp0
        have hk : k < S.N := by omega
        have HV : Hid (readB S (k : Int) = cur S k ∧ readC S (k : Int) = 0 ∧ readS S (k : Int) = accS S) := by
          have e : readC S (k : Int) = 0 := by rw [hrc, accC_up hd, if_neg hb]
          refine ⟨?_, e, hrs⟩
          unfold readB; rw [e, if_pos rfl]; rfl
        have HK' := Lib.hid hk
        have HUP := Lib.hid (accS_up hd)
        clear h3 h4 hh hrc hrs hb hd hk
        generalize hNN : S.N = N at c0 hN hp1
        have HNN := Lib.hid hNN
        clear hNN
        have hge : decide (N ≤ k) = false := by rw [decide_eq_false_iff_not]; omega
        have HP1 := Lib.hid hp1
        clear hhi hlo
        clear hp1
        clear hn hbb
        go_enter Try.func12, Try.ntmps12
        go_upto_region 7 with (go_at_call 33; (with_reducible refine CA.out.mono ?_); rintro e w1 ⟨rfl, hdev, hk⟩; have HD := Lib.hid hdev; have HK := Lib.hid hk; clear hdev hk)
        obtain ⟨t', g3, g4⟩ := HD.out
        have hkz := HP1.out
        have c1 := g3.c1
        have r1 := g3.tail.cell (i := k) (by rw [accS_N]; exact HK'.out)
        simp only [strV, g4 HUP.out.2.2 k (by rw [accS_N]; exact HK'.out), cur_acc] at r1
        rw [accS_N, HNN.out] at c1
        clear g3 g4
        go_wp2
        go_ret2
        exact ⟨by rw [HV.out.1, HV.out.2.1]; rfl, by rw [HV.out.2.2]; exact HD.out, HK.out⟩
  · have hh : hasI S p = false := by
      rw [← Bool.not_eq_true]
      simpa [hasI] using hp
    have HV : Hid (readB S p = [] ∧ readC S p = 1 ∧ readS S p = S) := by
      have e : readC S p = 1 := by unfold readC; rw [hh]; rfl
      refine ⟨?_, e, by unfold readS; rw [hh]; rfl⟩
      unfold readB; rw [e, if_neg (by decide)]
    by_cases hp0 : 0 ≤ p
    · have hp1 : (S.N : Int) ≤ p := by omega
      clear h3 h4 hh hp
      generalize S.N = N at *
      clear hn hbb
      go_enter Try.func12, Try.ntmps12
      go_wp2
      go_ret2
      exact ⟨by rw [HV.out.1, HV.out.2.1]; rfl, by rw [HV.out.2.2]; exact H.out, Kept.refl _ _⟩
    · have hp1 : p < 0 := by omega
      clear h3 h4 hh hp hp0
      generalize S.N = N at *
      clear hn hbb
      go_enter Try.func12, Try.ntmps12
      go_wp2
      go_ret2
      exact ⟨by rw [HV.out.1, HV.out.2.1]; rfl, by rw [HV.out.2.2]; exact H.out, Kept.refl _ _⟩

set_option maxHeartbeats 1000000 in
set_option maxRecDepth 100000 in
theorem rwrite_any (h : RefAt w r S) (p : Int) (zs : List Int) (hlo : -9223372036854775808 ≤ p) (hhi : p < 9223372036854775808) (hm : zs.length ≤ maxLen) (hn : (S.n : Int) < 9223372036854775807) (hbb : (S.bad : Int) < 9223372036854775807) :
    Calls Try.prog 15 #[.pointer (some ⟨r.m, 0, none⟩), .int .i64 p, .string (strOfNums zs)] w (RefPost r w (.int .i64 (writeC S p zs.length)) (writeS S p zs)) := by
  unfold maxLen at hm
  have H := Lib.hid h
  obtain ⟨t, h3, h4⟩ := h
  have c0 := h3.c0
  have c5 := h3.c5
  have hN := h3.size
  have hsz : (strOfNums zs).size = zs.length := strOfNums_size zs
  by_cases hp : 0 ≤ p ∧ p < (S.N : Int)
  · obtain ⟨hp0, hp1⟩ := hp
    have hh : hasI S p = true := by simp [hasI, hp0, hp1]
    by_cases hl : zs.length = 24
    · have hwc : writeC S p zs.length = accC S := by unfold writeC; rw [hh, hl]; rfl
      have hws : writeS S p zs = if accC S = 0 then putS (accS S) p.toNat zs else accS S := by unfold writeS; rw [hh, hl]; rfl
      have HL := Lib.hid hl
      rw [hl] at hsz
      cases hd : S.down with
      | true =>
        rw [hd] at c5
        have HV : Hid (writeC S p zs.length = 12 ∧ writeS S p zs = S) := ⟨by rw [hwc, accC_down hd], by rw [hws, accC_down hd, if_neg (by decide), accS_down hd]⟩
        clear h3 h4 hh hwc hws hd hl hm
        generalize S.N = N at *
        have hge : decide ((N : Int) ≤ p) = false := by rw [decide_eq_false_iff_not]; omega
        clear hp1
        clear hn hbb
        go_enter Try.func15, Try.ntmps15
        go_wp2
        go_ret
        exact ⟨by rw [HV.out.1]; rfl, by rw [HV.out.2]; exact H.out, Kept.refl _ _⟩
      | false =>
        rw [hd] at c5
        by_cases hb : S.bad = 1
        · have CA := Lib.hid (racc_hit H.out hd hn hb)
          have e9 : accC S = 9 := by rw [accC_up hd, if_pos hb]
          have HV : Hid (writeC S p zs.length = 9 ∧ writeS S p zs = accS S) := ⟨by rw [hwc, e9], by rw [hws, e9, if_neg (by decide)]⟩
          clear h3 h4 hh hwc hws hd hb hl hm e9
          generalize S.N = N at *
          have hge : decide ((N : Int) ≤ p) = false := by rw [decide_eq_false_iff_not]; omega
          clear hp1
          clear hn hbb
          go_enter Try.func15, Try.ntmps15
          go_wp2_with (go_at_call 33; (with_reducible refine CA.out.mono ?_); rintro e w1 ⟨rfl, hdev, hk⟩; have HD := Lib.hid hdev; have HK := Lib.hid hk; clear hdev hk)
          go_ret
          exact ⟨by rw [HV.out.1]; rfl, by rw [HV.out.2]; exact HD.out, HK.out⟩
        · have CA := Lib.hid (racc_miss H.out hd hn hbb hb)
          have e0 : accC S = 0 := by rw [accC_up hd, if_neg hb]
          obtain ⟨k, rfl⟩ := Int.eq_ofNat_of_zero_le hp0
          have hk : k < S.N := by omega
          have HV : Hid (writeC S (k : Int) zs.length = 0 ∧ writeS S (k : Int) zs = putS (accS S) k zs) := ⟨by rw [hwc, e0], by rw [hws, e0, if_pos rfl]; rfl⟩
          have HK' := Lib.hid hk
          have HUP := Lib.hid (accS_up hd)
          clear h3 h4 hh hwc hws hd hb hl hm e0 hk
          generalize hNN : S.N = N at c0 hN hp1
          have HNN := Lib.hid hNN
          clear hNN
          have hge : decide (N ≤ k) = false := by rw [decide_eq_false_iff_not]; omega
          have HP1 := Lib.hid hp1
          clear hhi hlo
          clear hp1
          clear hn hbb
          go_enter Try.func15, Try.ntmps15
          go_upto_region 7 with (go_at_call 33; (with_reducible refine CA.out.mono ?_); rintro e w1 ⟨rfl, hdev, hk⟩; have HD := Lib.hid hdev; have HK := Lib.hid hk; clear hdev hk)
          obtain ⟨t', g3, g4⟩ := HD.out
          have hkz := HP1.out
          have c1 := g3.c1
          have c2 := g3.c2
          have r1 := g3.tail.cell (i := k) (by rw [accS_N]; exact HK'.out)
          have f1 := g3.tail.frozen k
          have r2 := g3.wait.cell (i := k) (by rw [accS_N]; exact HK'.out)
          have f2 := g3.wait.frozen k
          rw [accS_N, HNN.out] at c1 c2
          have hne := g3.ne
          have HG3 := Lib.hid g3
          have HG4 := Lib.hid g4
          have q1 := up_cell (F := fun k => k = r.T ∨ k = r.V) (w := w1.drew) c1 (fun e => by rcases e with e | e; exact hne.2.1 e; exact hne.2.2.1 e)
          have q2 := up_cell (F := fun k => k = r.T ∨ k = r.V) (w := w1.drew) c2 (fun e => by rcases e with e | e; exact hne.2.1 e; exact hne.2.2.1 e)
          have HS1 : Hid (Rows3 (w1.setCell ⟨r.T, k, none⟩ (.string (strOfNums zs))) r (accS S).n (accS S).bad (accS S).N (accS S).down (accS S).dur (fun q => if q = k then zs else t' q) (fun p => ((accS S).wr p).isSome)) := g3.setT HL.out
          have HS2 : Hid (Rows3 ((w1.setCell ⟨r.T, k, none⟩ (.string (strOfNums zs))).setCell ⟨r.V, k, none⟩ (.bool true)) r (accS S).n (accS S).bad (accS S).N (accS S).down (accS S).dur (fun q => if q = k then zs else t' q) (fun q => if q = k then true else ((accS S).wr q).isSome)) := HS1.out.setV
          have HFIN : Hid (RefAt ((w1.setCell ⟨r.T, k, none⟩ (.string (strOfNums zs))).setCell ⟨r.V, k, none⟩ (.bool true)).drew r (putS (accS S) k zs)) := by
            refine ⟨fun q => if q = k then zs else t' q, (HS2.out.grow (Kept.drew' _)).congr (fun p _ => rfl) (fun p _ => rfl) (fun p _ => ?_), fun _ p hp => ?_⟩
            · show ((if p = k then some zs else (accS S).wr p).isSome) = (if p = k then true else ((accS S).wr p).isSome)
              split <;> rfl
            · rw [cur_put]
              show (if p = k then zs else t' p) = _
              split
              · rfl
              · exact HG4.out HUP.out.2.2 p hp
          have HKF : Hid (Kept (POwn r) w ((w1.setCell ⟨r.T, k, none⟩ (.string (strOfNums zs))).setCell ⟨r.V, k, none⟩ (.bool true)).drew) := ((HK.out.trans ((kept_set _ _ _ _).mono fun _ _ e => .inr (.inr (.inl e)))).trans ((kept_set _ _ _ _).mono fun _ _ e => .inr (.inr (.inr e)))).drew
          have r2' := HS1.out.wait.cell (i := k) (by rw [accS_N]; exact HK'.out)
          have f2' := HS1.out.wait.frozen k
          clear g3 g4 c1 c2 hne r2 f2
          refine wp_region_stages (Kept fun k => k = r.T ∨ k = r.V) (kept_refl _) (kept_trans _) [([0, 1, 2, 3, 4, 5, 6, 7, 8, 9, 10, 11], 12), ([13], 14)] [] (by kernel_rfl) (by kernel_rfl) ?_
          simp only [selSt, sel, List.map_cons, List.map_nil, List.getD_cons_succ, List.getD_cons_zero]
          refine st_cons fun K1 hK1 => ?_
          repeat (go_big_quiet_step (fail))
          refine wpQuiet_nil ?_
          clear q1 q2
          go_wp2
          refine norm_up (hK1 _ _ ((kept_set _ _ _ _).mono fun _ _ e => .inl e) ?_)
          clear hK1 K1
          refine st_cons fun K2 hK2 => ?_
          repeat (go_big_quiet_step (fail))
          refine wpQuiet_nil ?_
          go_wp2
          refine norm_up (hK2 _ _ ((kept_set _ _ _ _).mono fun _ _ e => .inr e) (st_nil fun K3 hK3 => wpQuiet_nil (hK3 _ ?_)))
          clear hK2 K2 K3 hK3 r1 r2' f1 f2'
          go_wp2
          go_ret
          exact ⟨by rw [HV.out.1]; rfl, by rw [HV.out.2]; exact HFIN.out, HKF.out⟩
    · have HV : Hid (writeC S p zs.length = 1 ∧ writeS S p zs = S) := by
        have e : (zs.length == 24) = false := by simpa using hl
        exact ⟨by unfold writeC; rw [hh, e]; rfl, by unfold writeS; rw [hh, e]; rfl⟩
      have hne : ((zs.length : Int) != 24) = true := by simpa [bne_iff_ne] using (by omega : ¬ (zs.length : Int) = 24)
      clear h3 h4 hh hl
      generalize S.N = N at *
      generalize zs.length = L at *
      have hge : decide ((N : Int) ≤ p) = false := by rw [decide_eq_false_iff_not]; omega
      clear hp1 hm
      clear hn hbb
      go_enter Try.func15, Try.ntmps15
      go_wp2
      go_ret
      exact ⟨by rw [HV.out.1]; rfl, by rw [HV.out.2]; exact H.out, Kept.refl _ _⟩
  · have hh : hasI S p = false := by
      rw [← Bool.not_eq_true]
      simpa [hasI] using hp
    have HV : Hid (writeC S p zs.length = 1 ∧ writeS S p zs = S) := ⟨by unfold writeC; rw [hh]; rfl, by unfold writeS; rw [hh]; rfl⟩
    clear hsz hm
    by_cases hp0 : 0 ≤ p
    · have hp1 : (S.N : Int) ≤ p := by omega
      clear h3 h4 hh hp
      generalize S.N = N at *
      clear hn hbb
      go_enter Try.func15, Try.ntmps15
      go_wp2
      go_ret
      exact ⟨by rw [HV.out.1]; rfl, by rw [HV.out.2]; exact H.out, Kept.refl _ _⟩
    · have hp1 : p < 0 := by omega
      clear h3 h4 hh hp hp0
      generalize S.N = N at *
      clear hn hbb
      go_enter Try.func15, Try.ntmps15
      go_wp2
      go_ret
      exact ⟨by rw [HV.out.1]; rfl, by rw [HV.out.2]; exact H.out, Kept.refl _ _⟩

set_option maxHeartbeats 1000000 in
theorem rwaits_any (h : RefAt w r S) :
    Calls Try.prog 26 #[.pointer (some ⟨r.m, 0, none⟩)] w (IntsOf w (waitL S S.N)) := by
  have H := Lib.hid h
  obtain ⟨t, h3, _⟩ := h
  have hN := h3.size
  clear h3
  go_enter Try.func26, Try.ntmps26
  go_wp2
  go_loopg [3, 4] S.N (fun g v i wr => ∃ j : Nat, j + g = S.N ∧ i = .int .i64 (j : Int) ∧ wr.ownsRow w.heap.size 3 1 v (waitL S j).length ((waitL S j).map (Value.int .i64)) ∧ Below w.heap.size w wr)
  case atStart => exact ⟨0, by omega, rfl, World.ownsRow_nil _ _ _ _, Below.refl _ _⟩
  case round =>
    obtain ⟨j, hg, rfl, hown, hbel⟩ := hrel
    have HO := Lib.hid hown
    have HB := Lib.hid hbel
    have HG := Lib.hid hg
    have hdev := H.out.grow (Kept.of_below hbel)
    obtain ⟨t', h3, _⟩ := hdev
    have c2 := h3.c2
    by_cases hj : j < S.N
    · have hjz : (j : Int) < (S.N : Int) := by omega
      have r1 := h3.wait.cell (i := j) hj
      have hle := waitL_le S j
      have hbs : w.heap.size ≤ wr.heap.size := hbel.size
      clear h3 hg hown hbel
      cases ho : (S.wr j).isSome with
      | false =>
        rw [ho] at r1
        have HE : Hid (waitL S (j + 1) = waitL S j) := by
          show waitL S (j + 1) = waitL S j
          rw [waitL, ho]; rfl
        clear ho
        go_wp2
        go_roundg (gk - 1)
        case measure => have := HG.out; omega
        case rel => exact ⟨j + 1, by have := HG.out; omega, by go_num, by rw [HE.out]; exact HO.out, HB.out⟩
      | true =>
        rw [ho] at r1
        have HE : Hid (waitL S (j + 1) = waitL S j ++ [(j : Int)]) := by
          show waitL S (j + 1) = waitL S j ++ [(j : Int)]
          rw [waitL, ho]; rfl
        clear ho
        generalize waitL S j = l at *
        go_wp2_with (at_builtin; refine wpList_append_one rfl (.tmp 21) (.tmp 23) 49 rfl w.heap.size 3 (.int .i64 0) 8 Try.underlying49 infoI rfl _ l.length _ rfl (World.ownsRow.alloc HO.out _) wr.heap.size (.int .i64 (j : Int)) rfl (cell_new1 _ _ _) rfl (by unfold maxLen; omega) (by omega) (by simp; omega) ?_; intro g cap w2 hown hbel; have HOW := Lib.hid hown; have HBW := Lib.hid hbel; clear hown hbel)
        go_roundg (gk - 1)
        case measure => have := HG.out; omega
        case rel => exact ⟨j + 1, by have := HG.out; omega, by go_num, by rw [HE.out]; simpa using HOW.out, (HB.out.alloc hbs _).trans HBW.out⟩
    · have hjN : j = S.N := by omega
      subst hjN
      obtain ⟨A, c, rfl, hsl⟩ := Sl.of_row1 hown
      have HSL := Lib.hid hsl
      have HNEW : Hid (∀ x, A = some x → w.heap.size ≤ x.block) := fun x e => (World.ownsRow.lt hown x.block (by rw [e]; rfl)).1
      clear h3 hown hbel hg hsl
      go_wp2
      go_ret
      exact ⟨A, _, c, rfl, HSL.out, HNEW.out, Kept.of_below HB.out⟩
end
end Go.Proofs.Ytfjcbcpfhjaeeaa.RefM
