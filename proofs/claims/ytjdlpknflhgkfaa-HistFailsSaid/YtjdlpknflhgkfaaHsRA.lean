/-
  The document's first look at one event (lavaboref13.alone).
-/
import Derived.Test.YtjdlpknflhgkfaaHsLook
namespace Go.Proofs.Ytjdlpknflhgkfaa.HsRA
open Go.ChangeShapes Go.WideShapes Go.ChangeAt Go.RowKit
open Go.Proofs.Ytjdlpknflhgkfaa.Mem Go.Proofs.Ytjdlpknflhgkfaa.Blk Go.Proofs.Ytjdlpknflhgkfaa.Cells Go.Proofs.Ytjdlpknflhgkfaa.MdM Go.Proofs.Ytjdlpknflhgkfaa.HsM Go.Proofs.Ytjdlpknflhgkfaa.HsE Go.Proofs.Ytjdlpknflhgkfaa.HsB Go.Proofs.Ytjdlpknflhgkfaa.HsL Go.Proofs.Ytjdlpknflhgkfaa.PmM Go.Proofs.Ytjdlpknflhgkfaa.Stages

section
variable {w w' : World} {X : Nat → Prop} {A : Option Addr} {n : Nat} {L : Nat → Ev}
set_option maxHeartbeats 16000000 in
set_option maxRecDepth 100000 in
theorem alone_any (h : EvsAt w X A n L) (hn : n ≤ 100000) (i : Nat) (hi : i < n) (N : Int) (c : Nat) : Calls Try.prog 36 #[.slice A n c, .int .i64 (i : Int), .int .i64 N] w (Tells (okAt L N i) w) := by
  have hnz : (n : Int) ≤ 100000 := by omega
  have hiz : (i : Int) < (n : Int) := by omega
  obtain ⟨b, off, rfl, hall⟩ := h (by omega)
  obtain ⟨D, dl, dc, A', al, ac, hc, hd⟩ := hall i hi
  have HALL := Lib.hid hall
  have HI := Lib.hid hi
  have c0 := hc 0 _ rfl
  have c1 := hc 1 _ rfl
  have c2 := hc 2 _ rfl
  have c3' := hc 3 _ rfl
  have c4 := hc 4 _ rfl
  have c5 := hc 5 _ rfl
  have c6 := hc 6 _ rfl
  have c7 := hc 7 _ rfl
  have c8 := hc 8 _ rfl
  have c9 := hc 9 _ rfl
  have c10 := hc 10 _ rfl
  have c11 := hc 11 _ rfl
  have c12 := hc 12 _ rfl
  have c13 := hc 13 _ rfl
  simp only [Nat.add_zero] at c0
  clear hall hc hd hi h
  go_enter Try.func36, Try.ntmps36
  go_upto_region 2 with (fail)
  clear c0 c1 c2 c3' c4 c5 c6 c7 c8 c9 c10 c11 c12 c13
  obtain ⟨hnb, hng⟩ := ev_new w (L i) D dl dc A' al ac
  generalize w.alloc (.cells #[.int .i64 (L i).c, .int .i64 (L i).o.k, .int .i64 (L i).o.p, .int .i64 (L i).o.h, .int .i64 (L i).o.o, .int .i64 (L i).o.n, .slice D dl dc, .int .i64 (L i).r.c, .int .i64 (L i).r.p, .int .i64 (L i).r.h, .slice A' al ac, .int .i64 (L i).b, .int .i64 (L i).s, .int .i64 (L i).e] 29) = we at hnb hng ⊢
  generalize w.heap.size = f at hnb ⊢
  have HGE := Lib.hid hng
  have s0 := hnb.cell 0
  have s11 := hnb.cell 11
  have s12 := hnb.cell 12
  have s13 := hnb.cell 13
  simp only [List.getElem?_cons_zero, List.getElem?_cons_succ] at s0 s11 s12 s13
  have HALE : Hid (∀ k, k < n → we.cell? ⟨b, off + k * 14, none⟩ = some (.int .i64 (L k).c) ∧ we.cell? ⟨b, off + k * 14 + 11, none⟩ = some (.int .i64 (L k).b) ∧ we.cell? ⟨b, off + k * 14 + 13, none⟩ = some (.int .i64 (L k).e)) := fun k hk => by
    obtain ⟨D, dl, dc, A', al, ac, hc, hd⟩ := HALL.out k hk
    exact ⟨hng.cellN (hc 0 _ rfl) id, hng.cellN (hc 11 _ rfl) id, hng.cellN (hc 13 _ rfl) id⟩
  clear hnb hng
  have u0 := up_cell (F := fun _ => False) (w := we.drew) s0 id
  have u11 := up_cell (F := fun _ => False) (w := we.drew) s11 id
  by_cases k0 : (L i).c < 0
  · have HX : Hid (¬ okAt L N i) := fun h => by have := h.cl; omega
    refine wp_region_stages Grow (kept_refl _) (kept_trans _) [] [0, 1, 2, 3, 4, 5, 6, 7, 8, 9, 10, 11, 12, 13, 14, 15, 16, 17, 18, 19, 20, 21, 22, 23, 24, 25, 26, 27, 28] (by kernel_rfl) (by kernel_rfl) ?_
    simp only [selSt, sel, List.map_cons, List.map_nil, List.getD_cons_succ, List.getD_cons_zero]
    refine st_nil fun K2 hK2 => ?_
    repeat (go_big_quiet_step (fail))
    refine wpQuiet_nil (hK2 _ ?_)
    clear hK2 K2
    go_wp2
    go_ret
    exact Tells.no HX.out (HGE.out.drew)
  have k0' : decide ((L i).c < 0) = false := decide_eq_false k0
  by_cases k1 : N ≤ (L i).c
  · have HX : Hid (¬ okAt L N i) := fun h => by have := h.cl; omega
    refine wp_region_stages Grow (kept_refl _) (kept_trans _) [] [0, 1, 2, 3, 4, 5, 6, 7, 8, 9, 10, 11, 12, 13, 14, 15, 16, 17, 18, 19, 20, 21, 22, 23, 24, 25, 26, 27, 28] (by kernel_rfl) (by kernel_rfl) ?_
    simp only [selSt, sel, List.map_cons, List.map_nil, List.getD_cons_succ, List.getD_cons_zero]
    refine st_nil fun K2 hK2 => ?_
    repeat (go_big_quiet_step (fail))
    refine wpQuiet_nil (hK2 _ ?_)
    clear hK2 K2
    go_wp2
    go_ret
    exact Tells.no HX.out (HGE.out.drew)
  have k1' : decide (N ≤ (L i).c) = false := decide_eq_false k1
  have HC : Hid (0 ≤ (L i).c ∧ (L i).c < N) := by unfold Hid; omega
  by_cases k2 : (L i).b ≤ 0
  · have HX : Hid (¬ okAt L N i) := fun h => by have := h.bg; omega
    refine wp_region_stages Grow (kept_refl _) (kept_trans _) [] [0, 1, 2, 3, 4, 5, 6, 7, 8, 9, 10, 11, 12, 13, 14, 15, 16, 17, 18, 19, 20, 21, 22, 23, 24, 25, 26, 27, 28] (by kernel_rfl) (by kernel_rfl) ?_
    simp only [selSt, sel, List.map_cons, List.map_nil, List.getD_cons_succ, List.getD_cons_zero]
    refine st_nil fun K2 hK2 => ?_
    repeat (go_big_quiet_step (fail))
    refine wpQuiet_nil (hK2 _ ?_)
    clear hK2 K2
    go_wp2
    go_ret
    exact Tells.no HX.out (HGE.out.drew)
  have k2' : decide ((L i).b ≤ 0) = false := decide_eq_false k2
  have HB : Hid (0 < (L i).b) := by unfold Hid; omega
  by_cases hi0 : i = 0
  · have HM : Hid (∀ k, k + 1 = i → (L k).b ≤ (L i).b) := fun k hk => by omega
    have hg0 : ¬ (0 : Int) < (i : Int) := by omega
    have hg0' : decide ((0 : Int) < (i : Int)) = false := decide_eq_false hg0
    have hg1 : ¬ 0 < i := by omega
    have hg1' : decide (0 < i) = false := decide_eq_false hg1
    have HI0 := Lib.hid hi0
    clear hi0
    refine wp_region_stages Grow (kept_refl _) (kept_trans _) [] [0, 1, 2, 3, 4, 5, 6, 7, 8, 9, 10, 11, 12, 13, 14, 15, 16, 17, 18, 19, 20, 21, 22, 23, 24, 25, 26, 27, 28] (by kernel_rfl) (by kernel_rfl) ?_
    simp only [selSt, sel, List.map_cons, List.map_nil, List.getD_cons_succ, List.getD_cons_zero]
    refine st_nil fun K2 hK2 => ?_
    repeat (go_big_quiet_step (fail))
    refine wpQuiet_nil (hK2 _ ?_)
    clear hK2 K2
    clear u0 u11 k0 k0' k1 k1' k2 k2' hg0 hg0' hg1 hg1'
    by_cases e0 : 0 < (L i).e
    · by_cases b1 : (L i).s < (L i).b
      · have HX : Hid (¬ okAt L N i) := fun h => by have h1 := h.tm; unfold inT inTn at h1; rw [if_pos e0] at h1; omega
        go_wp2
        go_ret
        exact Tells.no HX.out (HGE.out.drew)
      by_cases b2 : (L i).e < (L i).s
      · have HX : Hid (¬ okAt L N i) := fun h => by have h1 := h.tm; unfold inT inTn at h1; rw [if_pos e0] at h1; omega
        have b1' : decide ((L i).s < (L i).b) = false := decide_eq_false b1
        go_wp2
        go_ret
        exact Tells.no HX.out (HGE.out.drew)
      have HT : Hid (inT (L i)) := by unfold Hid inT inTn; rw [if_pos e0]; omega
      have b1' : decide ((L i).s < (L i).b) = false := decide_eq_false b1
      go_upto_region 9 with (fail)
      go_wp2
      go_loopg [8] i (fun gx v wr => ∃ k : Nat, k + gx = i ∧ v = .int .i64 (k : Int) ∧ Grow we wr ∧ ∀ t, t < k → (L t).c = (L i).c → 0 < (L t).e ∧ (L t).e < (L i).b)
      case atStart => exact ⟨0, by omega, rfl, (Kept.refl _ _).drew, fun t ht => absurd ht (Nat.not_lt_zero t)⟩
      case round =>
        obtain ⟨k, hg, rfl, hgr, hok⟩ := hrel
        have HG := Lib.hid hg
        have HGR := Lib.hid hgr
        have HOK := Lib.hid hok
        have HRR : Hid (Grow w wr.drew) := (HGE.out.trans hgr).drew
        clear hg hgr hok
        by_cases hk : k < i
        · have hkz : (k : Int) < (i : Int) := by omega
          have hkn : (k : Int) < (n : Int) := by omega
          have HK := Lib.hid hk
          have hke := HALE.out k (by have := HI.out; omega)
          have r0 := HGR.out.cellN hke.1 id
          have r13 := HGR.out.cellN hke.2.2 id
          have q0 := HGR.out.cellN s0 id
          have q11 := HGR.out.cellN s11 id
          clear hk hke
          by_cases hce : (L k).c = (L i).c
          · have HCE := Lib.hid hce
            rw [hce] at r0
            have v0 := up_cell (F := fun _ => False) (w := wr.drew) r0 id
            have v13 := up_cell (F := fun _ => False) (w := wr.drew) r13 id
            have v1 := up_cell (F := fun _ => False) (w := wr.drew) q0 id
            have v11 := up_cell (F := fun _ => False) (w := wr.drew) q11 id
            clear hce
            by_cases e0 : (L k).e ≤ 0
            · have HX : Hid (¬ okAt L N i) := fun h => by have := h.busy k HK.out HCE.out; omega
              go_upto_region 12 with (fail)
              refine wp_region_stages Grow (kept_refl _) (kept_trans _) [] [0, 1, 2, 3, 4, 5, 6, 7, 8, 9, 10, 11, 12, 13, 14, 15, 16, 17, 18, 19, 20, 21, 22, 23, 24, 25] (by kernel_rfl) (by kernel_rfl) ?_
              simp only [selSt, sel, List.map_cons, List.map_nil, List.getD_cons_succ, List.getD_cons_zero]
              refine st_nil fun K3 hK3 => ?_
              repeat (go_big_quiet_step (fail))
              refine wpQuiet_nil (hK3 _ ?_)
              clear hK3 K3
              go_wp2
              go_ret
              exact Tells.no HX.out (HRR.out)
            by_cases e1 : (L i).b ≤ (L k).e
            · have HX : Hid (¬ okAt L N i) := fun h => by have := h.busy k HK.out HCE.out; omega
              have e0' : decide ((L k).e ≤ 0) = false := decide_eq_false e0
              go_upto_region 12 with (fail)
              refine wp_region_stages Grow (kept_refl _) (kept_trans _) [] [0, 1, 2, 3, 4, 5, 6, 7, 8, 9, 10, 11, 12, 13, 14, 15, 16, 17, 18, 19, 20, 21, 22, 23, 24, 25] (by kernel_rfl) (by kernel_rfl) ?_
              simp only [selSt, sel, List.map_cons, List.map_nil, List.getD_cons_succ, List.getD_cons_zero]
              refine st_nil fun K3 hK3 => ?_
              repeat (go_big_quiet_step (fail))
              refine wpQuiet_nil (hK3 _ ?_)
              clear hK3 K3
              go_wp2
              go_ret
              exact Tells.no HX.out (HRR.out)
            have HP : Hid (0 < (L k).e ∧ (L k).e < (L i).b) := by unfold Hid; omega
            have e0' : decide ((L k).e ≤ 0) = false := decide_eq_false e0
            have e1' : decide ((L i).b ≤ (L k).e) = false := decide_eq_false e1
            go_upto_region 12 with (fail)
            refine wp_region_stages Grow (kept_refl _) (kept_trans _) [] [0, 1, 2, 3, 4, 5, 6, 7, 8, 9, 10, 11, 12, 13, 14, 15, 16, 17, 18, 19, 20, 21, 22, 23, 24, 25] (by kernel_rfl) (by kernel_rfl) ?_
            simp only [selSt, sel, List.map_cons, List.map_nil, List.getD_cons_succ, List.getD_cons_zero]
            refine st_nil fun K3 hK3 => ?_
            repeat (go_big_quiet_step (fail))
            refine wpQuiet_nil (hK3 _ ?_)
            clear hK3 K3
            go_wp2
            go_roundg (gk - 1)
            case measure => have := HG.out; have := HK.out; omega
            case rel => exact ⟨k + 1, by have := HG.out; have := HK.out; omega, by go_num, HGR.out.drew, fun t ht htc => by
              by_cases e : t = k
              · subst e; exact HP.out
              · exact HOK.out t (by omega) htc⟩
          · have HCE := Lib.hid hce
            have hcb : ((L k).c == (L i).c) = false := by simpa using hce
            clear hce
            have v0 := up_cell (F := fun _ => False) (w := wr.drew) r0 id
            have v1 := up_cell (F := fun _ => False) (w := wr.drew) q0 id
            go_upto_region 12 with (fail)
            refine wp_region_stages Grow (kept_refl _) (kept_trans _) [] [0, 1, 2, 3, 4, 5, 6, 7, 8, 9, 10, 11, 12, 13, 14, 15, 16, 17, 18, 19, 20, 21, 22, 23, 24, 25] (by kernel_rfl) (by kernel_rfl) ?_
            simp only [selSt, sel, List.map_cons, List.map_nil, List.getD_cons_succ, List.getD_cons_zero]
            refine st_nil fun K3 hK3 => ?_
            repeat (go_big_quiet_step (fail))
            refine wpQuiet_nil (hK3 _ ?_)
            clear hK3 K3
            go_wp2
            go_roundg (gk - 1)
            case measure => have := HG.out; have := HK.out; omega
            case rel => exact ⟨k + 1, by have := HG.out; have := HK.out; omega, by go_num, HGR.out.drew, fun t ht htc => by
              by_cases e : t = k
              · subst e; exact absurd htc HCE.out
              · exact HOK.out t (by omega) htc⟩
        · have hkN : k = i := by have := HG.out; omega
          subst hkN
          have HP : Hid (okAt L N k) := ⟨HC.out, HB.out, HM.out, HT.out, HOK.out⟩
          have HRW : Hid (Grow w wr) := HGE.out.trans HGR.out
          clear hk
          go_wp2
          go_ret
          exact Tells.yes HP.out HRW.out
    · by_cases e1 : (L i).e < 0
      · have HX : Hid (¬ okAt L N i) := fun h => by have h1 := ok_end h; omega
        go_wp2
        go_ret
        exact Tells.no HX.out (HGE.out.drew)
      have e2 : (L i).e = 0 := by omega
      have e1' : decide ((L i).e < 0) = false := decide_eq_false e1
      by_cases z0 : (L i).s = 0
      · have HT : Hid (inT (L i)) := by unfold Hid inT inTn; rw [if_neg e0]; exact ⟨e2, .inl z0⟩
        rw [z0] at s12
        clear e2 z0
        go_upto_region 9 with (fail)
        go_wp2
        go_loopg [8] i (fun gx v wr => ∃ k : Nat, k + gx = i ∧ v = .int .i64 (k : Int) ∧ Grow we wr ∧ ∀ t, t < k → (L t).c = (L i).c → 0 < (L t).e ∧ (L t).e < (L i).b)
        case atStart => exact ⟨0, by omega, rfl, (Kept.refl _ _).drew, fun t ht => absurd ht (Nat.not_lt_zero t)⟩
        case round =>
          obtain ⟨k, hg, rfl, hgr, hok⟩ := hrel
          have HG := Lib.hid hg
          have HGR := Lib.hid hgr
          have HOK := Lib.hid hok
          have HRR : Hid (Grow w wr.drew) := (HGE.out.trans hgr).drew
          clear hg hgr hok
          by_cases hk : k < i
          · have hkz : (k : Int) < (i : Int) := by omega
            have hkn : (k : Int) < (n : Int) := by omega
            have HK := Lib.hid hk
            have hke := HALE.out k (by have := HI.out; omega)
            have r0 := HGR.out.cellN hke.1 id
            have r13 := HGR.out.cellN hke.2.2 id
            have q0 := HGR.out.cellN s0 id
            have q11 := HGR.out.cellN s11 id
            clear hk hke
            by_cases hce : (L k).c = (L i).c
            · have HCE := Lib.hid hce
              rw [hce] at r0
              have v0 := up_cell (F := fun _ => False) (w := wr.drew) r0 id
              have v13 := up_cell (F := fun _ => False) (w := wr.drew) r13 id
              have v1 := up_cell (F := fun _ => False) (w := wr.drew) q0 id
              have v11 := up_cell (F := fun _ => False) (w := wr.drew) q11 id
              clear hce
              by_cases e0 : (L k).e ≤ 0
              · have HX : Hid (¬ okAt L N i) := fun h => by have := h.busy k HK.out HCE.out; omega
                go_upto_region 12 with (fail)
                refine wp_region_stages Grow (kept_refl _) (kept_trans _) [] [0, 1, 2, 3, 4, 5, 6, 7, 8, 9, 10, 11, 12, 13, 14, 15, 16, 17, 18, 19, 20, 21, 22, 23, 24, 25] (by kernel_rfl) (by kernel_rfl) ?_
                simp only [selSt, sel, List.map_cons, List.map_nil, List.getD_cons_succ, List.getD_cons_zero]
                refine st_nil fun K3 hK3 => ?_
                repeat (go_big_quiet_step (fail))
                refine wpQuiet_nil (hK3 _ ?_)
                clear hK3 K3
                go_wp2
                go_ret
                exact Tells.no HX.out (HRR.out)
              by_cases e1 : (L i).b ≤ (L k).e
              · have HX : Hid (¬ okAt L N i) := fun h => by have := h.busy k HK.out HCE.out; omega
                have e0' : decide ((L k).e ≤ 0) = false := decide_eq_false e0
                go_upto_region 12 with (fail)
                refine wp_region_stages Grow (kept_refl _) (kept_trans _) [] [0, 1, 2, 3, 4, 5, 6, 7, 8, 9, 10, 11, 12, 13, 14, 15, 16, 17, 18, 19, 20, 21, 22, 23, 24, 25] (by kernel_rfl) (by kernel_rfl) ?_
                simp only [selSt, sel, List.map_cons, List.map_nil, List.getD_cons_succ, List.getD_cons_zero]
                refine st_nil fun K3 hK3 => ?_
                repeat (go_big_quiet_step (fail))
                refine wpQuiet_nil (hK3 _ ?_)
                clear hK3 K3
                go_wp2
                go_ret
                exact Tells.no HX.out (HRR.out)
              have HP : Hid (0 < (L k).e ∧ (L k).e < (L i).b) := by unfold Hid; omega
              have e0' : decide ((L k).e ≤ 0) = false := decide_eq_false e0
              have e1' : decide ((L i).b ≤ (L k).e) = false := decide_eq_false e1
              go_upto_region 12 with (fail)
              refine wp_region_stages Grow (kept_refl _) (kept_trans _) [] [0, 1, 2, 3, 4, 5, 6, 7, 8, 9, 10, 11, 12, 13, 14, 15, 16, 17, 18, 19, 20, 21, 22, 23, 24, 25] (by kernel_rfl) (by kernel_rfl) ?_
              simp only [selSt, sel, List.map_cons, List.map_nil, List.getD_cons_succ, List.getD_cons_zero]
              refine st_nil fun K3 hK3 => ?_
              repeat (go_big_quiet_step (fail))
              refine wpQuiet_nil (hK3 _ ?_)
              clear hK3 K3
              go_wp2
              go_roundg (gk - 1)
              case measure => have := HG.out; have := HK.out; omega
              case rel => exact ⟨k + 1, by have := HG.out; have := HK.out; omega, by go_num, HGR.out.drew, fun t ht htc => by
                by_cases e : t = k
                · subst e; exact HP.out
                · exact HOK.out t (by omega) htc⟩
            · have HCE := Lib.hid hce
              have hcb : ((L k).c == (L i).c) = false := by simpa using hce
              clear hce
              have v0 := up_cell (F := fun _ => False) (w := wr.drew) r0 id
              have v1 := up_cell (F := fun _ => False) (w := wr.drew) q0 id
              go_upto_region 12 with (fail)
              refine wp_region_stages Grow (kept_refl _) (kept_trans _) [] [0, 1, 2, 3, 4, 5, 6, 7, 8, 9, 10, 11, 12, 13, 14, 15, 16, 17, 18, 19, 20, 21, 22, 23, 24, 25] (by kernel_rfl) (by kernel_rfl) ?_
              simp only [selSt, sel, List.map_cons, List.map_nil, List.getD_cons_succ, List.getD_cons_zero]
              refine st_nil fun K3 hK3 => ?_
              repeat (go_big_quiet_step (fail))
              refine wpQuiet_nil (hK3 _ ?_)
              clear hK3 K3
              go_wp2
              go_roundg (gk - 1)
              case measure => have := HG.out; have := HK.out; omega
              case rel => exact ⟨k + 1, by have := HG.out; have := HK.out; omega, by go_num, HGR.out.drew, fun t ht htc => by
                by_cases e : t = k
                · subst e; exact absurd htc HCE.out
                · exact HOK.out t (by omega) htc⟩
          · have hkN : k = i := by have := HG.out; omega
            subst hkN
            have HP : Hid (okAt L N k) := ⟨HC.out, HB.out, HM.out, HT.out, HOK.out⟩
            have HRW : Hid (Grow w wr) := HGE.out.trans HGR.out
            clear hk
            go_wp2
            go_ret
            exact Tells.yes HP.out HRW.out
      have z0' : ((L i).s != 0) = true := by simpa using z0
      by_cases b1 : (L i).s < (L i).b
      · have HX : Hid (¬ okAt L N i) := fun h => by have h1 := h.tm; unfold inT inTn at h1; rw [if_neg e0] at h1; omega
        clear e2 z0
        go_wp2
        go_ret
        exact Tells.no HX.out (HGE.out.drew)
      have HT : Hid (inT (L i)) := by unfold Hid inT inTn; rw [if_neg e0]; exact ⟨e2, .inr (by omega)⟩
      clear e2 z0
      go_upto_region 9 with (fail)
      go_wp2
      go_loopg [8] i (fun gx v wr => ∃ k : Nat, k + gx = i ∧ v = .int .i64 (k : Int) ∧ Grow we wr ∧ ∀ t, t < k → (L t).c = (L i).c → 0 < (L t).e ∧ (L t).e < (L i).b)
      case atStart => exact ⟨0, by omega, rfl, (Kept.refl _ _).drew, fun t ht => absurd ht (Nat.not_lt_zero t)⟩
      case round =>
        obtain ⟨k, hg, rfl, hgr, hok⟩ := hrel
        have HG := Lib.hid hg
        have HGR := Lib.hid hgr
        have HOK := Lib.hid hok
        have HRR : Hid (Grow w wr.drew) := (HGE.out.trans hgr).drew
        clear hg hgr hok
        by_cases hk : k < i
        · have hkz : (k : Int) < (i : Int) := by omega
          have hkn : (k : Int) < (n : Int) := by omega
          have HK := Lib.hid hk
          have hke := HALE.out k (by have := HI.out; omega)
          have r0 := HGR.out.cellN hke.1 id
          have r13 := HGR.out.cellN hke.2.2 id
          have q0 := HGR.out.cellN s0 id
          have q11 := HGR.out.cellN s11 id
          clear hk hke
          by_cases hce : (L k).c = (L i).c
          · have HCE := Lib.hid hce
            rw [hce] at r0
            have v0 := up_cell (F := fun _ => False) (w := wr.drew) r0 id
            have v13 := up_cell (F := fun _ => False) (w := wr.drew) r13 id
            have v1 := up_cell (F := fun _ => False) (w := wr.drew) q0 id
            have v11 := up_cell (F := fun _ => False) (w := wr.drew) q11 id
            clear hce
            by_cases e0 : (L k).e ≤ 0
            · have HX : Hid (¬ okAt L N i) := fun h => by have := h.busy k HK.out HCE.out; omega
              go_upto_region 12 with (fail)
              refine wp_region_stages Grow (kept_refl _) (kept_trans _) [] [0, 1, 2, 3, 4, 5, 6, 7, 8, 9, 10, 11, 12, 13, 14, 15, 16, 17, 18, 19, 20, 21, 22, 23, 24, 25] (by kernel_rfl) (by kernel_rfl) ?_
              simp only [selSt, sel, List.map_cons, List.map_nil, List.getD_cons_succ, List.getD_cons_zero]
              refine st_nil fun K3 hK3 => ?_
              repeat (go_big_quiet_step (fail))
              refine wpQuiet_nil (hK3 _ ?_)
              clear hK3 K3
              go_wp2
              go_ret
              exact Tells.no HX.out (HRR.out)
            by_cases e1 : (L i).b ≤ (L k).e
            · have HX : Hid (¬ okAt L N i) := fun h => by have := h.busy k HK.out HCE.out; omega
              have e0' : decide ((L k).e ≤ 0) = false := decide_eq_false e0
              go_upto_region 12 with (fail)
              refine wp_region_stages Grow (kept_refl _) (kept_trans _) [] [0, 1, 2, 3, 4, 5, 6, 7, 8, 9, 10, 11, 12, 13, 14, 15, 16, 17, 18, 19, 20, 21, 22, 23, 24, 25] (by kernel_rfl) (by kernel_rfl) ?_
              simp only [selSt, sel, List.map_cons, List.map_nil, List.getD_cons_succ, List.getD_cons_zero]
              refine st_nil fun K3 hK3 => ?_
              repeat (go_big_quiet_step (fail))
              refine wpQuiet_nil (hK3 _ ?_)
              clear hK3 K3
              go_wp2
              go_ret
              exact Tells.no HX.out (HRR.out)
            have HP : Hid (0 < (L k).e ∧ (L k).e < (L i).b) := by unfold Hid; omega
            have e0' : decide ((L k).e ≤ 0) = false := decide_eq_false e0
            have e1' : decide ((L i).b ≤ (L k).e) = false := decide_eq_false e1
            go_upto_region 12 with (fail)
            refine wp_region_stages Grow (kept_refl _) (kept_trans _) [] [0, 1, 2, 3, 4, 5, 6, 7, 8, 9, 10, 11, 12, 13, 14, 15, 16, 17, 18, 19, 20, 21, 22, 23, 24, 25] (by kernel_rfl) (by kernel_rfl) ?_
            simp only [selSt, sel, List.map_cons, List.map_nil, List.getD_cons_succ, List.getD_cons_zero]
            refine st_nil fun K3 hK3 => ?_
            repeat (go_big_quiet_step (fail))
            refine wpQuiet_nil (hK3 _ ?_)
            clear hK3 K3
            go_wp2
            go_roundg (gk - 1)
            case measure => have := HG.out; have := HK.out; omega
            case rel => exact ⟨k + 1, by have := HG.out; have := HK.out; omega, by go_num, HGR.out.drew, fun t ht htc => by
              by_cases e : t = k
              · subst e; exact HP.out
              · exact HOK.out t (by omega) htc⟩
          · have HCE := Lib.hid hce
            have hcb : ((L k).c == (L i).c) = false := by simpa using hce
            clear hce
            have v0 := up_cell (F := fun _ => False) (w := wr.drew) r0 id
            have v1 := up_cell (F := fun _ => False) (w := wr.drew) q0 id
            go_upto_region 12 with (fail)
            refine wp_region_stages Grow (kept_refl _) (kept_trans _) [] [0, 1, 2, 3, 4, 5, 6, 7, 8, 9, 10, 11, 12, 13, 14, 15, 16, 17, 18, 19, 20, 21, 22, 23, 24, 25] (by kernel_rfl) (by kernel_rfl) ?_
            simp only [selSt, sel, List.map_cons, List.map_nil, List.getD_cons_succ, List.getD_cons_zero]
            refine st_nil fun K3 hK3 => ?_
            repeat (go_big_quiet_step (fail))
            refine wpQuiet_nil (hK3 _ ?_)
            clear hK3 K3
            go_wp2
            go_roundg (gk - 1)
            case measure => have := HG.out; have := HK.out; omega
            case rel => exact ⟨k + 1, by have := HG.out; have := HK.out; omega, by go_num, HGR.out.drew, fun t ht htc => by
              by_cases e : t = k
              · subst e; exact absurd htc HCE.out
              · exact HOK.out t (by omega) htc⟩
        · have hkN : k = i := by have := HG.out; omega
          subst hkN
          have HP : Hid (okAt L N k) := ⟨HC.out, HB.out, HM.out, HT.out, HOK.out⟩
          have HRW : Hid (Grow w wr) := HGE.out.trans HGR.out
          clear hk
          go_wp2
          go_ret
          exact Tells.yes HP.out HRW.out
  have hpos : (0 : Int) < (i : Int) := by omega
  have hposn : 0 < i := by omega
  have hge : (0 : Int) ≤ (i : Int) - 1 := by omega
  have hlt : (i : Int) - 1 < (n : Int) := by omega
  have p11 : we.cell? ⟨b, off + (i - 1) * 14 + 11, none⟩ = some (.int .i64 (L (i - 1)).b) := by
    exact (HALE.out (i - 1) (by have := HI.out; omega)).2.1
  have up := up_cell (F := fun _ => False) (w := we.drew) p11 id
  have HI0 := Lib.hid hi0
  clear hi0
  by_cases k3 : (L i).b < (L (i - 1)).b
  · have HX : Hid (¬ okAt L N i) := fun h => by have := h.mono (i - 1) (by have := HI0.out; omega); omega
    refine wp_region_stages Grow (kept_refl _) (kept_trans _) [] [0, 1, 2, 3, 4, 5, 6, 7, 8, 9, 10, 11, 12, 13, 14, 15, 16, 17, 18, 19, 20, 21, 22, 23, 24, 25, 26, 27, 28] (by kernel_rfl) (by kernel_rfl) ?_
    simp only [selSt, sel, List.map_cons, List.map_nil, List.getD_cons_succ, List.getD_cons_zero]
    refine st_nil fun K2 hK2 => ?_
    repeat (go_big_quiet_step (fail))
    refine wpQuiet_nil (hK2 _ ?_)
    clear hK2 K2
    go_wp2
    go_ret
    exact Tells.no HX.out (HGE.out.drew)
  have k3' : decide ((L i).b < (L (i - 1)).b) = false := decide_eq_false k3
  have HM : Hid (∀ k, k + 1 = i → (L k).b ≤ (L i).b) := fun k hk => by
    have e : k = i - 1 := by omega
    rw [e]
    omega
  refine wp_region_stages Grow (kept_refl _) (kept_trans _) [] [0, 1, 2, 3, 4, 5, 6, 7, 8, 9, 10, 11, 12, 13, 14, 15, 16, 17, 18, 19, 20, 21, 22, 23, 24, 25, 26, 27, 28] (by kernel_rfl) (by kernel_rfl) ?_
  simp only [selSt, sel, List.map_cons, List.map_nil, List.getD_cons_succ, List.getD_cons_zero]
  refine st_nil fun K2 hK2 => ?_
  repeat (go_big_quiet_step (fail))
  refine wpQuiet_nil (hK2 _ ?_)
  clear hK2 K2
  clear u0 u11 up k0 k0' k1 k1' k2 k2' k3 k3' hpos hposn hge hlt p11
  by_cases e0 : 0 < (L i).e
  · by_cases b1 : (L i).s < (L i).b
    · have HX : Hid (¬ okAt L N i) := fun h => by have h1 := h.tm; unfold inT inTn at h1; rw [if_pos e0] at h1; omega
      go_wp2
      go_ret
      exact Tells.no HX.out (HGE.out.drew)
    by_cases b2 : (L i).e < (L i).s
    · have HX : Hid (¬ okAt L N i) := fun h => by have h1 := h.tm; unfold inT inTn at h1; rw [if_pos e0] at h1; omega
      have b1' : decide ((L i).s < (L i).b) = false := decide_eq_false b1
      go_wp2
      go_ret
      exact Tells.no HX.out (HGE.out.drew)
    have HT : Hid (inT (L i)) := by unfold Hid inT inTn; rw [if_pos e0]; omega
    have b1' : decide ((L i).s < (L i).b) = false := decide_eq_false b1
    go_upto_region 9 with (fail)
    go_wp2
    go_loopg [8] i (fun gx v wr => ∃ k : Nat, k + gx = i ∧ v = .int .i64 (k : Int) ∧ Grow we wr ∧ ∀ t, t < k → (L t).c = (L i).c → 0 < (L t).e ∧ (L t).e < (L i).b)
    case atStart => exact ⟨0, by omega, rfl, (Kept.refl _ _).drew, fun t ht => absurd ht (Nat.not_lt_zero t)⟩
    case round =>
      obtain ⟨k, hg, rfl, hgr, hok⟩ := hrel
      have HG := Lib.hid hg
      have HGR := Lib.hid hgr
      have HOK := Lib.hid hok
      have HRR : Hid (Grow w wr.drew) := (HGE.out.trans hgr).drew
      clear hg hgr hok
      by_cases hk : k < i
      · have hkz : (k : Int) < (i : Int) := by omega
        have hkn : (k : Int) < (n : Int) := by omega
        have HK := Lib.hid hk
        have hke := HALE.out k (by have := HI.out; omega)
        have r0 := HGR.out.cellN hke.1 id
        have r13 := HGR.out.cellN hke.2.2 id
        have q0 := HGR.out.cellN s0 id
        have q11 := HGR.out.cellN s11 id
        clear hk hke
        by_cases hce : (L k).c = (L i).c
        · have HCE := Lib.hid hce
          rw [hce] at r0
          have v0 := up_cell (F := fun _ => False) (w := wr.drew) r0 id
          have v13 := up_cell (F := fun _ => False) (w := wr.drew) r13 id
          have v1 := up_cell (F := fun _ => False) (w := wr.drew) q0 id
          have v11 := up_cell (F := fun _ => False) (w := wr.drew) q11 id
          clear hce
          by_cases e0 : (L k).e ≤ 0
          · have HX : Hid (¬ okAt L N i) := fun h => by have := h.busy k HK.out HCE.out; omega
            go_upto_region 12 with (fail)
            refine wp_region_stages Grow (kept_refl _) (kept_trans _) [] [0, 1, 2, 3, 4, 5, 6, 7, 8, 9, 10, 11, 12, 13, 14, 15, 16, 17, 18, 19, 20, 21, 22, 23, 24, 25] (by kernel_rfl) (by kernel_rfl) ?_
            simp only [selSt, sel, List.map_cons, List.map_nil, List.getD_cons_succ, List.getD_cons_zero]
            refine st_nil fun K3 hK3 => ?_
            repeat (go_big_quiet_step (fail))
            refine wpQuiet_nil (hK3 _ ?_)
            clear hK3 K3
            go_wp2
            go_ret
            exact Tells.no HX.out (HRR.out)
          by_cases e1 : (L i).b ≤ (L k).e
          · have HX : Hid (¬ okAt L N i) := fun h => by have := h.busy k HK.out HCE.out; omega
            have e0' : decide ((L k).e ≤ 0) = false := decide_eq_false e0
            go_upto_region 12 with (fail)
            refine wp_region_stages Grow (kept_refl _) (kept_trans _) [] [0, 1, 2, 3, 4, 5, 6, 7, 8, 9, 10, 11, 12, 13, 14, 15, 16, 17, 18, 19, 20, 21, 22, 23, 24, 25] (by kernel_rfl) (by kernel_rfl) ?_
            simp only [selSt, sel, List.map_cons, List.map_nil, List.getD_cons_succ, List.getD_cons_zero]
            refine st_nil fun K3 hK3 => ?_
            repeat (go_big_quiet_step (fail))
            refine wpQuiet_nil (hK3 _ ?_)
            clear hK3 K3
            go_wp2
            go_ret
            exact Tells.no HX.out (HRR.out)
          have HP : Hid (0 < (L k).e ∧ (L k).e < (L i).b) := by unfold Hid; omega
          have e0' : decide ((L k).e ≤ 0) = false := decide_eq_false e0
          have e1' : decide ((L i).b ≤ (L k).e) = false := decide_eq_false e1
          go_upto_region 12 with (fail)
          refine wp_region_stages Grow (kept_refl _) (kept_trans _) [] [0, 1, 2, 3, 4, 5, 6, 7, 8, 9, 10, 11, 12, 13, 14, 15, 16, 17, 18, 19, 20, 21, 22, 23, 24, 25] (by kernel_rfl) (by kernel_rfl) ?_
          simp only [selSt, sel, List.map_cons, List.map_nil, List.getD_cons_succ, List.getD_cons_zero]
          refine st_nil fun K3 hK3 => ?_
          repeat (go_big_quiet_step (fail))
          refine wpQuiet_nil (hK3 _ ?_)
          clear hK3 K3
          go_wp2
          go_roundg (gk - 1)
          case measure => have := HG.out; have := HK.out; omega
          case rel => exact ⟨k + 1, by have := HG.out; have := HK.out; omega, by go_num, HGR.out.drew, fun t ht htc => by
            by_cases e : t = k
            · subst e; exact HP.out
            · exact HOK.out t (by omega) htc⟩
        · have HCE := Lib.hid hce
          have hcb : ((L k).c == (L i).c) = false := by simpa using hce
          clear hce
          have v0 := up_cell (F := fun _ => False) (w := wr.drew) r0 id
          have v1 := up_cell (F := fun _ => False) (w := wr.drew) q0 id
          go_upto_region 12 with (fail)
          refine wp_region_stages Grow (kept_refl _) (kept_trans _) [] [0, 1, 2, 3, 4, 5, 6, 7, 8, 9, 10, 11, 12, 13, 14, 15, 16, 17, 18, 19, 20, 21, 22, 23, 24, 25] (by kernel_rfl) (by kernel_rfl) ?_
          simp only [selSt, sel, List.map_cons, List.map_nil, List.getD_cons_succ, List.getD_cons_zero]
          refine st_nil fun K3 hK3 => ?_
          repeat (go_big_quiet_step (fail))
          refine wpQuiet_nil (hK3 _ ?_)
          clear hK3 K3
          go_wp2
          go_roundg (gk - 1)
          case measure => have := HG.out; have := HK.out; omega
          case rel => exact ⟨k + 1, by have := HG.out; have := HK.out; omega, by go_num, HGR.out.drew, fun t ht htc => by
            by_cases e : t = k
            · subst e; exact absurd htc HCE.out
            · exact HOK.out t (by omega) htc⟩
      · have hkN : k = i := by have := HG.out; omega
        subst hkN
        have HP : Hid (okAt L N k) := ⟨HC.out, HB.out, HM.out, HT.out, HOK.out⟩
        have HRW : Hid (Grow w wr) := HGE.out.trans HGR.out
        clear hk
        go_wp2
        go_ret
        exact Tells.yes HP.out HRW.out
  · by_cases e1 : (L i).e < 0
    · have HX : Hid (¬ okAt L N i) := fun h => by have h1 := ok_end h; omega
      go_wp2
      go_ret
      exact Tells.no HX.out (HGE.out.drew)
    have e2 : (L i).e = 0 := by omega
    have e1' : decide ((L i).e < 0) = false := decide_eq_false e1
    by_cases z0 : (L i).s = 0
    · have HT : Hid (inT (L i)) := by unfold Hid inT inTn; rw [if_neg e0]; exact ⟨e2, .inl z0⟩
      rw [z0] at s12
      clear e2 z0
      go_upto_region 9 with (fail)
      go_wp2
      go_loopg [8] i (fun gx v wr => ∃ k : Nat, k + gx = i ∧ v = .int .i64 (k : Int) ∧ Grow we wr ∧ ∀ t, t < k → (L t).c = (L i).c → 0 < (L t).e ∧ (L t).e < (L i).b)
      case atStart => exact ⟨0, by omega, rfl, (Kept.refl _ _).drew, fun t ht => absurd ht (Nat.not_lt_zero t)⟩
      case round =>
        obtain ⟨k, hg, rfl, hgr, hok⟩ := hrel
        have HG := Lib.hid hg
        have HGR := Lib.hid hgr
        have HOK := Lib.hid hok
        have HRR : Hid (Grow w wr.drew) := (HGE.out.trans hgr).drew
        clear hg hgr hok
        by_cases hk : k < i
        · have hkz : (k : Int) < (i : Int) := by omega
          have hkn : (k : Int) < (n : Int) := by omega
          have HK := Lib.hid hk
          have hke := HALE.out k (by have := HI.out; omega)
          have r0 := HGR.out.cellN hke.1 id
          have r13 := HGR.out.cellN hke.2.2 id
          have q0 := HGR.out.cellN s0 id
          have q11 := HGR.out.cellN s11 id
          clear hk hke
          by_cases hce : (L k).c = (L i).c
          · have HCE := Lib.hid hce
            rw [hce] at r0
            have v0 := up_cell (F := fun _ => False) (w := wr.drew) r0 id
            have v13 := up_cell (F := fun _ => False) (w := wr.drew) r13 id
            have v1 := up_cell (F := fun _ => False) (w := wr.drew) q0 id
            have v11 := up_cell (F := fun _ => False) (w := wr.drew) q11 id
            clear hce
            by_cases e0 : (L k).e ≤ 0
            · have HX : Hid (¬ okAt L N i) := fun h => by have := h.busy k HK.out HCE.out; omega
              go_upto_region 12 with (fail)
              refine wp_region_stages Grow (kept_refl _) (kept_trans _) [] [0, 1, 2, 3, 4, 5, 6, 7, 8, 9, 10, 11, 12, 13, 14, 15, 16, 17, 18, 19, 20, 21, 22, 23, 24, 25] (by kernel_rfl) (by kernel_rfl) ?_
              simp only [selSt, sel, List.map_cons, List.map_nil, List.getD_cons_succ, List.getD_cons_zero]
              refine st_nil fun K3 hK3 => ?_
              repeat (go_big_quiet_step (fail))
              refine wpQuiet_nil (hK3 _ ?_)
              clear hK3 K3
              go_wp2
              go_ret
              exact Tells.no HX.out (HRR.out)
            by_cases e1 : (L i).b ≤ (L k).e
            · have HX : Hid (¬ okAt L N i) := fun h => by have := h.busy k HK.out HCE.out; omega
              have e0' : decide ((L k).e ≤ 0) = false := decide_eq_false e0
              go_upto_region 12 with (fail)
              refine wp_region_stages Grow (kept_refl _) (kept_trans _) [] [0, 1, 2, 3, 4, 5, 6, 7, 8, 9, 10, 11, 12, 13, 14, 15, 16, 17, 18, 19, 20, 21, 22, 23, 24, 25] (by kernel_rfl) (by kernel_rfl) ?_
              simp only [selSt, sel, List.map_cons, List.map_nil, List.getD_cons_succ, List.getD_cons_zero]
              refine st_nil fun K3 hK3 => ?_
              repeat (go_big_quiet_step (fail))
              refine wpQuiet_nil (hK3 _ ?_)
              clear hK3 K3
              go_wp2
              go_ret
              exact Tells.no HX.out (HRR.out)
            have HP : Hid (0 < (L k).e ∧ (L k).e < (L i).b) := by unfold Hid; omega
            have e0' : decide ((L k).e ≤ 0) = false := decide_eq_false e0
            have e1' : decide ((L i).b ≤ (L k).e) = false := decide_eq_false e1
            go_upto_region 12 with (fail)
            refine wp_region_stages Grow (kept_refl _) (kept_trans _) [] [0, 1, 2, 3, 4, 5, 6, 7, 8, 9, 10, 11, 12, 13, 14, 15, 16, 17, 18, 19, 20, 21, 22, 23, 24, 25] (by kernel_rfl) (by kernel_rfl) ?_
            simp only [selSt, sel, List.map_cons, List.map_nil, List.getD_cons_succ, List.getD_cons_zero]
            refine st_nil fun K3 hK3 => ?_
            repeat (go_big_quiet_step (fail))
            refine wpQuiet_nil (hK3 _ ?_)
            clear hK3 K3
            go_wp2
            go_roundg (gk - 1)
            case measure => have := HG.out; have := HK.out; omega
            case rel => exact ⟨k + 1, by have := HG.out; have := HK.out; omega, by go_num, HGR.out.drew, fun t ht htc => by
              by_cases e : t = k
              · subst e; exact HP.out
              · exact HOK.out t (by omega) htc⟩
          · have HCE := Lib.hid hce
            have hcb : ((L k).c == (L i).c) = false := by simpa using hce
            clear hce
            have v0 := up_cell (F := fun _ => False) (w := wr.drew) r0 id
            have v1 := up_cell (F := fun _ => False) (w := wr.drew) q0 id
            go_upto_region 12 with (fail)
            refine wp_region_stages Grow (kept_refl _) (kept_trans _) [] [0, 1, 2, 3, 4, 5, 6, 7, 8, 9, 10, 11, 12, 13, 14, 15, 16, 17, 18, 19, 20, 21, 22, 23, 24, 25] (by kernel_rfl) (by kernel_rfl) ?_
            simp only [selSt, sel, List.map_cons, List.map_nil, List.getD_cons_succ, List.getD_cons_zero]
            refine st_nil fun K3 hK3 => ?_
            repeat (go_big_quiet_step (fail))
            refine wpQuiet_nil (hK3 _ ?_)
            clear hK3 K3
            go_wp2
            go_roundg (gk - 1)
            case measure => have := HG.out; have := HK.out; omega
            case rel => exact ⟨k + 1, by have := HG.out; have := HK.out; omega, by go_num, HGR.out.drew, fun t ht htc => by
              by_cases e : t = k
              · subst e; exact absurd htc HCE.out
              · exact HOK.out t (by omega) htc⟩
        · have hkN : k = i := by have := HG.out; omega
          subst hkN
          have HP : Hid (okAt L N k) := ⟨HC.out, HB.out, HM.out, HT.out, HOK.out⟩
          have HRW : Hid (Grow w wr) := HGE.out.trans HGR.out
          clear hk
          go_wp2
          go_ret
          exact Tells.yes HP.out HRW.out
    have z0' : ((L i).s != 0) = true := by simpa using z0
    by_cases b1 : (L i).s < (L i).b
    · have HX : Hid (¬ okAt L N i) := fun h => by have h1 := h.tm; unfold inT inTn at h1; rw [if_neg e0] at h1; omega
      clear e2 z0
      go_wp2
      go_ret
      exact Tells.no HX.out (HGE.out.drew)
    have HT : Hid (inT (L i)) := by unfold Hid inT inTn; rw [if_neg e0]; exact ⟨e2, .inr (by omega)⟩
    clear e2 z0
    go_upto_region 9 with (fail)
    go_wp2
    go_loopg [8] i (fun gx v wr => ∃ k : Nat, k + gx = i ∧ v = .int .i64 (k : Int) ∧ Grow we wr ∧ ∀ t, t < k → (L t).c = (L i).c → 0 < (L t).e ∧ (L t).e < (L i).b)
    case atStart => exact ⟨0, by omega, rfl, (Kept.refl _ _).drew, fun t ht => absurd ht (Nat.not_lt_zero t)⟩
    case round =>
      obtain ⟨k, hg, rfl, hgr, hok⟩ := hrel
      have HG := Lib.hid hg
      have HGR := Lib.hid hgr
      have HOK := Lib.hid hok
      have HRR : Hid (Grow w wr.drew) := (HGE.out.trans hgr).drew
      clear hg hgr hok
      by_cases hk : k < i
      · have hkz : (k : Int) < (i : Int) := by omega
        have hkn : (k : Int) < (n : Int) := by omega
        have HK := Lib.hid hk
        have hke := HALE.out k (by have := HI.out; omega)
        have r0 := HGR.out.cellN hke.1 id
        have r13 := HGR.out.cellN hke.2.2 id
        have q0 := HGR.out.cellN s0 id
        have q11 := HGR.out.cellN s11 id
        clear hk hke
        by_cases hce : (L k).c = (L i).c
        · have HCE := Lib.hid hce
          rw [hce] at r0
          have v0 := up_cell (F := fun _ => False) (w := wr.drew) r0 id
          have v13 := up_cell (F := fun _ => False) (w := wr.drew) r13 id
          have v1 := up_cell (F := fun _ => False) (w := wr.drew) q0 id
          have v11 := up_cell (F := fun _ => False) (w := wr.drew) q11 id
          clear hce
          by_cases e0 : (L k).e ≤ 0
          · have HX : Hid (¬ okAt L N i) := fun h => by have := h.busy k HK.out HCE.out; omega
            go_upto_region 12 with (fail)
            refine wp_region_stages Grow (kept_refl _) (kept_trans _) [] [0, 1, 2, 3, 4, 5, 6, 7, 8, 9, 10, 11, 12, 13, 14, 15, 16, 17, 18, 19, 20, 21, 22, 23, 24, 25] (by kernel_rfl) (by kernel_rfl) ?_
            simp only [selSt, sel, List.map_cons, List.map_nil, List.getD_cons_succ, List.getD_cons_zero]
            refine st_nil fun K3 hK3 => ?_
            repeat (go_big_quiet_step (fail))
            refine wpQuiet_nil (hK3 _ ?_)
            clear hK3 K3
            go_wp2
            go_ret
            exact Tells.no HX.out (HRR.out)
          by_cases e1 : (L i).b ≤ (L k).e
          · have HX : Hid (¬ okAt L N i) := fun h => by have := h.busy k HK.out HCE.out; omega
            have e0' : decide ((L k).e ≤ 0) = false := decide_eq_false e0
            go_upto_region 12 with (fail)
            refine wp_region_stages Grow (kept_refl _) (kept_trans _) [] [0, 1, 2, 3, 4, 5, 6, 7, 8, 9, 10, 11, 12, 13, 14, 15, 16, 17, 18, 19, 20, 21, 22, 23, 24, 25] (by kernel_rfl) (by kernel_rfl) ?_
            simp only [selSt, sel, List.map_cons, List.map_nil, List.getD_cons_succ, List.getD_cons_zero]
            refine st_nil fun K3 hK3 => ?_
            repeat (go_big_quiet_step (fail))
            refine wpQuiet_nil (hK3 _ ?_)
            clear hK3 K3
            go_wp2
            go_ret
            exact Tells.no HX.out (HRR.out)
          have HP : Hid (0 < (L k).e ∧ (L k).e < (L i).b) := by unfold Hid; omega
          have e0' : decide ((L k).e ≤ 0) = false := decide_eq_false e0
          have e1' : decide ((L i).b ≤ (L k).e) = false := decide_eq_false e1
          go_upto_region 12 with (fail)
          refine wp_region_stages Grow (kept_refl _) (kept_trans _) [] [0, 1, 2, 3, 4, 5, 6, 7, 8, 9, 10, 11, 12, 13, 14, 15, 16, 17, 18, 19, 20, 21, 22, 23, 24, 25] (by kernel_rfl) (by kernel_rfl) ?_
          simp only [selSt, sel, List.map_cons, List.map_nil, List.getD_cons_succ, List.getD_cons_zero]
          refine st_nil fun K3 hK3 => ?_
          repeat (go_big_quiet_step (fail))
          refine wpQuiet_nil (hK3 _ ?_)
          clear hK3 K3
          go_wp2
          go_roundg (gk - 1)
          case measure => have := HG.out; have := HK.out; omega
          case rel => exact ⟨k + 1, by have := HG.out; have := HK.out; omega, by go_num, HGR.out.drew, fun t ht htc => by
            by_cases e : t = k
            · subst e; exact HP.out
            · exact HOK.out t (by omega) htc⟩
        · have HCE := Lib.hid hce
          have hcb : ((L k).c == (L i).c) = false := by simpa using hce
          clear hce
          have v0 := up_cell (F := fun _ => False) (w := wr.drew) r0 id
          have v1 := up_cell (F := fun _ => False) (w := wr.drew) q0 id
          go_upto_region 12 with (fail)
          refine wp_region_stages Grow (kept_refl _) (kept_trans _) [] [0, 1, 2, 3, 4, 5, 6, 7, 8, 9, 10, 11, 12, 13, 14, 15, 16, 17, 18, 19, 20, 21, 22, 23, 24, 25] (by kernel_rfl) (by kernel_rfl) ?_
          simp only [selSt, sel, List.map_cons, List.map_nil, List.getD_cons_succ, List.getD_cons_zero]
          refine st_nil fun K3 hK3 => ?_
          repeat (go_big_quiet_step (fail))
          refine wpQuiet_nil (hK3 _ ?_)
          clear hK3 K3
          go_wp2
          go_roundg (gk - 1)
          case measure => have := HG.out; have := HK.out; omega
          case rel => exact ⟨k + 1, by have := HG.out; have := HK.out; omega, by go_num, HGR.out.drew, fun t ht htc => by
            by_cases e : t = k
            · subst e; exact absurd htc HCE.out
            · exact HOK.out t (by omega) htc⟩
      · have hkN : k = i := by have := HG.out; omega
        subst hkN
        have HP : Hid (okAt L N k) := ⟨HC.out, HB.out, HM.out, HT.out, HOK.out⟩
        have HRW : Hid (Grow w wr) := HGE.out.trans HGR.out
        clear hk
        go_wp2
        go_ret
        exact Tells.yes HP.out HRW.out
end
#print axioms alone_any
end Go.Proofs.Ytjdlpknflhgkfaa.HsRA
