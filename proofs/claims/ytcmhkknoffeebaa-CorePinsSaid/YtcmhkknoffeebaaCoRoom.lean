/-
  Package core (chapter 11): Room, at every core and page.
-/
import Derived.Test.YtcmhkknoffeebaaCoRepl
namespace Go.Proofs.Ytcmhkknoffeebaa.CoS
open Go.ChangeShapes Go.WideShapes Go.ChangeAt Go.RowKit
open Go.Proofs.Ytcmhkknoffeebaa.Mem Go.Proofs.Ytcmhkknoffeebaa.Blk Go.Proofs.Ytcmhkknoffeebaa.Cells Go.Proofs.Ytcmhkknoffeebaa.Orow Go.Proofs.Ytcmhkknoffeebaa.ArM Go.Proofs.Ytcmhkknoffeebaa.ArC Go.Proofs.Ytcmhkknoffeebaa.ArD Go.Proofs.Ytcmhkknoffeebaa.ArR Go.Proofs.Ytcmhkknoffeebaa.ArT Go.Proofs.Ytcmhkknoffeebaa.ArB Go.Proofs.Ytcmhkknoffeebaa.ArN Go.Proofs.Ytcmhkknoffeebaa.ListM Go.Proofs.Ytcmhkknoffeebaa.CoM Go.Proofs.Ytcmhkknoffeebaa.CoC Go.Proofs.Ytcmhkknoffeebaa.CoO Go.Proofs.Ytcmhkknoffeebaa.CoR Go.Proofs.Ytcmhkknoffeebaa.RingA Go.Proofs.Ytcmhkknoffeebaa.RingT Go.Proofs.Ytcmhkknoffeebaa.Stages

/-- Three numbers as a result. -/
def ansV (x : Ans) : Value := .tuple #[.int .i64 x.e, .int .i64 x.f, .int .i64 x.v]
theorem settle_used {c : Co} {f : Nat} (h : f ∈ c.settle.L) : f < c.a.n ∧ (c.a.F f).st = 1 := by
  unfold Co.settle at h
  rw [List.mem_filter] at h
  have h2 := h.2
  unfold Co.keep at h2
  have := find_is (of_decide_eq_true h2)
  exact ⟨this.1, this.2.1⟩

section
variable {w w' : World} {G H F : Nat → Prop} {B d da dl Dl dr : Nat} {c : Co}
theorem room_nil (p : Int) : Calls Try.prog 11 #[.pointer none, .int .i64 p] w fun e w' => e = .returned (.tuple #[.int .i64 12, .int .i64 (-1), .int .i64 (-1)]) ∧ w = w' := by
  generalize hP : (fun (e : Ending) (w' : World) => e = .returned (.tuple #[.int .i64 12, .int .i64 (-1), .int .i64 (-1)]) ∧ w = w') = P
  have HP := Lib.hid hP
  clear hP
  go_enter Try.func11, Try.ntmps11
  go_wp2
  rw [← HP.out]
  exact ⟨rfl, rfl⟩
set_option maxHeartbeats 2000000 in
theorem room_parts (h : Parts w G B d da dl Dl dr c) (p : Int) : Calls Try.prog 11 #[.pointer (some ⟨d, 0, none⟩), .int .i64 p] w (CPost G B d w (ansV (c.settle.roomC p)) (c.settle.room p)) := by
  have HS := Lib.hid (settle_any h)
  have HU : Hid (∀ f ∈ c.settle.L, f < c.settle.a.n ∧ (c.settle.a.F f).st = 1) := fun f hf => settle_used (c := c) hf
  clear h
  generalize hP : CPost G B d w (ansV (c.settle.roomC p)) (c.settle.room p) = P
  have HP := Lib.hid hP
  clear hP
  go_enter Try.func11, Try.ntmps11
  go_upto_region 4 with (go_at_call 21; (with_reducible refine HS.out.mono ?_); rintro e w1 ⟨rfl, hp, hk⟩; have H1 := Lib.hid hp; have HK1 := Lib.hid hk; clear hp hk)
  generalize hc1 : c.settle = c1 at *
  clear hc1 HS
  have c0 := H1.out.c0
  have HF := Lib.hid (ArD.find_any H1.out.ar p)
  have HFR := Lib.hid (ArD.free_any H1.out.ar)
  by_cases h1 : c1.a.find p ≠ -1
  · have HQ : Hid (c1.roomC p = ⟨13, -1, -1⟩ ∧ c1.room p = c1) := by
      unfold Co.roomC Co.room
      rw [if_pos h1, if_pos h1]
      exact ⟨rfl, rfl⟩
    rw [HQ.out.1, HQ.out.2] at HP
    have h1' : (c1.a.find p == -1) = false := by rw [beq_eq_false_iff_ne]; exact h1
    clear HQ HFR h1
    generalize c1.a.find p = q at *
    go_wp2_with (go_at_call 12; (with_reducible refine HF.out.mono ?_); rintro e w' ⟨rfl, rfl⟩)
    rw [← HP.out]
    exact ⟨rfl, ⟨_, _, _, _, H1.out⟩, KF.cf HK1.out⟩
  · have h1n : c1.a.find p = -1 := by omega
    rw [h1n] at HF
    by_cases h2 : p < 0 ∨ 48 ≤ p
    · have HQ : Hid (c1.roomC p = ⟨1, -1, -1⟩ ∧ c1.room p = c1) := by
        unfold Co.roomC Co.room
        rw [if_neg h1, if_neg h1, if_pos h2, if_pos h2]
        exact ⟨rfl, rfl⟩
      rw [HQ.out.1, HQ.out.2] at HP
      clear HQ HFR h1 h1n
      rcases h2 with h2 | h2
      · go_wp2_with (go_at_call 12; (with_reducible refine HF.out.mono ?_); rintro e w' ⟨rfl, rfl⟩)
        rw [← HP.out]
        exact ⟨rfl, ⟨_, _, _, _, H1.out⟩, KF.cf HK1.out⟩
      · have h3 : ¬ p < 0 := by omega
        go_wp2_with (go_at_call 12; (with_reducible refine HF.out.mono ?_); rintro e w' ⟨rfl, rfl⟩)
        rw [← HP.out]
        exact ⟨rfl, ⟨_, _, _, _, H1.out⟩, KF.cf HK1.out⟩
    · have hp0 : 0 ≤ p := by omega
      have hp1 : p < 48 := by omega
      have hcan : c1.a.can p = true := can_of hp0 hp1 h1n
      cases hq : c1.a.Q with
      | cons f q =>
        have HQ : Hid (c1.roomC p = ⟨0, (f : Int), -1⟩ ∧ c1.room p = c1.takeF p f) := by
          unfold Co.roomC Co.room
          rw [if_neg h1, if_neg h1, if_neg h2, if_neg h2, hq]
          exact ⟨rfl, rfl⟩
        rw [HQ.out.1, HQ.out.2] at HP
        have HT := Lib.hid (ctake_any H1.out hcan hq)
        rw [hq] at HFR
        have hlen : (0 : Int) < (((f :: q).length : Nat) : Int) := by simp only [List.length_cons]; omega
        clear HQ h1 h1n h2 hcan hq
        generalize (((f :: q).length : Nat) : Int) = ln at *
        go_wp2_with (first
          | (go_at_call 12; (with_reducible refine HF.out.mono ?_); rintro e w' ⟨rfl, rfl⟩)
          | (go_at_call 25; (with_reducible refine HFR.out.mono ?_); rintro e w' ⟨rfl, rfl⟩)
          | (go_at_call 26; (with_reducible refine HT.out.mono ?_); rintro e w2 ⟨rfl, hp, hk⟩; have H2 := Lib.hid hp; have HK2 := Lib.hid hk; clear hp hk))
        rw [← HP.out]
        exact ⟨rfl, ⟨_, _, _, _, H2.out⟩, KF.cf (KF.trans HK1.out HK2.out)⟩
      | nil =>
        have HQ : Hid (c1.roomC p = c1.drain.replC ∧ c1.room p = c1.drain.repl p) := by
          unfold Co.roomC Co.room
          rw [if_neg h1, if_neg h1, if_neg h2, if_neg h2, hq]
          exact ⟨rfl, rfl⟩
        rw [HQ.out.1, HQ.out.2] at HP
        have HCAN := Lib.hid hcan
        have HQN := Lib.hid hq
        rw [hq, List.length_nil] at HFR
        simp only [Int.cast_ofNat_Int] at HFR
        clear HQ h1 h1n h2 hcan hq
        go_upto_region 10 with (first
          | (go_at_call 12; (with_reducible refine HF.out.mono ?_); rintro e w' ⟨rfl, rfl⟩)
          | (go_at_call 25; (with_reducible refine HFR.out.mono ?_); rintro e w' ⟨rfl, rfl⟩))
        clear c0 HF HFR
        have H3 := Lib.hid (H1.out.grow (Kept.drew' w1))
        have c1' := H1.out.c1
        have c2 := H1.out.c2
        have HLT := Lib.hid H1.out.lt
        have HT := Lib.hid (RingT.gdrain_any H3.out.ri)
        have hn1 : ¬ (RingC.RF B dr w1.drew d ∨ Rowed.Own dl Dl d) := by
          have hh := H1.out
          rintro (x | x | x)
          · rcases x with x | x
            · exact hh.nr x
            · exact (isCells_row hh.hd).notChan x.2
          · exact hh.nl x
          · exact hh.nD x
        have q1 := up_cell (F := fun k => RingC.RF B dr w1.drew k ∨ Rowed.Own dl Dl k) (w := w1.drew) (p := ⟨d, 1, none⟩) c1' hn1
        have q2 := up_cell (F := fun k => RingC.RF B dr w1.drew k ∨ Rowed.Own dl Dl k) (w := w1.drew) (p := ⟨d, 2, none⟩) c2 hn1
        clear hn1
        refine wp_region_stages (Kept fun k => RingC.RF B dr w1.drew k ∨ Rowed.Own dl Dl k) (kept_refl _) (kept_trans _) [([0, 1, 2, 3, 4, 5, 6, 7], 8), ([], 9)] [] (by kernel_rfl) (by kernel_rfl) ?_
        simp only [selSt, sel, List.map_cons, List.map_nil, List.getD_cons_succ, List.getD_cons_zero]
        refine st_cons fun K1 hK1 => ?_
        repeat (go_big_quiet_step (fail))
        refine wpQuiet_nil ?_
        clear q1 q2
        go_wp2_with (go_at_call 27; (with_reducible refine HT.out.mono ?_); rintro e w4 ⟨A, cp, rfl, hs, hn, hr, hk⟩; have HSL := Lib.hid hs; have HN := Lib.hid hn; have HKR := Lib.hid hk; have H4 := Lib.hid (H3.out.rng hr hk (Nat.zero_le _)); clear hs hn hr hk)
        refine norm_up (hK1 _ _ (HKR.out.mono fun k _ x => .inl x) (st_cons fun K2 hK2 => ?_))
        clear hK1 K1
        refine wpQuiet_nil ?_
        have HAP := Lib.hid (RingA.gapply_any H4.out.1.li cp HSL.out (fun _ x e y => by
          have h1 : w1.drew.heap.size ≤ x.block := HN.out x e
          have h2 := HLT.out
          change w1.heap.size ≤ x.block at h1
          rcases y with y | y <;> omega) (by have := H1.out.tl; omega))
        go_wp2_with (go_at_call 23; (with_reducible refine HAP.out.mono ?_); rintro e w5 ⟨rfl, hl, hk⟩; have HKL := Lib.hid hk; have H5 := Lib.hid (H4.out.1.lst hl hk); clear hl hk)
        refine norm_up (hK2 _ _ (HKL.out.mono fun k _ x => .inr x) (st_nil fun K3 hK3 => wpQuiet_nil (hK3 _ ?_)))
        clear hK2 hK3 K2 K3
        have H6 : Hid (Parts w5 G B d da dl Dl dr c1.drain) := H5.out.1
        have HKK : Hid (Kept (CF G B w) w w5) := CF.trans (CF.trans (KF.cf HK1.out.drew) H4.out.2) (KF.cf H5.out.2)
        have HR := Lib.hid (repl_parts H6.out p (fun f hf => HU.out f ((mem_apply ⟨H1.out.li.ring.1, H1.out.li.ring.2.1⟩ _ _).1 hf)) HQN.out HCAN.out)
        generalize c1.drain.replC = r at *
        obtain ⟨r0, r1, r2⟩ := r
        dsimp only at HR
        go_wp2_with (go_at_call 28; (with_reducible refine HR.out.mono ?_); rintro e w6 ⟨rfl, hp, hk⟩; have H7 := Lib.hid hp; have HK7 := Lib.hid hk; clear hp hk)
        rw [← HP.out]
        exact ⟨rfl, ⟨_, _, _, _, H7.out⟩, CF.trans HKK.out (KF.cf HK7.out)⟩
theorem room_any (h : CoAt w G B d c) (p : Int) : Calls Try.prog 11 #[.pointer (some ⟨d, 0, none⟩), .int .i64 p] w (CPost G B d w (ansV (c.settle.roomC p)) (c.settle.room p)) := by
  obtain ⟨da, dl, Dl, dr, h⟩ := h
  exact room_parts h p
end
#print axioms room_any
end Go.Proofs.Ytcmhkknoffeebaa.CoS
