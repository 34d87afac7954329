/-
  What the functions of package ring compute (chapter 8): Touch.
-/
import Derived.Test.YtcmhkknoffeebaaRingDrain
namespace Go.Proofs.Ytcmhkknoffeebaa.RingT
open Go.ChangeShapes Go.WideShapes Go.ChangeAt Go.RowKit Go.Conc
open Go.Proofs.Ytcmhkknoffeebaa.Mem Go.Proofs.Ytcmhkknoffeebaa.Blk Go.Proofs.Ytcmhkknoffeebaa.Chan Go.Proofs.Ytcmhkknoffeebaa.RingC Go.Proofs.Ytcmhkknoffeebaa.RingD Go.Proofs.Ytcmhkknoffeebaa.Stages

/-- May it be touched? What is told by a touch; what waits behind it. -/
def okT (f : Int) : Bool := decide (0 ≤ f) && decide (f < 32)
def toldBy (zs : List Int) (f : Int) : List Int := if okT f && decide (zs.length = 7) then zs ++ [f] else []
def waitBy (zs : List Int) (f : Int) : List Int := if okT f then (if zs.length = 7 then [] else zs ++ [f]) else zs
theorem wait_len {zs : List Int} (h : zs.length ≤ 7) (f : Int) : (waitBy zs f).length ≤ 7 := by
  unfold waitBy
  split
  · split
    · simp
    · simp; omega
  · exact h

section
variable {w w' w2 : World} {B d c : Nat} {C : Option Nat} {zs us ys : List Int} {F : Nat → Prop}

/-- The numbers us are told; ys wait behind the call. -/
def APost (B d : Nat) (w : World) (us ys : List Int) (e : Ending) (w' : World) : Prop :=
  ∃ A c, e = .returned (.slice A us.length c) ∧ Sl w' w'.heap.size .i64 A us.length us ∧ (∀ x, A = some x → w.heap.size ≤ x.block) ∧ RingAt w' B d ys ∧ Kept (RF B d w) w w'
theorem apost_none (h : RingAt w B d zs) : APost B d w [] zs (.returned (.slice none 0 0)) w := ⟨none, 0, rfl, Sl.nil _ _ _ _, fun x hx => (by cases hx), h, Kept.refl _ _⟩

theorem gdrain_any (h : RingAt w B d zs) : Calls Try.prog 27 #[.pointer (some ⟨d, 0, none⟩)] w (APost B d w zs []) := by
  obtain ⟨C, h⟩ := h
  refine (gdrain_c h).mono ?_
  rintro e w' ⟨A, c, he, hs, hn, hr, hk⟩
  exact ⟨A, c, he, hs, hn, ⟨C, hr⟩, hk⟩
theorem glen_any (h : RingAt w B d zs) : Calls Try.prog 36 #[.pointer (some ⟨d, 0, none⟩)] w fun e w' => e = .returned (.int .i64 (zs.length : Int)) ∧ w = w' := by
  obtain ⟨C, h⟩ := h
  exact glen_c h

theorem gtouch_nil (f : Int) : Calls Try.prog 24 #[.pointer none, .int .i64 f] w fun e w' => e = .returned (.slice none 0 0) ∧ w = w' := by
  go_enter Try.func24, Try.ntmps24
  go_wp2
  go_ret
  exact ⟨rfl, rfl⟩
theorem gtouch_bad (d : Nat) (f : Int) (hf : okT f = false) : Calls Try.prog 24 #[.pointer (some ⟨d, 0, none⟩), .int .i64 f] w fun e w' => e = .returned (.slice none 0 0) ∧ w = w' := by
  by_cases h0 : f < 0
  · clear hf
    go_enter Try.func24, Try.ntmps24
    go_wp2
    go_ret
    exact ⟨rfl, rfl⟩
  · have h1 : 0 ≤ f := by omega
    have h2 : 32 ≤ f := by
      simp only [okT, Bool.and_eq_false_iff, decide_eq_false_iff_not] at hf
      omega
    clear hf h0
    go_enter Try.func24, Try.ntmps24
    go_wp2
    go_ret
    exact ⟨rfl, rfl⟩

theorem info_int : ∃ i, Try.prog.info? 3 = some i ∧ i.bytes = 8 := by
  have h : (Try.prog.info? 3).map (·.bytes) = some 8 := by kernel_rfl
  obtain ⟨i, hi, hb⟩ := Option.map_eq_some_iff.1 h
  exact ⟨i, hi, hb⟩
theorem mk8 (w : World) : (Instr.makeChan 64 (.int .i64 8)).run Try.prog w = .ok (.chan (some w.heap.size)) (w.alloc (.chan 8 #[] false 0 0 false)) := by
  obtain ⟨i, hi, hb⟩ := info_int
  simpa using run_makeChan (P := Try.prog) (w := w) Try.underlying64 hi .i64 8 (by omega) (by rw [hb]; omega)

theorem eql_chan_in (w : World) (n : Nat) (C : Option Nat) : (Op.equalIn (n + 1) 64 (.chan C) (.chan none)).run Try.prog w = .ok C.isNone w := by
  cases C <;> simp [Op.equalIn, run_underlying Try.underlying64]
theorem eql_chan (w : World) (C : Option Nat) : (binOp .eql 64 (.chan C) (.chan none)).run Try.prog w = .ok (.bool C.isNone) w := by
  simp only [binOp]
  simp [Op.equal, Op.maxDepth, eql_chan_in w 9999 C]

theorem snoc_vals (zs : List Int) (f : Int) : (vals zs).toArray.push (.int .i64 f) = (vals (zs ++ [f])).toArray := by simp

set_option maxHeartbeats 1000000 in
theorem gtouch_ok (h : RingC w B d C zs) (f : Int) (h0 : 0 ≤ f) (h1 : f < 32) (hl : zs.length ≤ 7) :
    Calls Try.prog 24 #[.pointer (some ⟨d, 0, none⟩), .int .i64 f] w (APost B d w (if zs.length = 7 then zs ++ [f] else []) (if zs.length = 7 then [] else zs ++ [f])) := by
  generalize hP : APost B d w (if zs.length = 7 then zs ++ [f] else []) (if zs.length = 7 then [] else zs ++ [f]) = P
  have HP := Lib.hid hP
  clear hP
  have c0 := h.blk.cell 0
  simp only [List.getElem?_cons_zero] at c0
  have f0 := h.blk.frozen 0
  have H := Lib.hid h
  have HLOW := Lib.hid h.low
  have hmc := mk8 w
  have q0 := eql_chan w C
  have hlz : (zs.length : Int) ≤ 7 := by omega
  rcases h.ch with ⟨rfl, hz⟩ | ⟨c, rfl, hBc, hc⟩
  · have HZ := Lib.hid hz
    have hdl := h.blk.lt
    have ha : Blk (w.alloc (.chan 8 #[] false 0 0 false)) d 66 [.chan none] := h.blk.alloc _
    have ca := ha.cell 0
    simp only [List.getElem?_cons_zero] at ca
    have fa := ha.frozen 0
    clear h hl hz ha
    go_enter Try.func24, Try.ntmps24
    go_upto_region 5 with (fail)
    have HB1 : Hid (Blk ((w.setCell ⟨d, 0, none⟩ (.chan (some w.heap.size))).alloc (.chan 8 #[] false 0 0 false)) d 66 [.chan (some w.heap.size)]) := (H.out.blk.set 0 (.chan (some w.heap.size))).alloc _
    have HC1 : Hid (Chan8 ((w.setCell ⟨d, 0, none⟩ (.chan (some w.heap.size))).alloc (.chan 8 #[] false 0 0 false)) w.heap.size zs) := by
      rw [HZ.out]
      have := heap_alloc_new (w.setCell ⟨d, 0, none⟩ (.chan (some w.heap.size))) (.chan 8 #[] false 0 0 false)
      exact ⟨0, 0, by simpa using this⟩
    have HK1 : Hid (Kept (RF B d w) w ((w.setCell ⟨d, 0, none⟩ (.chan (some w.heap.size))).alloc (.chan 8 #[] false 0 0 false))) := ((Kept.refl _ w).setCell (fun _ => .inl rfl) _).alloc _
    have HBC : Hid (B ≤ w.heap.size ∧ (w.heap.size < w.heap.size → IsChan w w.heap.size)) := ⟨by have := H.out.low; omega, fun h => absurd h (by omega)⟩
    clear ca fa
    generalize (w.setCell ⟨d, 0, none⟩ (.chan (some w.heap.size))).alloc (.chan 8 #[] false 0 0 false) = w1 at HB1 HC1 HK1 ⊢
    generalize hcc : w.heap.size = c at HB1 HC1 HK1 HBC ⊢
    have HBC' : Hid (B ≤ c ∧ (c < w.heap.size → IsChan w c)) := ⟨HBC.out.1, fun h => by omega⟩
    clear c0 f0 hmc q0 HZ HBC hcc hdl
    have c0 := HB1.out.cell 0
    simp only [List.getElem?_cons_zero] at c0
    clear H
    refine wp_inReg ?_
    simp only [List.size_toArray, List.length_cons, List.length_nil, Nat.reduceAdd, Nat.zero_add, List.range, List.range.loop]
    refine InReg.op rfl rfl fun K hK => ?_
    go_simp
    refine hK _ _ ?_
    clear hK K
    refine InReg.op rfl rfl fun K hK => ?_
    go_simp
    refine hK _ _ ?_
    clear hK K
    refine InReg.op rfl rfl fun K hK => ?_
    go_simp
    refine hK _ _ ?_
    clear hK K
    refine InReg.op rfl rfl fun K hK => ?_
    go_simp
    refine hK _ _ ?_
    clear hK K
    refine InReg.op rfl rfl fun K hK => ?_
    go_simp
    refine hK _ _ ?_
    clear hK K
    obtain ⟨s, r, hch⟩ := HC1.out
    have HC2 : Hid (Chan8 (w1.setChan c 8 (vals (zs ++ [f])).toArray false (s + 1) r false) c (zs ++ [f])) := HC1.out.set _ _ _
    have HB2 : Hid (Blk (w1.setChan c 8 (vals (zs ++ [f])).toArray false (s + 1) r false) d 66 [.chan (some c)]) := blk_setChan HB1.out (HC1.out.ne HB1.out)
    have HK2 : Hid (Kept (RF B d w) w (w1.setChan c 8 (vals (zs ++ [f])).toArray false (s + 1) r false)) := kept_setChan HK1.out fun h => .inr ⟨HBC'.out.1, HBC'.out.2 h⟩
    refine InReg.send (c := c) (v := .int .i64 f) (z := .tuple #[]) (w' := w1) rfl rfl (by simp [go_sem, execOp, scase, Act.eval]) hch (by simp; omega) (InReg.nil ?_)
    rw [snoc_vals]
    generalize w1.setChan c 8 (vals (zs ++ [f])).toArray false (s + 1) r false = w2 at HC2 HB2 HK2 ⊢
    have HRC : Hid (RingC w2 B d (some c) (zs ++ [f])) := ⟨HB2.out, HLOW.out, .inr ⟨c, rfl, HBC'.out.1, HC2.out⟩, by simp; omega⟩
    have HLN := Lib.hid (glen_c HRC.out)
    have hln : ((zs ++ [f]).length : Int) = (zs.length : Int) + 1 := by simp
    rw [hln] at HLN
    have HDR := Lib.hid (gdrain_c HRC.out)
    clear hch hln HC1 HB1 HK1 HC2 HB2 c0
    by_cases h7 : zs.length = 7
    · have HE7 : Hid (APost B d w (zs ++ [f]) [] = P) := by
        have := HP.out
        rwa [if_pos h7, if_pos h7] at this
      have h7z : (zs.length : Int) = 7 := by omega
      rw [h7z] at HLN
      clear HP hlz h7z h7
      go_wp2_with (first
        | (go_at_call 36; (with_reducible refine HLN.out.mono ?_); rintro e w' ⟨rfl, rfl⟩)
        | (go_at_call 27; (with_reducible refine HDR.out.mono ?_); rintro e w3 ⟨A, c3, rfl, hs, hn, hr, hk⟩; have HS := Lib.hid hs; have HN := Lib.hid hn; have HR := Lib.hid hr; have HK := Lib.hid hk; clear hs hn hr hk))
      rw [← HE7.out]
      exact ⟨A, c3, by simp, HS.out, fun x hx => Nat.le_trans HK2.out.size (HN.out x hx), ⟨_, HR.out⟩, RF.trans HK2.out HK.out⟩
    · have HE7 : Hid (APost B d w [] (zs ++ [f]) = P) := by
        have := HP.out
        rwa [if_neg h7, if_neg h7] at this
      have h7z : (zs.length : Int) + 1 < 8 := by omega
      clear HP h7
      go_wp2_with (go_at_call 36; (with_reducible refine HLN.out.mono ?_); rintro e w' ⟨rfl, rfl⟩)
      rw [← HE7.out]
      exact ⟨none, 0, rfl, Sl.nil _ _ _ _, fun x hx => (by cases hx), ⟨_, HRC.out⟩, HK2.out⟩
  · have HB1 := Lib.hid h.blk
    have HC1 := Lib.hid hc
    obtain ⟨w1, hw1⟩ : ∃ w1, w1 = w := ⟨w, rfl⟩
    have HK1 : Hid (Kept (RF B d w) w w1) := by rw [hw1]; exact Kept.refl _ _
    have HBC' : Hid (B ≤ c ∧ (c < w.heap.size → IsChan w c)) := ⟨hBc, fun _ => hc.is⟩
    have HW1 := Lib.hid hw1
    clear h hl hc hw1
    go_enter Try.func24, Try.ntmps24
    go_upto_region 5 with (fail)
    clear f0 hmc q0
    rw [← HW1.out] at HB1 HC1 c0 ⊢
    clear H
    refine wp_inReg ?_
    simp only [List.size_toArray, List.length_cons, List.length_nil, Nat.reduceAdd, Nat.zero_add, List.range, List.range.loop]
    refine InReg.op rfl rfl fun K hK => ?_
    go_simp
    refine hK _ _ ?_
    clear hK K
    refine InReg.op rfl rfl fun K hK => ?_
    go_simp
    refine hK _ _ ?_
    clear hK K
    refine InReg.op rfl rfl fun K hK => ?_
    go_simp
    refine hK _ _ ?_
    clear hK K
    refine InReg.op rfl rfl fun K hK => ?_
    go_simp
    refine hK _ _ ?_
    clear hK K
    refine InReg.op rfl rfl fun K hK => ?_
    go_simp
    refine hK _ _ ?_
    clear hK K
    obtain ⟨s, r, hch⟩ := HC1.out
    have HC2 : Hid (Chan8 (w1.setChan c 8 (vals (zs ++ [f])).toArray false (s + 1) r false) c (zs ++ [f])) := HC1.out.set _ _ _
    have HB2 : Hid (Blk (w1.setChan c 8 (vals (zs ++ [f])).toArray false (s + 1) r false) d 66 [.chan (some c)]) := blk_setChan HB1.out (HC1.out.ne HB1.out)
    have HK2 : Hid (Kept (RF B d w) w (w1.setChan c 8 (vals (zs ++ [f])).toArray false (s + 1) r false)) := kept_setChan HK1.out fun h => .inr ⟨HBC'.out.1, HBC'.out.2 h⟩
    refine InReg.send (c := c) (v := .int .i64 f) (z := .tuple #[]) (w' := w1) rfl rfl (by simp [go_sem, execOp, scase, Act.eval]) hch (by simp; omega) (InReg.nil ?_)
    rw [snoc_vals]
    generalize w1.setChan c 8 (vals (zs ++ [f])).toArray false (s + 1) r false = w2 at HC2 HB2 HK2 ⊢
    have HRC : Hid (RingC w2 B d (some c) (zs ++ [f])) := ⟨HB2.out, HLOW.out, .inr ⟨c, rfl, HBC'.out.1, HC2.out⟩, by simp; omega⟩
    have HLN := Lib.hid (glen_c HRC.out)
    have hln : ((zs ++ [f]).length : Int) = (zs.length : Int) + 1 := by simp
    rw [hln] at HLN
    have HDR := Lib.hid (gdrain_c HRC.out)
    clear hch hln HC1 HB1 HK1 HC2 HB2 c0
    by_cases h7 : zs.length = 7
    · have HE7 : Hid (APost B d w (zs ++ [f]) [] = P) := by
        have := HP.out
        rwa [if_pos h7, if_pos h7] at this
      have h7z : (zs.length : Int) = 7 := by omega
      rw [h7z] at HLN
      clear HP hlz h7z h7
      go_wp2_with (first
        | (go_at_call 36; (with_reducible refine HLN.out.mono ?_); rintro e w' ⟨rfl, rfl⟩)
        | (go_at_call 27; (with_reducible refine HDR.out.mono ?_); rintro e w3 ⟨A, c3, rfl, hs, hn, hr, hk⟩; have HS := Lib.hid hs; have HN := Lib.hid hn; have HR := Lib.hid hr; have HK := Lib.hid hk; clear hs hn hr hk))
      rw [← HE7.out]
      exact ⟨A, c3, by simp, HS.out, fun x hx => Nat.le_trans HK2.out.size (HN.out x hx), ⟨_, HR.out⟩, RF.trans HK2.out HK.out⟩
    · have HE7 : Hid (APost B d w [] (zs ++ [f]) = P) := by
        have := HP.out
        rwa [if_neg h7, if_neg h7] at this
      have h7z : (zs.length : Int) + 1 < 8 := by omega
      clear HP h7
      go_wp2_with (go_at_call 36; (with_reducible refine HLN.out.mono ?_); rintro e w' ⟨rfl, rfl⟩)
      rw [← HE7.out]
      exact ⟨none, 0, rfl, Sl.nil _ _ _ _, fun x hx => (by cases hx), ⟨_, HRC.out⟩, HK2.out⟩
theorem gtouch_any (h : RingAt w B d zs) (f : Int) (hl : zs.length ≤ 7) :
    Calls Try.prog 24 #[.pointer (some ⟨d, 0, none⟩), .int .i64 f] w (APost B d w (toldBy zs f) (waitBy zs f)) := by
  unfold toldBy waitBy
  cases hf : okT f with
  | false =>
    refine (gtouch_bad d f hf).mono ?_
    rintro e w' ⟨rfl, rfl⟩
    exact apost_none h
  | true =>
    obtain ⟨C, h⟩ := h
    simp only [okT, Bool.and_eq_true, decide_eq_true_eq] at hf
    have := gtouch_ok h f hf.1 hf.2 hl
    simpa using this
end
end Go.Proofs.Ytcmhkknoffeebaa.RingT
