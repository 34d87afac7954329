/-
  What the functions of package ring compute (chapter 8): Forget.
-/
import Derived.Test.YtodmjclkfadooaaRingTouch
namespace Go.Proofs.Ytodmjclkfadooaa.RingF
open Go.ChangeShapes Go.WideShapes Go.ChangeAt Go.RowKit Go.Conc
open Go.Proofs.Ytodmjclkfadooaa.Mem Go.Proofs.Ytodmjclkfadooaa.Blk Go.Proofs.Ytodmjclkfadooaa.Chan Go.Proofs.Ytodmjclkfadooaa.RingC Go.Proofs.Ytodmjclkfadooaa.RingD Go.Proofs.Ytodmjclkfadooaa.RingT Go.Proofs.Ytodmjclkfadooaa.Stages

/-- How many are f; those that are not. -/
def cntBy (zs : List Int) (f : Int) : Nat := (zs.filter fun x => decide (x = f)).length
def keepBy (zs : List Int) (f : Int) : List Int := zs.filter fun x => !decide (x = f)
theorem keep_len (zs : List Int) (f : Int) : (keepBy zs f).length ≤ zs.length := List.length_filter_le _ _
theorem cnt_len (zs : List Int) (f : Int) : cntBy zs f ≤ zs.length := List.length_filter_le _ _
theorem cnt_keep (f : Int) : ∀ zs : List Int, cntBy zs f + (keepBy zs f).length = zs.length
  | [] => rfl
  | x :: l => by
    have := cnt_keep f l
    unfold cntBy keepBy at *
    by_cases e : x = f
    · rw [List.filter_cons_of_pos (by simpa using e), List.filter_cons_of_neg (by simpa using e), List.length_cons, List.length_cons]; omega
    · rw [List.filter_cons_of_neg (by simpa using e), List.filter_cons_of_pos (by simpa using e), List.length_cons, List.length_cons]; omega
theorem take_snoc {zs : List Int} {j : Nat} (hj : j < zs.length) : zs.take (j + 1) = zs.take j ++ [zs.getD j 0] := by
  rw [List.take_add_one, List.getD_eq_getElem?_getD, List.getElem?_eq_getElem hj]; rfl
theorem by_eq {zs : List Int} {j : Nat} {f x : Int} (hj : j < zs.length) (hx : zs.getD j 0 = x) (h : x = f) : cntBy (zs.take (j + 1)) f = cntBy (zs.take j) f + 1 ∧ keepBy (zs.take (j + 1)) f = keepBy (zs.take j) f := by
  subst hx
  rw [take_snoc hj]
  unfold cntBy keepBy
  rw [List.filter_append, List.filter_append, List.filter_cons_of_pos (by simpa using h), List.filter_cons_of_neg (by simpa using h)]
  simp
theorem by_ne {zs : List Int} {j : Nat} {f x : Int} (hj : j < zs.length) (hx : zs.getD j 0 = x) (h : x ≠ f) : cntBy (zs.take (j + 1)) f = cntBy (zs.take j) f ∧ keepBy (zs.take (j + 1)) f = keepBy (zs.take j) f ++ [x] := by
  subst hx
  rw [take_snoc hj]
  unfold cntBy keepBy
  rw [List.filter_append, List.filter_append, List.filter_cons_of_neg (by simpa using h), List.filter_cons_of_pos (by simpa using h)]
  simp

section
variable {w w' w2 : World} {B d c : Nat} {C : Option Nat} {zs us ys : List Int} {F : Nat → Prop}

set_option maxHeartbeats 1000000 in
theorem gforget_any (h : RingAt w B d zs) (f : Int) :
    Calls Try.prog 10 #[.pointer (some ⟨d, 0, none⟩), .int .i64 f] w fun e w' => e = .returned (.int .i64 (cntBy zs f : Int)) ∧ RingAt w' B d (keepBy zs f) ∧ Kept (RF B d w) w w' := by
  obtain ⟨C, h⟩ := h
  have HDR := Lib.hid (gdrain_c h)
  have HLEN := Lib.hid h.len
  have HLT := Lib.hid h.blk.lt
  have hlz : (zs.length : Int) ≤ 8 := by have := h.len; omega
  have HCC : Hid (0 < zs.length → ∃ c, C = some c ∧ B ≤ c ∧ c < w.heap.size ∧ IsChan w c) := fun h0 => by
    rcases h.ch with ⟨_, rfl⟩ | ⟨c, e, hb, hc⟩
    · simp at h0
    · exact ⟨c, e, hb, hc.lt, hc.is⟩
  clear h
  go_enter Try.func10, Try.ntmps10
  go_wp2_with (go_at_call 11; (with_reducible refine HDR.out.mono ?_); rintro e w1 ⟨A, c3, rfl, hs, hn, hr, hk⟩; have HS := Lib.hid hs; have HN := Lib.hid hn; have HR := Lib.hid hr; have HK := Lib.hid hk; clear hs hn hr hk)
  have HND : Hid (∀ x, A = some x → x.block ≠ d) := fun x hx => by have h1 := HN.out x hx; have h2 := HLT.out; omega
  go_loopg [5, 11] zs.length (fun gx gone i wr => ∃ j : Nat, j + gx = zs.length ∧ i = .int .i64 (j : Int) ∧ gone = .int .i64 (cntBy (zs.take j) f : Int) ∧ RingC wr B d C (keepBy (zs.take j) f) ∧ Kept (RF B d w1) w1 wr)
  case atStart => exact ⟨0, by omega, rfl, rfl, HR.out, Kept.refl _ _⟩
  case round =>
    obtain ⟨j, hg, rfl, rfl, hrc, hkr⟩ := hrel
    have HG := Lib.hid hg
    have HRR := Lib.hid hrc
    have HKR := Lib.hid hkr
    have hcl := cnt_len (zs.take j) f
    have hcn : (cntBy (zs.take j) f : Int) ≤ 8 := by rw [List.length_take] at hcl; omega
    clear hg hrc hkr hcl
    by_cases hj : j < zs.length
    · have hjz : (j : Int) < (zs.length : Int) := by omega
      obtain ⟨b, o, rfl, _, hc⟩ := HS.out.at_ (by omega)
      have r1 := RF.cell HKR.out (hc j hj) (HND.out ⟨b, o, none⟩ rfl)
      clear hc
      have HEQ := Lib.hid fun h => by_eq (f := f) hj (rfl : zs.getD j 0 = _) h
      have HNE := Lib.hid fun h => by_ne (f := f) hj (rfl : zs.getD j 0 = _) h
      generalize zs.getD j 0 = x at *
      by_cases hx : x = f
      · have he := HEQ.out hx
        have HE := Lib.hid he
        clear he HEQ HNE
        subst hx
        go_wp2
        go_roundg (gk - 1)
        case measure => have := HG.out; omega
        case rel => exact ⟨j + 1, by have := HG.out; omega, by go_num, by rw [HE.out.1]; go_num, by rw [HE.out.2]; exact HRR.out, HKR.out⟩
      · have he := HNE.out hx
        have HE := Lib.hid he
        have hx' : (x == f) = false := by simpa using hx
        obtain ⟨c, hC, hBc, hclt, hcis⟩ := HCC.out (by omega)
        have HCI := Lib.hid (And.intro hclt hcis)
        have HH := Lib.hid HRR.out
        obtain ⟨hb1, hlow, hch0, hlen1⟩ := HRR.out
        obtain ⟨c', e', hBc', hch⟩ : ∃ c', C = some c' ∧ B ≤ c' ∧ Chan8 wr c' (keepBy (zs.take j) f) := by
          rcases hch0 with ⟨e, _⟩ | h
          · rw [hC] at e; cases e
          · exact h
        clear hch0
        have e2 : c' = c := by rw [hC] at e'; injection e' with e'; exact e'.symm
        subst e2
        subst hC
        have hkl : (keepBy (zs.take j) f).length < 8 := by
          have h1 := keep_len (zs.take j) f
          have h2 := HLEN.out
          rw [List.length_take] at h1
          omega
        have c0 := hb1.cell 0
        simp only [List.getElem?_cons_zero] at c0
        obtain ⟨s, r, hcell⟩ := hch
        have hch : Chan8 wr c' (keepBy (zs.take j) f) := ⟨s, r, hcell⟩
        have HCELL := Lib.hid hcell
        have HC2 : Hid (Chan8 (wr.setChan c' 8 (vals (keepBy (zs.take j) f ++ [x])).toArray false (s + 1) r false) c' (keepBy (zs.take j) f ++ [x])) := hch.set _ _ _
        have HB2 : Hid (Blk (wr.setChan c' 8 (vals (keepBy (zs.take j) f ++ [x])).toArray false (s + 1) r false) d 51 [.chan (some c')]) := blk_setChan hb1 (hch.ne hb1)
        have HK2 : Hid (Kept (RF B d w1) w1 (wr.setChan c' 8 (vals (keepBy (zs.take j) f ++ [x])).toArray false (s + 1) r false)) := kept_setChan HKR.out fun h => .inr ⟨hBc', by
          rcases HR.out.ch with ⟨e, _⟩ | ⟨c4, e4, _, h4⟩
          · cases e
          · injection e4 with e4
            rw [e4]
            exact h4.is⟩
        have HLO := Lib.hid (And.intro hlow (And.intro hBc hkl))
        clear he HEQ HNE hx hb1 hlow hch hlen1 hBc hBc' hclt hcis hkl hcell e'
        go_upto_region 7 with (fail)
        refine wp_inReg ?_
        simp only [List.size_toArray, List.length_cons, List.length_nil, Nat.reduceAdd, Nat.zero_add, List.range, List.range.loop]
        refine InReg.op rfl rfl fun K hK => ?_
        go_simp
        refine hK _ _ ?_
        clear hK K
        refine InReg.op rfl rfl fun K hK => ?_
        go_simp
        refine hK _ _ ?_
        clear hK K
        refine InReg.op rfl rfl fun K hK => ?_
        go_simp
        refine hK _ _ ?_
        clear hK K
        refine InReg.op rfl rfl fun K hK => ?_
        go_simp
        refine hK _ _ ?_
        clear hK K
        refine InReg.op rfl rfl fun K hK => ?_
        go_simp
        refine hK _ _ ?_
        clear hK K
        refine InReg.send (c := c') (v := .int .i64 x) (z := .tuple #[]) (w' := wr) rfl rfl (by simp [go_sem, execOp, scase, Act.eval]) HCELL.out (by simpa using HLO.out.2.2) (InReg.nil ?_)
        rw [snoc_vals]
        generalize wr.setChan c' 8 (vals (keepBy (zs.take j) f ++ [x])).toArray false (s + 1) r false = w2 at HC2 HB2 HK2 ⊢
        clear c0 r1
        go_wp2
        go_roundg (gk - 1)
        case measure => have := HG.out; omega
        case rel => exact ⟨j + 1, by have := HG.out; omega, by go_num, by rw [HE.out.1], by rw [HE.out.2]; exact ⟨HB2.out, HLO.out.1, .inr ⟨c', rfl, HLO.out.2.1, HC2.out⟩, by have := HLO.out.2.2; simp; omega⟩, HK2.out⟩
    · obtain rfl : j = zs.length := by have := HG.out; omega
      rw [List.take_length] at hcn HRR ⊢
      go_wp2
      go_ret
      exact ⟨rfl, ⟨C, HRR.out⟩, RF.trans HK.out HKR.out⟩
end
end Go.Proofs.Ytodmjclkfadooaa.RingF
