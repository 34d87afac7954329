/-
  slices.IndexFunc and slices.DeleteFunc of ints, with the test of latch.Free: is it t?
-/
import Derived.Test.YtpdmncdbimdfaaaLatLock
namespace Go.Proofs.Ytpdmncdbimdfaaa.LatD
open Go.ChangeShapes Go.WideShapes Go.ChangeAt Go.RowKit
open Go.Proofs.Ytpdmncdbimdfaaa.Mem Go.Proofs.Ytpdmncdbimdfaaa.Blk Go.Proofs.Ytpdmncdbimdfaaa.Cells Go.Proofs.Ytpdmncdbimdfaaa.GsC Go.Proofs.Ytpdmncdbimdfaaa.LatM Go.Proofs.Ytpdmncdbimdfaaa.LatC Go.Proofs.Ytpdmncdbimdfaaa.LatY Go.Proofs.Ytpdmncdbimdfaaa.LatZ Go.Proofs.Ytpdmncdbimdfaaa.LatO Go.Proofs.Ytpdmncdbimdfaaa.LatI Go.Proofs.Ytpdmncdbimdfaaa.LatR Go.Proofs.Ytpdmncdbimdfaaa.LatN Go.Proofs.Ytpdmncdbimdfaaa.LatA Go.Proofs.Ytpdmncdbimdfaaa.RetC Go.Proofs.Ytpdmncdbimdfaaa.Stages Go.Proofs.Ytpdmncdbimdfaaa.Trees

section
variable {w : World} {bt : Nat} {t : Int}
theorem isT_any (h : w.cell? ⟨bt, 0, none⟩ = some (.int .i64 t)) (x : Int) :
    Calls Try.prog 16 #[.int .i64 x, .pointer (some ⟨bt, 0, none⟩)] w fun e w' => e = .returned (.bool (x == t)) ∧ w = w' := by
  go_enter Try.func16, Try.ntmps16
  go_wp2
  go_ret
  exact ⟨rfl, rfl⟩

theorem indexFunc_any (A : Option Addr) (c B n : Nat) (zs : List Int) (hl : n ≤ 100000) (h : Sl w B .i64 A n zs) (ht : w.cell? ⟨bt, 0, none⟩ = some (.int .i64 t)) :
    Calls Try.prog 25 #[.slice A n c, .func (.func 16) #[] #[.pointer (some ⟨bt, 0, none⟩)]] w fun e w' => e = .returned (.int .i64 (idx zs t)) ∧ w = w' := by
  have H := Lib.hid h
  have HLN := Lib.hid h.len
  have HT := Lib.hid fun x => isT_any ht x
  have hlz : (n : Int) ≤ 100000 := by omega
  clear h
  go_enter Try.func25, Try.ntmps25
  go_wp2
  go_loopg [8] n (fun gx i wr => ∃ j : Nat, j + gx = n ∧ i = .int .i64 (j : Int) ∧ (∀ i, i < j → zs.getD i 0 ≠ t) ∧ w = wr)
  case atStart => exact ⟨0, by omega, rfl, fun i hi => absurd hi (by omega), rfl⟩
  case round =>
    obtain ⟨j, hg, rfl, hno, rfl⟩ := hrel
    have HG := Lib.hid hg
    have HNO := Lib.hid hno
    clear hg hno
    by_cases hj : j < n
    · have hjz : (j : Int) < (n : Int) := by omega
      obtain ⟨b, o, rfl, _, hc⟩ := H.out.at_ (by omega)
      have r1 := hc j hj
      have HX : Hid (∀ y : Int, zs.getD j 0 = y → (y = t → idx zs t = (j : Int)) ∧ (y ≠ t → ∀ i, i < j + 1 → zs.getD i 0 ≠ t)) := fun y hy =>
        ⟨fun e => idx_at (by rw [HLN.out]; exact hj) (hy.trans e) HNO.out, fun hne i hi => by
          by_cases e : i = j
          · rw [e, hy]; exact hne
          · exact HNO.out i (by omega)⟩
      clear hc
      generalize zs.getD j 0 = y at *
      have HTy := Lib.hid (HT.out y)
      by_cases hx : y = t
      · subst hx
        have e : (y == y) = true := beq_self_eq_true y
        rw [e] at HTy
        clear e
        go_wp2_with (go_at_call 16; (with_reducible refine HTy.out.mono ?_); rintro e w' ⟨rfl, rfl⟩)
        go_ret
        exact ⟨by rw [(HX.out _ rfl).1 rfl]; rfl, rfl⟩
      · have hx' : (y == t) = false := beq_eq_false_iff_ne.2 hx
        rw [hx'] at HTy
        go_wp2_with (go_at_call 16; (with_reducible refine HTy.out.mono ?_); rintro e w' ⟨rfl, rfl⟩)
        go_roundg (gk - 1)
        case measure => have := HG.out; omega
        case rel => exact ⟨j + 1, by have := HG.out; omega, by go_num, (HX.out _ rfl).2 hx, rfl⟩
    · obtain rfl : j = n := by have := HG.out; omega
      have HE : Hid (idx zs t = -1) := idx_none fun i hi => HNO.out i (by have := HLN.out; omega)
      go_wp2
      go_ret
      exact ⟨by rw [HE.out]; rfl, rfl⟩

/-! ### DeleteFunc -/
/-- Those of the first j that are not t. -/
def left (zs : List Int) (t : Int) (j : Nat) : List Int := (zs.take j).filter (fun x => !decide (x = t))
theorem left_all {zs : List Int} : left zs t zs.length = zs.filter (fun x => !decide (x = t)) := by unfold left; rw [List.take_length]
theorem left_le (zs : List Int) (t : Int) (j : Nat) : (left zs t j).length ≤ j := by
  unfold left
  refine Nat.le_trans (List.length_filter_le _ _) ?_
  rw [List.length_take]; omega
theorem left_step {zs : List Int} {j : Nat} (hj : j < zs.length) : left zs t (j + 1) = if zs.getD j 0 = t then left zs t j else left zs t j ++ [zs.getD j 0] := by
  have e : zs.getD j 0 = zs[j] := by rw [List.getD_eq_getElem?_getD, List.getElem?_eq_getElem hj]; rfl
  unfold left
  rw [List.take_succ_eq_append_getElem hj, List.filter_append, e]
  by_cases h : zs[j] = t
  · rw [if_pos h, List.filter_cons_of_neg (by simpa using h), List.filter_nil, List.append_nil]
  · rw [if_neg h, List.filter_cons_of_pos (by simpa using h), List.filter_nil]
theorem left_start {zs : List Int} : ∀ {j : Nat}, j ≤ zs.length → (∀ i, i < j → zs.getD i 0 ≠ t) → left zs t j = zs.take j := by
  intro j hj hno
  unfold left
  rw [List.filter_eq_self]
  intro x hx
  obtain ⟨i, hi, e⟩ := List.getElem_of_mem hx
  have hi' : i < j := by rw [List.length_take] at hi; omega
  have := hno i hi'
  rw [List.getD_eq_getElem?_getD, List.getElem?_eq_getElem (by omega)] at this
  rw [List.getElem_take] at e
  simpa [e] using this

theorem first_at : ∀ {zs : List Int}, t ∈ zs → ∃ i, i < zs.length ∧ zs.getD i 0 = t ∧ ∀ k, k < i → zs.getD k 0 ≠ t
  | [], h => absurd h (by simp)
  | a :: l, h => by
    by_cases e : a = t
    · exact ⟨0, by simp, by simpa using e, fun k hk => absurd hk (by omega)⟩
    · obtain ⟨i, h1, h2, h3⟩ := first_at (zs := l) (by
        rcases List.mem_cons.1 h with h | h
        · exact absurd h.symm e
        · exact h)
      refine ⟨i + 1, by simpa using h1, by simpa using h2, fun k hk => ?_⟩
      cases k with
      | zero => simpa using e
      | succ k => simpa using h3 k (by omega)
/-- Behind j rounds: the first that stay are in front, those from j on as they were. -/
structure Del (w : World) (b off c n : Nat) (zs : List Int) (t : Int) (j : Nat) (wr : World) : Prop where
  row : ∃ f, Row wr b (off + c) f ∧ (∀ k, k < (left zs t j).length → f (off + k) = .int .i64 ((left zs t j).getD k 0)) ∧ ∀ k, j ≤ k → k < n → f (off + k) = .int .i64 (zs.getD k 0)
  lt : (left zs t j).length < j
  le : j ≤ n
  k : Kept (fun k => k = b) w wr
section
variable {wr : World} {b off c n j : Nat} {zs : List Int}
theorem Del.skip (h : Del w b off c n zs t j wr) (hn : zs.length = n) (hj : j < n) (e : zs.getD j 0 = t) : Del w b off c n zs t (j + 1) wr ∧ left zs t (j + 1) = left zs t j := by
  have hs := left_step (t := t) (zs := zs) (j := j) (by omega)
  rw [if_pos e] at hs
  obtain ⟨f, h1, h2, h3⟩ := h.row
  exact ⟨⟨⟨f, h1, by rw [hs]; exact h2, fun k hk => h3 k (by omega)⟩, by rw [hs]; have := h.lt; omega, hj, h.k⟩, hs⟩
theorem Del.keep (h : Del w b off c n zs t j wr) (hn : zs.length = n) (hj : j < n) (e : zs.getD j 0 ≠ t) : Del w b off c n zs t (j + 1) (wr.setCell ⟨b, off + (left zs t j).length, none⟩ (.int .i64 (zs.getD j 0))) ∧ (left zs t (j + 1)).length = (left zs t j).length + 1 := by
  have hs := left_step (t := t) (zs := zs) (j := j) (by omega)
  rw [if_neg e] at hs
  have hl : (left zs t (j + 1)).length = (left zs t j).length + 1 := by rw [hs, List.length_append]; rfl
  obtain ⟨f, h1, h2, h3⟩ := h.row
  have h4 := h.lt
  refine ⟨⟨⟨_, h1.set (off + (left zs t j).length) _, fun k hk => ?_, fun k hk hkn => ?_⟩, by omega, hj, h.k.trans (kept_set _ _ _ _)⟩, hl⟩
  · rw [hs]
    by_cases e1 : k = (left zs t j).length
    · rw [if_pos (by omega), e1]
      simp [List.getD_eq_getElem?_getD]
    · rw [if_neg (by omega), h2 k (by omega)]
      simp [List.getD_eq_getElem?_getD, List.getElem?_append, show k < (left zs t j).length by omega]
  · rw [if_neg (by omega)]
    exact h3 k (by omega) hkn
end

theorem deleteFunc_any {A : Option Addr} {c n : Nat} {zs : List Int} (hl : n ≤ 100000) (h : Gs w A n c zs) (ht : w.cell? ⟨bt, 0, none⟩ = some (.int .i64 t)) (hne : ¬ blk A c bt) (hm : t ∈ zs) :
    Calls Try.prog 15 #[.slice A n c, .func (.func 16) #[] #[.pointer (some ⟨bt, 0, none⟩)]] w (GsP w A c (zs.filter (fun x => !decide (x = t))).length (zs.filter (fun x => !decide (x = t)))) := by
  have hlen := h.len
  obtain ⟨i0, hi0, e0, hno⟩ := first_at hm
  have HIF := Lib.hid (indexFunc_any A c _ n zs hl (h.sl (Nat.le_refl _)) ht)
  rw [idx_at hi0 e0 hno] at HIF
  have hle := h.le
  have hmax := h.max
  obtain ⟨b, off, f, rfl, hrow, hf⟩ := h.row (by omega)
  have hbt : bt ≠ b := fun e => hne (blk_some.2 ⟨by omega, e.symm⟩)
  have hls : left zs t i0 = zs.take i0 := left_start (by omega) hno
  have hls1 : left zs t (i0 + 1) = zs.take i0 := by rw [left_step hi0, if_pos e0, hls]
  have hl0 : (left zs t (i0 + 1)).length = i0 := by rw [hls1, List.length_take]; omega
  have HD0 : Hid (Del w b off c n zs t (i0 + 1) w) := ⟨⟨f, hrow, fun k hk => by
      rw [hl0] at hk
      rw [hf k (by omega), hls1]
      simp [List.getD_eq_getElem?_getD, hk], fun k _ hk => hf k hk⟩, by omega, by omega, Kept.refl _ _⟩
  have HL0 := Lib.hid hl0
  have HT := Lib.hid fun (wr : World) (hk : Kept (fun k => k = b) w wr) (x : Int) => isT_any (hk.cellN ht hbt) x
  have HLEN := Lib.hid hlen
  have HALL : Hid (left zs t n = zs.filter (fun x => !decide (x = t))) := by show _ = _; rw [← hlen]; exact left_all
  have hnz : (n : Int) ≤ 100000 := by omega
  have hi0z : (i0 : Int) < (n : Int) := by omega
  have hz1 : ((i0 : Int) == -1) = false := beq_eq_false_iff_ne.2 (by omega)
  have hcm : c ≤ 9223372036854775807 := by unfold maxLen at hmax; omega
  have HMX := Lib.hid hmax
  generalize hQ : GsP w (some ⟨b, off, none⟩) c (zs.filter (fun x => !decide (x = t))).length (zs.filter (fun x => !decide (x = t))) = P
  have HQ := Lib.hid hQ
  clear hQ h ht hne hm e0 hno hrow hf hls hls1 hl0 hlen hmax
  obtain ⟨ti, hti, htz, htsz, htby⟩ := info_parts infoI
  have HZV : Hid (∀ w, (zeroValue 3).run Try.prog w = .ok (.int .i64 0) w) := fun w => by simp [zeroValue, typeInfo, hti, htz]
  clear hti htz htsz htby
  go_enter Try.func15, Try.ntmps15
  go_wp2_with (go_at_call 25; (with_reducible refine HIF.out.mono ?_); rintro e w' ⟨rfl, rfl⟩)
  go_loopg [5, 6] (n - (i0 + 1)) (fun gx s5 s6 wr => ∃ j : Nat, j + gx = n ∧ s6 = .int .i64 (j : Int) ∧ s5 = .int .i64 (((left zs t j).length : Nat) : Int) ∧ Del w b off c n zs t j wr)
  case atStart => exact ⟨i0 + 1, by omega, by go_num, by rw [HL0.out], HD0.out⟩
  case round =>
    obtain ⟨j, hg, rfl, rfl, hd⟩ := hrel
    have HG := Lib.hid hg
    have HD := Lib.hid hd
    have hlt := hd.lt
    have hjn := hd.le
    clear hg hd
    obtain ⟨f, hr, h2, h3⟩ := HD.out.row
    by_cases hj : j < n
    · have hjz : (j : Int) < (n : Int) := by omega
      have r1 := hr.cell (i := off + j) (by omega)
      rw [h3 j (Nat.le_refl _) hj] at r1
      have r2 := hr.cell (i := off + (left zs t j).length) (by omega)
      have f2 := hr.frozen
      have hiz : (((left zs t j).length : Nat) : Int) < (n : Int) := by omega
      have HSK := Lib.hid fun (e : zs.getD j 0 = t) => HD.out.skip HLEN.out hj e
      have HKE := Lib.hid fun (e : zs.getD j 0 ≠ t) => HD.out.keep HLEN.out hj e
      have HTy := Lib.hid (HT.out wr HD.out.k (zs.getD j 0))
      clear hr h2 h3
      generalize f (off + (left zs t j).length) = u at *
      by_cases e : zs.getD j 0 = t
      · obtain ⟨hd1, he1⟩ := HSK.out e
        have HD1 := Lib.hid hd1
        have HE1 := Lib.hid he1
        have e' : (zs.getD j 0 == t) = true := beq_iff_eq.2 e
        rw [e'] at HTy
        clear hd1 he1 e HSK HKE e'
        generalize zs.getD j 0 = y at *
        go_wp2_with (go_at_call 16; (with_reducible refine HTy.out.mono ?_); rintro e w' ⟨rfl, rfl⟩)
        go_roundg (gk - 1)
        case measure => have := HG.out; omega
        case rel => exact ⟨j + 1, by have := HG.out; omega, by go_num, by rw [HE1.out], HD1.out⟩
      · obtain ⟨hd1, he1⟩ := HKE.out e
        have HD1 := Lib.hid hd1
        have HE1 := Lib.hid he1
        have e' : (zs.getD j 0 == t) = false := beq_eq_false_iff_ne.2 e
        rw [e'] at HTy
        clear hd1 he1 e HSK HKE e'
        generalize zs.getD j 0 = y at *
        go_wp2_with (go_at_call 16; (with_reducible refine HTy.out.mono ?_); rintro e w' ⟨rfl, rfl⟩)
        go_roundg (gk - 1)
        case measure => have := HG.out; omega
        case rel => exact ⟨j + 1, by have := HG.out; omega, by go_num, by rw [HE1.out]; go_num, HD1.out⟩
    · obtain rfl : j = n := by omega
      rw [HALL.out] at h2 hlt ⊢
      clear h3 HIF HD0 HL0 HT hj HALL
      have HK := Lib.hid HD.out.k
      clear HD
      generalize zs.filter (fun x => !decide (x = t)) = ks at *
      have hil : ((ks.length : Nat) : Int) < (j : Int) := by omega
      have hcl : ∀ ty, (Builtin.clear_ #[23] ty #[.slice (some ⟨b, off + ks.length, none⟩) (j - ks.length) (c - ks.length)]).run Try.prog wr = .ok (.tuple #[]) (wr.setCells b (off + ks.length) (List.replicate (j - ks.length) (.int .i64 0))) :=
        fun ty => Lib.run_clear_slice wr _ _ ty _ Try.underlying23 HZV.out rfl rfl b (off + ks.length) _ _ (by omega) (fun k hk => Row.isSome hr (by omega)) (fun k _ => hr.frozen _)
      have HFIN : Hid (GsP w (some ⟨b, off, none⟩) c ks.length ks (.returned (.slice (some ⟨b, off, none⟩) ks.length c)) (wr.setCells b (off + ks.length) (List.replicate (j - ks.length) (.int .i64 0)))) := by
        refine ⟨_, c, rfl, ⟨rfl, by omega, HMX.out, fun _ => ⟨b, off, _, rfl, Row.setCells _ _ hr, fun k hk => ?_⟩⟩, (HK.out.trans (kept_setCells _ _ _ _)).mono fun k _ e => blk_some.2 ⟨by omega, e.symm⟩, fun k hk => .inl hk⟩
        rw [if_neg (by omega)]
        exact h2 k hk
      rw [HQ.out] at HFIN
      have hci : ¬ (c = ks.length) := by omega
      have hj0 : ks.length ≤ j := by omega
      clear hr h2
      generalize ks.length = i at *
      go_wp2
      exact HFIN.out
end
end Go.Proofs.Ytpdmncdbimdfaaa.LatD
