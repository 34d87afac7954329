/-
  The document's ring (chapter 8, lavaboref4): how it lies in memory; Drain, Touch, Forget.
-/
import Derived.Test.YtodmjclkfadooaaRingForget
import Derived.Test.YtodmjclkfadooaaListRefMore
namespace Go.Proofs.Ytodmjclkfadooaa.RingR
open Go.ChangeShapes Go.WideShapes Go.ChangeAt Go.RowKit Go.Conc
open Go.Proofs.Ytodmjclkfadooaa.Mem Go.Proofs.Ytodmjclkfadooaa.Blk Go.Proofs.Ytodmjclkfadooaa.Rowed Go.Proofs.Ytodmjclkfadooaa.Chan Go.Proofs.Ytodmjclkfadooaa.RingC Go.Proofs.Ytodmjclkfadooaa.RingT Go.Proofs.Ytodmjclkfadooaa.RingF Go.Proofs.Ytodmjclkfadooaa.Stages
open Go.Proofs.Ytodmjclkfadooaa.ListR (append_sl own_form)
open Go.Proofs.Ytodmjclkfadooaa.ListD (infoI)

/-- At block m: zs wait; the slice lies in no block of F. -/
structure RRef (w : World) (m : Nat) (F : Nat → Prop) (zs : List Int) : Prop where
  hd : ∃ A c, Row w m 1 (fun _ => .slice A zs.length c) ∧ Sl w w.heap.size .i64 A zs.length zs ∧ (zs.length ≤ c ∧ c ≤ maxLen) ∧ ∀ x, A = some x → x.block ≠ m ∧ ¬ F x.block
  fm : ¬ F m
section
variable {w w' : World} {m : Nat} {F G : Nat → Prop} {zs us ys : List Int}
theorem RRef.kept (h : RRef w m F zs) (hk : Kept G w w') (hG : ∀ k, G k → F k ∨ IsChan w k) : RRef w' m F zs := by
  obtain ⟨A, c, h1, h2, h3, h4⟩ := h.hd
  have hm : ¬ G m := fun x => by
    rcases hG m x with e | e
    · exact h.fm e
    · obtain ⟨cur, t, hb, _⟩ := h1
      exact notChan_cells hb e
  refine ⟨⟨A, c, h1.kept hk hm, ⟨h2.1, fun hn => ?_⟩, h3, h4⟩, h.fm⟩
  obtain ⟨b, off, rfl, hb, hc⟩ := h2.2 hn
  refine ⟨b, off, rfl, Nat.lt_of_lt_of_le hb hk.size, fun j hj => hk.cellN (hc j hj) fun x => ?_⟩
  rcases hG _ x with e | e
  · exact (h4 _ rfl).2 e
  · exact notChan_cell (hc j hj) e
theorem RRef.grow (h : RRef w m F zs) (hk : Grow w w') : RRef w' m F zs := h.kept hk fun _ x => x.elim
theorem RRef.lt (h : RRef w m F zs) : m < w.heap.size := by
  obtain ⟨A, c, h1, _⟩ := h.hd
  exact h1.lt
/-- Another slice is laid into it. -/
theorem RRef.put {A : Option Addr} {c : Nat} (h : RRef w m F zs) (hs : Sl w w.heap.size .i64 A ys.length ys) (hc : ys.length ≤ c ∧ c ≤ maxLen) (hA : ∀ x, A = some x → x.block ≠ m ∧ ¬ F x.block) :
    RRef (w.setCell ⟨m, 0, none⟩ (.slice A ys.length c)) m F ys := by
  obtain ⟨A0, c0, h1, h2, h3, h4⟩ := h.hd
  refine ⟨⟨A, c, (h1.set 0 _).congr fun i hi => ?_, ⟨hs.1, fun hn => ?_⟩, hc, hA⟩, h.fm⟩
  · have : i = 0 := by omega
    subst this
    rfl
  · obtain ⟨b, off, rfl, hb, hcl⟩ := hs.2 hn
    refine ⟨b, off, rfl, by simpa using hb, fun j hj => ?_⟩
    have := (kept_set w m 0 (.slice (some ⟨b, off, none⟩) ys.length c)).cell (p := ⟨b, off + j, none⟩) hb (hA _ rfl).1
    rw [this, hcl j hj]

/-- The numbers us are told; ys wait behind the call. -/
def QPost (m : Nat) (F : Nat → Prop) (w : World) (us ys : List Int) (e : Ending) (w' : World) : Prop :=
  ∃ A c, e = .returned (.slice A us.length c) ∧ Sl w' w'.heap.size .i64 A us.length us ∧ RRef w' m F ys ∧ Kept (· = m) w w'

theorem qdrain_any (h : RRef w m F zs) : Calls Try.prog 16 #[.pointer (some ⟨m, 0, none⟩)] w (QPost m F w zs []) := by
  obtain ⟨A, c, h1, h2, h3, h4⟩ := h.hd
  have c0 := h1.cell (i := 0) (by omega)
  have f0 := h1.frozen 0
  have HS : Hid (Sl (w.setCell ⟨m, 0, none⟩ (.slice none 0 0)) (w.setCell ⟨m, 0, none⟩ (.slice none 0 0)).heap.size .i64 A zs.length zs) := by
    refine ⟨h2.1, fun hn => ?_⟩
    obtain ⟨b, off, rfl, hb, hcl⟩ := h2.2 hn
    refine ⟨b, off, rfl, by simpa using hb, fun j hj => ?_⟩
    have := (kept_set w m 0 (.slice none 0 0)).cell (p := ⟨b, off + j, none⟩) hb (h4 _ rfl).1
    rw [this, hcl j hj]
  have HR : Hid (RRef (w.setCell ⟨m, 0, none⟩ (.slice none 0 0)) m F []) := h.put (ys := []) (Sl.nil _ _ _ _) ⟨Nat.le_refl _, Nat.zero_le _⟩ (fun x hx => by cases hx)
  clear h h1 h2 h3 h4
  go_enter Try.func16, Try.ntmps16
  go_wp2
  go_ret
  exact ⟨A, c, rfl, HS.out, HR.out, kept_set _ _ _ _⟩

theorem qtouch_bad (h : RRef w m F zs) (f : Int) (hf : okT f = false) : Calls Try.prog 14 #[.pointer (some ⟨m, 0, none⟩), .int .i64 f] w (QPost m F w [] zs) := by
  have HQ : Hid (QPost m F w [] zs (.returned (.slice none 0 0)) w) := ⟨none, 0, rfl, Sl.nil _ _ _ _, h, Kept.refl _ _⟩
  clear h
  by_cases h0 : f < 0
  · clear hf
    go_enter Try.func14, Try.ntmps14
    go_wp2
    go_ret
    exact HQ.out
  · have h1 : 0 ≤ f := by omega
    have h2 : 32 ≤ f := by
      simp only [okT, Bool.and_eq_false_iff, decide_eq_false_iff_not] at hf
      omega
    clear hf h0
    go_enter Try.func14, Try.ntmps14
    go_wp2
    go_ret
    exact HQ.out

theorem sl_oneI (w1 : World) (k : Int) : Sl (w1.alloc (.cells #[.int .i64 k] 3)) (w1.heap.size + 1) .i64 (some ⟨w1.heap.size, 0, none⟩) 1 [k] :=
  ⟨rfl, fun _ => ⟨_, _, rfl, by omega, fun j hj => by
    have : j = 0 := by omega
    subst this
    exact cell_new1 _ _ _⟩⟩

set_option maxHeartbeats 1000000 in
theorem qtouch_ok (h : RRef w m F zs) (f : Int) (h0 : 0 ≤ f) (h32 : f < 32) (hl : zs.length ≤ 7) (low : ∀ k, F k → k < w.heap.size) :
    Calls Try.prog 14 #[.pointer (some ⟨m, 0, none⟩), .int .i64 f] w (QPost m F w (if zs.length = 7 then zs ++ [f] else []) (if zs.length = 7 then [] else zs ++ [f])) := by
  generalize hP : QPost m F w (if zs.length = 7 then zs ++ [f] else []) (if zs.length = 7 then [] else zs ++ [f]) = P
  have HP := Lib.hid hP
  clear hP
  obtain ⟨A, c, h1, h2, h3, h4⟩ := h.hd
  have c1 := h1.cell (i := 0) (by omega)
  have HLT := Lib.hid h.lt
  have HLOW := Lib.hid low
  have HA := Lib.hid h2
  have H := Lib.hid h
  have hlz : (zs.length : Int) ≤ 7 := by omega
  clear h1 h4 h2 h3 low h
  go_enter Try.func14, Try.ntmps14
  go_upto_region 3 with (fail)
  have hga : Grow w (w.alloc (.cells #[] 3)) := (Kept.refl _ _).alloc _
  have hown := World.ownsRow_lit (base := w.heap.size) (e := 3) (size := 1) w #[] 0 (Nat.le_refl _) (by unfold maxLen; omega) rfl
  obtain ⟨v', w1, hr, ho1, hb1⟩ := append_sl (m := zs.length) (A := A) (B := w.heap.size) (c := c) (ys := []) 22 hown (Sl.kept HA.out hga (Nat.le_refl _) (fun _ _ x => x)) (by omega) (by simp)
  have HG1 : Hid (Grow w w1) := Kept.of_below (hga.below.trans hb1)
  obtain ⟨v2, w2, hr2, ho2, hb2⟩ := append_sl (m := 1) (zs := [f]) (A := some ⟨w1.heap.size, 0, none⟩) (B := w1.heap.size + 1) (c := 1) 22 (World.ownsRow.alloc ho1 (.cells #[.int .i64 f] 3)) (sl_oneI w1 f) (by omega) (by have := HG1.out.size; simp; omega)
  have HG2 : Hid (Grow w w2) := Kept.of_below ((HG1.out.below.alloc HG1.out.size _).trans hb2)
  obtain ⟨A1, c1', rfl, hs1, hc1, hm1, hx1⟩ := own_form ho2
  have hlen : 0 + zs.length + 1 = (zs ++ [f]).length := by simp
  have hz : [] ++ zs ++ [f] = zs ++ [f] := by simp
  rw [hlen] at hr2 hs1 hc1
  rw [hz] at hs1
  have HR := Lib.hid hr
  have HR2 := Lib.hid hr2
  have HS1 := Lib.hid (And.intro hs1 (And.intro hc1 (And.intro hm1 hx1)))
  have ca := hga.cellN c1 id
  clear hr hr2 hs1 hc1 hm1 hx1 ho1 ho2 hb1 hb2 hown hga hlen hz
  obtain ⟨A0, c00, hrow, _⟩ := (H.out.grow HG2.out).hd
  have r1 := hrow.cell (i := 0) (by omega)
  have f1 := hrow.frozen 0
  clear hrow
  have HF : Hid (RRef (w2.setCell ⟨m, 0, none⟩ (.slice A1 (zs ++ [f]).length c1')) m F (zs ++ [f])) := (H.out.grow HG2.out).put HS1.out.1 ⟨HS1.out.2.1, HS1.out.2.2.1⟩ (fun x hx => by
    have h1 := HS1.out.2.2.2 x hx
    have h2 := HLT.out
    refine ⟨by omega, fun hf => ?_⟩
    have := HLOW.out _ hf
    omega)
  have HK : Hid (Kept (· = m) w (w2.setCell ⟨m, 0, none⟩ (.slice A1 (zs ++ [f]).length c1'))) := Kept.setCell (F := (· = m)) (Grow.kept HG2.out) (p := ⟨m, 0, none⟩) (fun _ => rfl) _
  have hL : (zs ++ [f]).length = zs.length + 1 := by simp
  rw [hL] at HF HK
  have HL := Lib.hid hL
  clear hL
  go_upto_region 4 with (at_builtin; first | refine Lib.wpList_append_run _ rfl _ _ _ _ rfl _ _ rfl rfl _ _ HR.out ?_ | refine Lib.wpList_append_run _ rfl _ _ _ _ rfl _ _ rfl rfl _ _ HR2.out ?_)
  generalize w2.setCell ⟨m, 0, none⟩ (.slice A1 (zs.length + 1) c1') = w3 at HF HK ⊢
  obtain ⟨A5, c5, hrow5, _⟩ := HF.out.hd
  have r5 := hrow5.cell (i := 0) (by omega)
  rw [HL.out] at r5
  have HDR := Lib.hid (qdrain_any HF.out)
  clear hrow5 r1 f1 ca c1 HR HR2 HS1
  by_cases h7 : zs.length = 7
  · have HE7 : Hid (QPost m F w (zs ++ [f]) [] = P) := by
      have := HP.out
      rwa [if_pos h7, if_pos h7] at this
    have h7z : (zs.length : Int) = 7 := by omega
    clear HP hlz h7
    go_wp2_with (go_at_call 16; (with_reducible refine HDR.out.mono ?_); rintro e w4 ⟨A6, c6, rfl, hs, hr, hk⟩; have HS6 := Lib.hid hs; have HR6 := Lib.hid hr; have HK6 := Lib.hid hk; clear hs hr hk)
    rw [← HE7.out]
    exact ⟨A6, c6, by simp, HS6.out, HR6.out, HK.out.trans HK6.out⟩
  · have HE7 : Hid (QPost m F w [] (zs ++ [f]) = P) := by
      have := HP.out
      rwa [if_neg h7, if_neg h7] at this
    have h7z : (zs.length : Int) + 1 < 8 := by omega
    clear HP h7
    go_wp2
    rw [← HE7.out]
    exact ⟨none, 0, rfl, Sl.nil _ _ _ _, HF.out, HK.out⟩
theorem qtouch_any (h : RRef w m F zs) (f : Int) (hl : zs.length ≤ 7) (low : ∀ k, F k → k < w.heap.size) :
    Calls Try.prog 14 #[.pointer (some ⟨m, 0, none⟩), .int .i64 f] w (QPost m F w (toldBy zs f) (waitBy zs f)) := by
  unfold toldBy waitBy
  cases hf : okT f with
  | false => exact qtouch_bad h f hf
  | true =>
    simp only [okT, Bool.and_eq_true, decide_eq_true_eq] at hf
    have := qtouch_ok h f hf.1 hf.2 hl low
    simpa using this

set_option maxHeartbeats 1000000 in
theorem qforget_any (h : RRef w m F zs) (f : Int) (hl : zs.length ≤ 7) (low : ∀ k, F k → k < w.heap.size) :
    Calls Try.prog 15 #[.pointer (some ⟨m, 0, none⟩), .int .i64 f] w fun e w' => e = .returned (.int .i64 (cntBy zs f : Int)) ∧ RRef w' m F (keepBy zs f) ∧ Kept (· = m) w w' := by
  have H := Lib.hid h
  have HLT := Lib.hid h.lt
  have HLOW := Lib.hid low
  have hlz : (zs.length : Int) ≤ 7 := by omega
  obtain ⟨A, c, h1, h2, h3, h4⟩ := h.hd
  have c1 := h1.cell (i := 0) (by omega)
  have HS := Lib.hid h2
  have hck := cnt_keep f zs
  clear h h1 h2 h3 h4 low
  go_enter Try.func15, Try.ntmps15
  go_wp2
  go_loopg [5, 6] zs.length (fun gx l i wr => ∃ j : Nat, j + gx = zs.length ∧ i = .int .i64 (j : Int) ∧ wr.ownsRow w.heap.size 3 1 l (keepBy (zs.take j) f).length (vals (keepBy (zs.take j) f)) ∧ Below w.heap.size w wr)
  case atStart => exact ⟨0, by omega, rfl, World.ownsRow_nil _ _ _ _, Below.refl _ _⟩
  case round =>
    obtain ⟨j, hg, rfl, ho, hb⟩ := hrel
    have HG := Lib.hid hg
    have HO := Lib.hid ho
    have HB := Lib.hid hb
    have hkl := keep_len (zs.take j) f
    rw [List.length_take] at hkl
    have hkz : (keepBy (zs.take j) f).length ≤ 7 := by omega
    have r0 := (Kept.of_below hb (F := fun _ => False)).cellN c1 id
    have hbs := hb.size
    clear hg ho hb hkl
    by_cases hj : j < zs.length
    · have hjz : (j : Int) < (zs.length : Int) := by omega
      obtain ⟨b, o, rfl, _, hc⟩ := HS.out.at_ (by omega)
      have r1 := (Kept.of_below HB.out (F := fun _ => False)).cellN (hc j hj) id
      have HEQ := Lib.hid fun h => by_eq (f := f) hj (rfl : zs.getD j 0 = _) h
      have HNE := Lib.hid fun h => by_ne (f := f) hj (rfl : zs.getD j 0 = _) h
      clear hc
      generalize zs.getD j 0 = x at *
      by_cases hx : x = f
      · have HE := Lib.hid (HEQ.out hx).2
        clear HEQ HNE
        have hx' : (x != f) = false := by rw [bne_eq_false_iff_eq]; exact hx
        have HX := Lib.hid hx
        clear hx
        go_wp2
        go_roundg (zs.length - (j + 1))
        case measure => have := HG.out; omega
        case rel => exact ⟨j + 1, by have := HG.out; omega, by go_num, by rw [HE.out]; exact HO.out, HB.out⟩
      · have HE := Lib.hid (HNE.out hx).2
        clear HEQ HNE
        have hx' : (x != f) = true := by rw [bne_iff_ne]; exact hx
        have HX := Lib.hid hx
        clear hx
        go_wp2_with (at_builtin; refine wpList_append_one rfl (.tmp 26) (.tmp 34) 22 rfl w.heap.size 3 (.int .i64 0) 8 Try.underlying22 infoI rfl _ _ _ rfl (World.ownsRow.alloc HO.out _) wr.heap.size (.int .i64 x) rfl (cell_new1 _ _ _) rfl (by unfold maxLen; omega) (by omega) (by simp; omega) ?_; intro g cap w2 hown hbel; have HOW := Lib.hid hown; have HBW := Lib.hid hbel; clear hown hbel)
        go_roundg (zs.length - (j + 1))
        case measure => have := HG.out; omega
        case rel => exact ⟨j + 1, by have := HG.out; omega, by go_num, by rw [HE.out, List.length_append]; simpa using HOW.out, (HB.out.alloc hbs _).trans HBW.out⟩
    · obtain rfl : j = zs.length := by have := HG.out; omega
      rw [List.take_length] at HO hkz
      have hsub : (zs.length : Int) - ((keepBy zs f).length : Int) = (cntBy zs f : Int) := by omega
      obtain ⟨A1, c1', rfl, hs1, hc1, hm1, hx1⟩ := own_form HO.out
      have HS1 := Lib.hid (And.intro hs1 (And.intro hc1 (And.intro hm1 hx1)))
      have hgr : Grow w wr := Kept.of_below HB.out
      have HGR := Lib.hid hgr
      obtain ⟨A0, c00, hrow, _⟩ := (H.out.grow hgr).hd
      have f1 := hrow.frozen 0
      have HF : Hid (RRef (wr.setCell ⟨m, 0, none⟩ (.slice A1 (keepBy zs f).length c1')) m F (keepBy zs f)) := (H.out.grow hgr).put HS1.out.1 ⟨HS1.out.2.1, HS1.out.2.2.1⟩ (fun x hx => by
        have h1 := HS1.out.2.2.2 x hx
        have h2 := HLT.out
        refine ⟨by omega, fun hf => ?_⟩
        have := HLOW.out _ hf
        omega)
      have HK : Hid (Kept (· = m) w (wr.setCell ⟨m, 0, none⟩ (.slice A1 (keepBy zs f).length c1'))) := Kept.setCell (F := (· = m)) (Grow.kept hgr) (p := ⟨m, 0, none⟩) (fun _ => rfl) _
      have HKL : Hid ((keepBy zs f).length ≤ 7) := hkz
      clear hs1 hc1 hm1 hx1 hgr hrow hck
      go_wp2
      go_ret
      exact ⟨by rw [← hsub]; rfl, HF.out, HK.out⟩
end
end Go.Proofs.Ytodmjclkfadooaa.RingR
