/-
  The document's list (chapter 4, lavaboref4): Back and Out.
-/
import Derived.Test.YtodmjclkfadooaaListRefOps
namespace Go.Proofs.Ytodmjclkfadooaa.ListT
open Go.ChangeShapes Go.WideShapes Go.ChangeAt Go.RowKit
open Go.Proofs.Ytodmjclkfadooaa.Mem Go.Proofs.Ytodmjclkfadooaa.Blk Go.Proofs.Ytodmjclkfadooaa.ListM Go.Proofs.Ytodmjclkfadooaa.Rowed Go.Proofs.Ytodmjclkfadooaa.ListC Go.Proofs.Ytodmjclkfadooaa.ListD Go.Proofs.Ytodmjclkfadooaa.ListR Go.Proofs.Ytodmjclkfadooaa.ListS Go.Proofs.Ytodmjclkfadooaa.Stages

section
variable {w : World} {m n : Nat} {F : Nat → Prop} {zs : List Nat}

theorem rback_bad (h : RefAt w m n F zs) (k : Int) (hn : zs.Nodup) (hl : zs.length ≤ 1024) (hk : okF n zs k = false) (hlt : ∀ x ∈ zs, x < n) :
    Calls Try.prog 20 #[.pointer (some ⟨m, 0, none⟩), .int .i64 k] w fun e w' => e = .returned (.bool false) ∧ w = w' := by
  obtain ⟨A, c, h1, h2, h3, h4⟩ := h.hd
  have c0 := h1.cell (i := 0) (by omega)
  have c1 := h1.cell (i := 1) (by omega)
  simp only [Nat.one_ne_zero, if_false, if_true] at c1 c0
  have HP := Lib.hid (place_any A c _ zs k hn (by omega) h2)
  clear h1 h4 h
  by_cases h0 : k < 0
  · clear hk
    go_enter Try.func20, Try.ntmps20
    go_wp2
    go_ret
    exact ⟨rfl, rfl⟩
  · by_cases hN : (n : Int) ≤ k
    · clear hk
      go_enter Try.func20, Try.ntmps20
      go_wp2
      go_ret
      exact ⟨rfl, rfl⟩
    · have ho : okO zs k = true := by
        unfold okF at hk
        unfold okO
        simpa [show 0 ≤ k by omega, show k < (n : Int) by omega] using hk
      have hp : placeI zs k = ((zs.idxOf k.toNat : Nat) : Int) := by unfold placeI; rw [if_pos ho]
      rw [hp] at HP
      generalize zs.idxOf k.toNat = i at *
      have h0' : 0 ≤ k := by omega
      have hN' : k < (n : Int) := by omega
      clear hk ho hp hlt hn h2
      go_enter Try.func20, Try.ntmps20
      go_wp2_with (go_at_call 28; (with_reducible refine HP.out.mono ?_); rintro e w' ⟨rfl, rfl⟩)
      go_ret
      exact ⟨rfl, rfl⟩

theorem ints_append (a b : List Nat) : ints (a ++ b) = ints a ++ ints b := by simp [ints]
theorem sl_one (w1 : World) (k : Nat) : Sl (w1.alloc (.cells #[.int .i64 (k : Int)] 3)) (w1.heap.size + 1) .i64 (some ⟨w1.heap.size, 0, none⟩) 1 [(k : Int)] :=
  ⟨rfl, fun _ => ⟨_, _, rfl, by omega, fun j hj => by
    have : j = 0 := by omega
    subst this
    exact cell_new1 _ _ _⟩⟩
theorem rback_good (h : RefAt w m n F zs) (k : Nat) (hkn : k < n) (hkz : k ∉ zs) (hn : zs.Nodup) (hl : zs.length ≤ 1024) (low : ∀ k, F k → k < w.heap.size) :
    Calls Try.prog 20 #[.pointer (some ⟨m, 0, none⟩), .int .i64 (k : Int)] w (RPost m n F w (.bool true) (zs ++ [k])) := by
  obtain ⟨A, c, h1, h2, h3, h4⟩ := h.hd
  have c0 := h1.cell (i := 0) (by omega)
  have c1 := h1.cell (i := 1) (by omega)
  simp only [Nat.one_ne_zero, if_false, if_true] at c1 c0
  have HP := Lib.hid (place_any A c _ zs (k : Int) hn (by omega) h2)
  have hp : placeI zs (k : Int) = -1 := by unfold placeI okO; simp [hkz]
  rw [hp] at HP
  have hkz' : (k : Int) < (n : Int) := by omega
  have HLT := Lib.hid h.lt
  have HLOW := Lib.hid low
  have HA := Lib.hid h2
  have H := Lib.hid h
  clear h1 h4 h2 h3 hp low
  go_enter Try.func20, Try.ntmps20
  go_upto_region 3 with (go_at_call 28; (with_reducible refine HP.out.mono ?_); rintro e w' ⟨rfl, rfl⟩)
  have hga : Grow w (w.alloc (.cells #[] 3)) := (Kept.refl _ _).alloc _
  have hown := World.ownsRow_lit (base := w.heap.size) (e := 3) (size := 1) w #[] 0 (Nat.le_refl _) (by unfold maxLen; omega) rfl
  obtain ⟨v', w1, hr, ho1, hb1⟩ := append_sl (m := zs.length) (A := A) (B := w.heap.size) (c := c) (ys := []) 22 hown (Sl.kept HA.out hga (Nat.le_refl _) (fun _ _ x => x)) (by omega) (by simp)
  have HG1 : Hid (Grow w w1) := Kept.of_below (hga.below.trans hb1)
  have hgb : Grow w1 (w1.alloc (.cells #[.int .i64 (k : Int)] 3)) := (Kept.refl _ _).alloc _
  obtain ⟨v2, w2, hr2, ho2, hb2⟩ := append_sl (m := 1) (zs := [(k : Int)]) (A := some ⟨w1.heap.size, 0, none⟩) (B := w1.heap.size + 1) (c := 1) 22 (World.ownsRow.alloc ho1 (.cells #[.int .i64 (k : Int)] 3)) (sl_one w1 k) (by omega) (by have := HG1.out.size; simp; omega)
  have HG2 : Hid (Grow w w2) := Kept.of_below ((HG1.out.below.alloc HG1.out.size _).trans hb2)
  obtain ⟨A1, c1', rfl, hs1, hc1, hm1, hx1⟩ := own_form ho2
  have hlen : 0 + zs.length + 1 = (zs ++ [k]).length := by simp
  have hz : [] ++ ints zs ++ [(k : Int)] = ints (zs ++ [k]) := by rw [ints_append]; rfl
  rw [hlen] at hr2 hs1 hc1
  rw [hz] at hs1
  have HR := Lib.hid hr
  have HR2 := Lib.hid hr2
  have HS1 := Lib.hid (And.intro hs1 (And.intro hc1 (And.intro hm1 hx1)))
  have ca := hga.cellN c1 id
  clear hr hr2 hs1 hc1 hm1 hx1 ho1 ho2 hb1 hb2 hown hga hgb hlen hz
  obtain ⟨A0, c00, hrow, _⟩ := (H.out.grow HG2.out).hd
  have r1 := hrow.cell (i := 1) (by omega)
  have f1 := hrow.frozen 1
  clear hrow
  have HF : Hid (RefAt (w2.setCell ⟨m, 1, none⟩ (.slice A1 (zs ++ [k]).length c1')) m n F (zs ++ [k])) := (H.out.grow HG2.out).put HS1.out.1 ⟨HS1.out.2.1, HS1.out.2.2.1⟩ (fun x hx => by
    have h1 := HS1.out.2.2.2 x hx
    have h2 := HLT.out
    refine ⟨by omega, fun hf => ?_⟩
    have := HLOW.out _ hf
    omega)
  have HK : Hid (Kept (· = m) w (w2.setCell ⟨m, 1, none⟩ (.slice A1 (zs ++ [k]).length c1'))) := Kept.setCell (F := (· = m)) (Grow.kept HG2.out) (p := ⟨m, 1, none⟩) (fun _ => rfl) _
  generalize (zs ++ [k]).length = L at *
  go_wp2_with (at_builtin; first | refine Lib.wpList_append_run _ rfl _ _ _ _ rfl _ _ rfl rfl _ _ HR.out ?_ | refine Lib.wpList_append_run _ rfl _ _ _ _ rfl _ _ rfl rfl _ _ HR2.out ?_)
  go_ret
  exact ⟨rfl, HF.out, HK.out⟩

/-- Where 'without' lays what is left. -/
def Without (w : World) (i : Nat) (zs : List Nat) (e : Ending) (w' : World) : Prop :=
  ∃ A c, e = .returned (.slice A (zs.length - 1) c) ∧ Sl w' w'.heap.size .i64 A (zs.length - 1) (ints (zs.eraseIdx i)) ∧ zs.length - 1 ≤ c ∧ c ≤ maxLen ∧ (∀ x, A = some x → w.heap.size ≤ x.block) ∧ Grow w w'
theorem without_any {w : World} (A : Option Addr) (c B : Nat) (i : Nat) (hi : i < zs.length) (hl : zs.length ≤ 1024) (hc : zs.length ≤ c ∧ c ≤ maxLen) (h : Sl w B .i64 A zs.length (ints zs)) (hB : B ≤ w.heap.size) :
    Calls Try.prog 34 #[.slice A zs.length c, .int .i64 (i : Int)] w (Without w i zs) := by
  have hiz : (i : Int) < (zs.length : Int) := by omega
  have hlz : (zs.length : Int) ≤ 1024 := by omega
  obtain ⟨h1, h2⟩ := hc
  unfold maxLen at h2
  have hcz : (zs.length : Int) ≤ (c : Int) := by omega
  have hcm : (c : Int) ≤ 9223372036854775807 := by omega
  have H := Lib.hid h
  obtain ⟨b, off, rfl, hb, _⟩ := h.2 (by omega)
  clear h
  have HCUT : Hid (Sl w B .i64 (if c = i + 1 then (some ⟨b, off, none⟩ : Option Addr) else some ⟨b, off + (i + 1), none⟩) (zs.length - (i + 1)) ((ints zs).drop (i + 1))) := by
    have := Sl.cut H.out (m := i + 1) (cap := c) (by omega) h1
    have e : Option.map (fun x : Addr => x.add (i + 1)) (some (⟨b, off, none⟩ : Addr)) = some ⟨b, off + (i + 1), none⟩ := by simp [Addr.add]
    rw [e] at this
    exact this
  have hga : Grow w (w.alloc (.cells #[] 3)).drew := ((Kept.refl _ _).alloc _).drew
  have hown := World.ownsRow_lit (base := w.heap.size) (e := 3) (size := 1) w #[] 0 (Nat.le_refl _) (by unfold maxLen; omega) rfl
  have hown' : (w.alloc (.cells #[] 3)).drew.ownsRow w.heap.size 3 1 (.slice (some ⟨w.heap.size, 0, none⟩) 0 0) 0 ([].map (Value.int .i64)) := hown
  obtain ⟨v', w1, hr, ho1, hb1⟩ := append_sl (m := i) (A := some ⟨b, off, none⟩) (B := B) (c := c) (ys := []) 22 hown' (Sl.kept (Sl.take H.out (m := i) (by omega)) hga hB (fun _ _ x => x)) (by omega) (by simp)
  have HG1 : Hid (Grow w w1) := Kept.of_below (hga.below.trans hb1)
  have HB1 : Hid (Kept (· = w.heap.size) (w.alloc (.cells #[] 3)).drew w1) := by
    have := hb1
    refine ⟨this.os, this.tape, this.output, this.size, fun k hk hne => this.block k ?_⟩
    simp at hk
    omega
  have HR := Lib.hid hr
  have HO1 := Lib.hid ho1
  clear hr ho1 hb1 hown hown' hga
  go_enter Try.func34, Try.ntmps34
  go_upto_region 1 with (fail)
  refine wp_region_stages (Kept (w.heap.size ≤ ·)) (kept_refl _) (kept_trans _) [([1, 2, 3, 5, 6, 7, 8], 0), ([], 4), ([], 9)] [10] (by kernel_rfl) (by kernel_rfl) ?_
  simp only [selSt, sel, List.map_cons, List.map_nil, List.getD_cons_succ, List.getD_cons_zero]
  refine st_cons fun K1 hK1 => ?_
  repeat (go_big_quiet_step (fail))
  refine wpQuiet_nil ?_
  generalize (if c = i + 1 then (some ⟨b, off, none⟩ : Option Addr) else some ⟨b, off + (i + 1), none⟩) = A2 at HCUT ⊢
  go_wp2
  refine norm_up (hK1 _ _ ((Kept.refl _ _).alloc _) (st_cons fun K2 hK2 => wpQuiet_nil ?_))
  clear hK1 K1
  go_wp2_with (at_builtin; refine Lib.wpList_append_run _ rfl _ _ _ _ rfl _ _ rfl rfl _ _ HR.out ?_)
  refine norm_up (hK2 _ _ (HB1.out.mono fun k _ e => by omega) (st_cons fun K3 hK3 => wpQuiet_nil ?_))
  clear hK2 K2
  obtain ⟨v2, w2, hr2, ho2, hb2⟩ := append_sl (m := zs.length - (i + 1)) (A := A2) (B := B) (c := c - (i + 1)) 22 HO1.out (Sl.kept HCUT.out HG1.out hB (fun _ _ x => x)) (by omega) HG1.out.size
  have HG2 : Hid (Grow w w2) := Kept.of_below (HG1.out.below.trans hb2)
  have HB2 : Hid (Kept (w.heap.size ≤ ·) w1 w2) := by
    have := hb2
    refine ⟨this.os, this.tape, this.output, this.size, fun k hk hne => this.block k ?_⟩
    omega
  obtain ⟨A3, c3, rfl, hs3, hc3, hm3, hx3⟩ := own_form ho2
  have hlen : 0 + i + (zs.length - (i + 1)) = zs.length - 1 := by omega
  have hz : [] ++ (ints zs).take i ++ (ints zs).drop (i + 1) = ints (zs.eraseIdx i) := by
    rw [List.nil_append, List.eraseIdx_eq_take_drop_succ]
    unfold ints
    rw [List.map_append, List.map_take, List.map_drop]
  rw [hlen] at hr2 hs3 hc3
  rw [hz] at hs3
  have HR2 := Lib.hid hr2
  have HS3 := Lib.hid (And.intro hs3 (And.intro hc3 (And.intro hm3 hx3)))
  clear hr2 hs3 hc3 hm3 hx3 ho2 hb2 hlen hz
  go_wp2_with (at_builtin; refine Lib.wpList_append_run _ rfl _ _ _ _ rfl _ _ rfl rfl _ _ HR2.out ?_)
  refine norm_up (hK3 _ _ HB2.out (st_nil fun K4 hK4 => ?_))
  clear hK3 K3
  repeat (go_big_quiet_step (fail))
  refine wpQuiet_nil (hK4 _ ?_)
  clear hK4 K4
  go_wp2
  go_ret
  exact ⟨A3, c3, rfl, HS3.out.1, HS3.out.2.1, HS3.out.2.2.1, HS3.out.2.2.2, HG2.out⟩

theorem erase_idx (hn : zs.Nodup) {k : Nat} (hk : k ∈ zs) : zs.eraseIdx (zs.idxOf k) = zs.erase k := by
  rw [List.erase_eq_eraseIdx_of_idxOf rfl]
theorem rout_any (h : RefAt w m n F zs) (k : Int) (hn : zs.Nodup) (hl : zs.length ≤ 1024) (low : ∀ k, F k → k < w.heap.size) :
    Calls Try.prog 29 #[.pointer (some ⟨m, 0, none⟩), .int .i64 k] w (RPost m n F w (.bool (okO zs k)) (outL zs k)) := by
  obtain ⟨A, c, h1, h2, h3, h4⟩ := h.hd
  have c1 := h1.cell (i := 1) (by omega)
  simp only [Nat.one_ne_zero, if_false, if_true] at c1
  have HP := Lib.hid (place_any A c _ zs k hn (by omega) h2)
  have H := Lib.hid h
  cases hk : okO zs k with
  | false =>
    have hp : placeI zs k = -1 := by unfold placeI; rw [hk]; rfl
    have HE : Hid (outL zs k = zs) := by show _ = _; unfold outL; rw [hk]; rfl
    rw [hp] at HP
    clear h1 h2 h3 h4 h hp hk low
    go_enter Try.func29, Try.ntmps29
    go_wp2_with (go_at_call 28; (with_reducible refine HP.out.mono ?_); rintro e w' ⟨rfl, rfl⟩)
    go_ret
    rw [HE.out]
    exact ⟨rfl, H.out, Kept.refl _ _⟩
  | true =>
    have hk' := hk
    simp only [okO, Bool.and_eq_true, decide_eq_true_eq] at hk'
    have hp : placeI zs k = ((zs.idxOf k.toNat : Nat) : Int) := by unfold placeI; rw [if_pos hk]
    have HE : Hid (outL zs k = zs.eraseIdx (zs.idxOf k.toNat)) := by
      show _ = _
      unfold outL
      rw [hk, if_pos rfl, erase_idx hn hk'.2]
    rw [hp] at HP
    have hi : zs.idxOf k.toNat < zs.length := List.idxOf_lt_length_iff.2 hk'.2
    generalize zs.idxOf k.toNat = i at *
    have HW := Lib.hid (without_any A c _ i hi hl h3 h2 (Nat.le_refl _))
    have hll : zs.length - 1 = (zs.eraseIdx i).length := by rw [List.length_eraseIdx, if_pos hi]
    have HLL := Lib.hid hll
    have HLOW := Lib.hid low
    have HLT := Lib.hid h.lt
    clear h1 h2 h3 h4 h hp hk hk' low hll
    go_enter Try.func29, Try.ntmps29
    go_upto_region 4 with (go_at_call 28; (with_reducible refine HP.out.mono ?_); rintro e w' ⟨rfl, rfl⟩)
    have f1 : Hid (∀ wx, Grow w wx → wx.cell? ⟨m, 1, none⟩ = some (.slice A zs.length c) ∧ wx.frozen? ⟨m, 1, none⟩ = false) := fun wx hg => by
      obtain ⟨A0, c0, hrow, _⟩ := (H.out.grow hg).hd
      exact ⟨hg.cellN c1 id, hrow.frozen 1⟩
    go_wp2_with (go_at_call 34; (with_reducible refine HW.out.mono ?_); rintro e w1 ⟨A1, c1', rfl, hs1, hc1, hm1, hx1, hg1⟩; have HS1 := Lib.hid (And.intro hs1 (And.intro hc1 (And.intro hm1 hx1))); have HG1 := Lib.hid hg1; obtain ⟨r1, r2⟩ := f1.out _ hg1; clear hs1 hc1 hm1 hx1 hg1)
    go_ret
    refine ⟨rfl, ?_, Kept.setCell (F := (· = m)) (Grow.kept HG1.out) (p := ⟨m, 1, none⟩) (fun _ => rfl) _⟩
    have hs := HS1.out
    rw [HLL.out] at hs ⊢
    rw [HE.out]
    refine (H.out.grow HG1.out).put hs.1 ⟨hs.2.1, hs.2.2.1⟩ (fun x hx => ?_)
    have h1 := hs.2.2.2 x hx
    have h2 := HLT.out
    refine ⟨by omega, fun hf => ?_⟩
    have := HLOW.out _ hf
    omega

theorem rfront_any (h : RefAt w m n F zs) (k : Int) (hn : zs.Nodup) (hl : zs.length ≤ 1024) (hlt : ∀ x ∈ zs, x < n) (low : ∀ k, F k → k < w.heap.size) :
    Calls Try.prog 30 #[.pointer (some ⟨m, 0, none⟩), .int .i64 k] w (RPost m n F w (.bool (okF n zs k)) (frontL n zs k)) := by
  cases hk : okF n zs k with
  | true =>
    have hk' := hk
    simp only [okF, Bool.and_eq_true, decide_eq_true_eq, Bool.not_eq_true', decide_eq_false_iff_not] at hk'
    obtain ⟨K, rfl⟩ := Int.eq_ofNat_of_zero_le hk'.1.1
    have := rfront_good h K (by omega) hk'.2 hn hl low
    unfold frontL
    rw [hk]
    exact this
  | false =>
    have HE : frontL n zs k = zs := by unfold frontL; rw [hk]; rfl
    rw [HE]
    refine (rfront_bad h k hn hl hk hlt).mono ?_
    rintro e w' ⟨rfl, rfl⟩
    exact ⟨rfl, h, Kept.refl _ _⟩
theorem rback_any (h : RefAt w m n F zs) (k : Int) (hn : zs.Nodup) (hl : zs.length ≤ 1024) (hlt : ∀ x ∈ zs, x < n) (low : ∀ k, F k → k < w.heap.size) :
    Calls Try.prog 20 #[.pointer (some ⟨m, 0, none⟩), .int .i64 k] w (RPost m n F w (.bool (okF n zs k)) (backL n zs k)) := by
  cases hk : okF n zs k with
  | true =>
    have hk' := hk
    simp only [okF, Bool.and_eq_true, decide_eq_true_eq, Bool.not_eq_true', decide_eq_false_iff_not] at hk'
    obtain ⟨K, rfl⟩ := Int.eq_ofNat_of_zero_le hk'.1.1
    have := rback_good h K (by omega) hk'.2 hn hl low
    unfold backL
    rw [hk]
    exact this
  | false =>
    have HE : backL n zs k = zs := by unfold backL; rw [hk]; rfl
    rw [HE]
    refine (rback_bad h k hn hl hk hlt).mono ?_
    rintro e w' ⟨rfl, rfl⟩
    exact ⟨rfl, h, Kept.refl _ _⟩
end
end Go.Proofs.Ytodmjclkfadooaa.ListT
