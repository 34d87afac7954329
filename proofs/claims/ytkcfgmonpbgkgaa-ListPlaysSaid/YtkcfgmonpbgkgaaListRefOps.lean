/-
  The document's list (chapter 4, lavaboref4): its steps.
-/
import Derived.Test.YtkcfgmonpbgkgaaListRef
namespace Go.Proofs.Ytkcfgmonpbgkgaa.ListS
open Go.ChangeShapes Go.WideShapes Go.ChangeAt Go.RowKit
open Go.Proofs.Ytkcfgmonpbgkgaa.Mem Go.Proofs.Ytkcfgmonpbgkgaa.Blk Go.Proofs.Ytkcfgmonpbgkgaa.ListM Go.Proofs.Ytkcfgmonpbgkgaa.Rowed Go.Proofs.Ytkcfgmonpbgkgaa.ListC Go.Proofs.Ytkcfgmonpbgkgaa.ListD Go.Proofs.Ytkcfgmonpbgkgaa.ListR Go.Proofs.Ytkcfgmonpbgkgaa.Stages

section
variable {w : World} {m n : Nat} {F : Nat → Prop} {zs : List Nat}

/-- A list of the document's that is asked alone. -/
theorem rfirst_any (h : RefAt w m n F zs) (hl : zs.length ≤ 100000) : Calls Try.prog 17 #[.pointer (some ⟨m, 0, none⟩)] w fun e w' => e = .returned (.int .i64 (first zs)) ∧ w = w' := by
  obtain ⟨A, c, h1, h2, h3, h4⟩ := h.hd
  have c1 := h1.cell (i := 1) (by omega)
  simp only [Nat.one_ne_zero, if_false] at c1
  have hlz : (zs.length : Int) ≤ 100000 := by omega
  clear h1 h4 h
  cases zs with
  | nil =>
    go_enter Try.func17, Try.ntmps17
    go_wp2
    go_ret
    exact ⟨rfl, rfl⟩
  | cons x l =>
    obtain ⟨b, off, rfl, hb, hc⟩ := h2.2 (by simp)
    have r0 := hc 0 (by simp)
    rw [ints_get] at r0
    simp only [List.getD_cons_zero, Nat.add_zero] at r0
    have hz' : (((x :: l).length : Int) == 0) = false := by
      rw [beq_eq_false_iff_ne]
      simp only [List.length_cons]
      omega
    have hpos : 0 < ((x :: l).length : Int) := by simp only [List.length_cons]; omega
    have HF : Hid (first (x :: l) = (x : Int)) := rfl
    clear hc h2
    generalize hL : (x :: l).length = L at *
    go_enter Try.func17, Try.ntmps17
    go_wp2
    go_ret
    exact ⟨by rw [HF.out]; rfl, rfl⟩

theorem rlast_any (h : RefAt w m n F zs) (hl : zs.length ≤ 100000) : Calls Try.prog 19 #[.pointer (some ⟨m, 0, none⟩)] w fun e w' => e = .returned (.int .i64 (last zs)) ∧ Grow w w' := by
  obtain ⟨A, c, h1, h2, h3, h4⟩ := h.hd
  have c1 := h1.cell (i := 1) (by omega)
  simp only [Nat.one_ne_zero, if_false] at c1
  have hlz : (zs.length : Int) ≤ 100000 := by omega
  clear h1 h4 h
  rcases List.eq_nil_or_concat zs with rfl | ⟨l, x, rfl⟩
  · simp only [List.length_nil] at c1
    go_enter Try.func19, Try.ntmps19
    go_wp2
    go_ret
    exact ⟨rfl, Kept.refl _ _⟩
  · rw [List.concat_eq_append] at *
    have hL : (l ++ [x]).length = l.length + 1 := by simp
    have HF : Hid (last (l ++ [x]) = (x : Int)) := by
      show _ = _
      rw [last, List.getLast?_append]; rfl
    obtain ⟨b, off, rfl, hb, hc⟩ := h2.2 (by omega)
    have r0 := hc l.length (by omega)
    rw [ints_get] at r0
    have e : (l ++ [x]).getD l.length 0 = x := by simp [List.getD_eq_getElem?_getD]
    rw [e] at r0
    rw [hL] at c1 hlz
    clear hc h2 hl h3 hL e
    generalize l.length = j at *
    have hlz : (j : Int) ≤ 100000 := by omega
    have q1 := up_cell (F := fun _ => False) (w := w.drew) c1 id
    have q0 := up_cell (F := fun _ => False) (w := w.drew) r0 id
    have hz' : ((j : Int) + 1 == 0) = false := by
      rw [beq_eq_false_iff_ne]
      omega
    go_enter Try.func19, Try.ntmps19
    go_upto_region 3 with (fail)
    refine wp_region_stages Grow (kept_refl _) (kept_trans _) [] [0, 1, 2, 3, 4, 5, 6, 7, 8, 9, 10, 11, 12] (by kernel_rfl) (by kernel_rfl) ?_
    simp only [selSt, sel, List.map_cons, List.map_nil, List.getD_cons_succ, List.getD_cons_zero]
    refine st_nil fun K2 hK2 => ?_
    repeat (go_big_quiet_step (fail))
    refine wpQuiet_nil (hK2 _ ?_)
    clear hK2 K2 q1 q0
    go_wp2
    go_ret
    exact ⟨by rw [HF.out]; rfl, Kept.drew' _⟩

theorem rnext_any (h : RefAt w m n F zs) (k : Int) (hn : zs.Nodup) (hl : zs.length ≤ 100000) : Calls Try.prog 21 #[.pointer (some ⟨m, 0, none⟩), .int .i64 k] w fun e w' => e = .returned (.int .i64 (nxtI zs k)) ∧ w = w' := by
  obtain ⟨A, c, h1, h2, h3, h4⟩ := h.hd
  have c1 := h1.cell (i := 1) (by omega)
  simp only [Nat.one_ne_zero, if_false] at c1
  have hlz : (zs.length : Int) ≤ 100000 := by omega
  have HP := Lib.hid (place_any A c _ zs k hn hl h2)
  clear h1 h4 h
  cases hk : okO zs k with
  | false =>
    have HE : Hid (nxtI zs k = -1) := by
      show _ = _
      unfold nxtI
      by_cases h0 : 0 ≤ k
      · rw [if_pos h0]
        have : k.toNat ∉ zs := fun hm => by simp [okO, h0, hm] at hk
        unfold nxt
        rw [List.idxOf_eq_length this, if_neg (by omega)]
      · rw [if_neg h0]
    have hp : placeI zs k = -1 := by unfold placeI; rw [hk]; rfl
    rw [hp] at HP
    clear hp hk h2 hn
    go_enter Try.func21, Try.ntmps21
    go_wp2_with (go_at_call 27; (with_reducible refine HP.out.mono ?_); rintro e w' ⟨rfl, rfl⟩)
    go_ret
    exact ⟨by rw [HE.out]; rfl, rfl⟩
  | true =>
    have hk' := hk
    simp only [okO, Bool.and_eq_true, decide_eq_true_eq] at hk'
    have hp : placeI zs k = ((zs.idxOf k.toNat : Nat) : Int) := by unfold placeI; rw [if_pos hk]
    have HE : Hid (nxtI zs k = if zs.idxOf k.toNat + 1 < zs.length then ((zs.getD (zs.idxOf k.toNat + 1) 0 : Nat) : Int) else -1) := by
      show _ = _
      unfold nxtI
      rw [if_pos hk'.1]; rfl
    rw [hp] at HP
    have hi : zs.idxOf k.toNat < zs.length := List.idxOf_lt_length_iff.2 hk'.2
    obtain ⟨b, off, rfl, hb, hc⟩ := h2.2 (by omega)
    generalize zs.idxOf k.toNat = i at *
    by_cases hi1 : i + 1 < zs.length
    · have r0 := hc (i + 1) hi1
      rw [ints_get] at r0
      rw [if_pos hi1] at HE
      have hiz : (i : Int) + 1 < (zs.length : Int) := by omega
      clear hp hk hk' h2 hn hc hi1
      generalize zs.getD (i + 1) 0 = y at *
      go_enter Try.func21, Try.ntmps21
      go_wp2_with (go_at_call 27; (with_reducible refine HP.out.mono ?_); rintro e w' ⟨rfl, rfl⟩)
      go_ret
      exact ⟨by rw [HE.out]; rfl, rfl⟩
    · rw [if_neg hi1] at HE
      have hiz : (zs.length : Int) ≤ (i : Int) + 1 := by omega
      clear hp hk hk' h2 hn hc
      go_enter Try.func21, Try.ntmps21
      go_wp2_with (go_at_call 27; (with_reducible refine HP.out.mono ?_); rintro e w' ⟨rfl, rfl⟩)
      go_ret
      exact ⟨by rw [HE.out]; rfl, rfl⟩

/-! ### The steps that turn it -/
def RPost (m n : Nat) (F : Nat → Prop) (w : World) (v : Value) (zs : List Nat) (e : Ending) (w' : World) : Prop :=
  e = .returned v ∧ RefAt w' m n F zs ∧ Kept (· = m) w w'

theorem rfront_bad (h : RefAt w m n F zs) (k : Int) (hn : zs.Nodup) (hl : zs.length ≤ 1024) (hk : okF n zs k = false) (hlt : ∀ x ∈ zs, x < n) :
    Calls Try.prog 10 #[.pointer (some ⟨m, 0, none⟩), .int .i64 k] w fun e w' => e = .returned (.bool false) ∧ w = w' := by
  obtain ⟨A, c, h1, h2, h3, h4⟩ := h.hd
  have c0 := h1.cell (i := 0) (by omega)
  have c1 := h1.cell (i := 1) (by omega)
  simp only [Nat.one_ne_zero, if_false, if_true] at c1 c0
  have HP := Lib.hid (place_any A c _ zs k hn (by omega) h2)
  clear h1 h4 h
  by_cases h0 : k < 0
  · clear hk
    go_enter Try.func10, Try.ntmps10
    go_wp2
    go_ret
    exact ⟨rfl, rfl⟩
  · by_cases hN : (n : Int) ≤ k
    · clear hk
      go_enter Try.func10, Try.ntmps10
      go_wp2
      go_ret
      exact ⟨rfl, rfl⟩
    · have ho : okO zs k = true := by
        unfold okF at hk
        unfold okO
        simpa [show 0 ≤ k by omega, show k < (n : Int) by omega] using hk
      have hp : placeI zs k = ((zs.idxOf k.toNat : Nat) : Int) := by unfold placeI; rw [if_pos ho]
      rw [hp] at HP
      generalize zs.idxOf k.toNat = i at *
      have h0' : 0 ≤ k := by omega
      have hN' : k < (n : Int) := by omega
      clear hk ho hp hlt hn h2
      go_enter Try.func10, Try.ntmps10
      go_wp2_with (go_at_call 27; (with_reducible refine HP.out.mono ?_); rintro e w' ⟨rfl, rfl⟩)
      go_ret
      exact ⟨rfl, rfl⟩

theorem rfront_good (h : RefAt w m n F zs) (k : Nat) (hkn : k < n) (hkz : k ∉ zs) (hn : zs.Nodup) (hl : zs.length ≤ 1024) (low : ∀ k, F k → k < w.heap.size) :
    Calls Try.prog 10 #[.pointer (some ⟨m, 0, none⟩), .int .i64 (k : Int)] w (RPost m n F w (.bool true) (k :: zs)) := by
  obtain ⟨A, c, h1, h2, h3, h4⟩ := h.hd
  have c0 := h1.cell (i := 0) (by omega)
  have c1 := h1.cell (i := 1) (by omega)
  simp only [Nat.one_ne_zero, if_false, if_true] at c1 c0
  have HP := Lib.hid (place_any A c _ zs (k : Int) hn (by omega) h2)
  have hp : placeI zs (k : Int) = -1 := by unfold placeI okO; simp [hkz]
  rw [hp] at HP
  have hkz' : (k : Int) < (n : Int) := by omega
  have HLT := Lib.hid h.lt
  have HLOW := Lib.hid low
  have HA := Lib.hid h2
  have H := Lib.hid h
  clear h1 h4 h2 h3 hp low
  go_enter Try.func10, Try.ntmps10
  go_upto_region 3 with (go_at_call 27; (with_reducible refine HP.out.mono ?_); rintro e w' ⟨rfl, rfl⟩)
  have hga : Grow w (w.alloc (.cells #[.int .i64 (k : Int)] 3)) := (Kept.refl _ _).alloc _
  have hown := World.ownsRow_lit (base := w.heap.size) (e := 3) (size := 1) w #[.int .i64 (k : Int)] 1 (Nat.le_refl _) (by unfold maxLen; omega) rfl
  obtain ⟨v', w1, hr, ho1, hb1⟩ := append_sl (m := zs.length) (A := A) (B := w.heap.size) (c := c) (ys := [(k : Int)]) 27 hown (Sl.kept HA.out hga (Nat.le_refl _) (fun _ _ x => x)) (by omega) (by simp)
  have HG1 : Hid (Grow w w1) := Kept.of_below (hga.below.trans hb1)
  obtain ⟨A1, c1', rfl, hs1, hc1, hm1, hx1⟩ := own_form ho1
  have hlen : 1 + zs.length = (k :: zs).length := by rw [List.length_cons]; omega
  rw [hlen] at hr hs1 hc1
  have HR := Lib.hid hr
  have HS1 := Lib.hid (And.intro hs1 (And.intro hc1 (And.intro hm1 hx1)))
  have ca := hga.cellN c1 id
  clear hr hs1 hc1 hm1 hx1 ho1 hb1 hown hga hlen
  obtain ⟨A0, c00, hrow, _⟩ := (H.out.grow HG1.out).hd
  have r1 := hrow.cell (i := 1) (by omega)
  have f1 := hrow.frozen 1
  clear hrow
  have HF : Hid (RefAt (w1.setCell ⟨m, 1, none⟩ (.slice A1 (k :: zs).length c1')) m n F (k :: zs)) := (H.out.grow HG1.out).put HS1.out.1 ⟨HS1.out.2.1, HS1.out.2.2.1⟩ (fun x hx => by
    have h1 := HS1.out.2.2.2 x hx
    have h2 := HLT.out
    refine ⟨by omega, fun hf => ?_⟩
    have := HLOW.out _ hf
    omega)
  have HK : Hid (Kept (· = m) w (w1.setCell ⟨m, 1, none⟩ (.slice A1 (k :: zs).length c1'))) := Kept.setCell (F := (· = m)) (Grow.kept HG1.out) (p := ⟨m, 1, none⟩) (fun _ => rfl) _
  generalize (k :: zs).length = L at *
  go_wp2_with (at_builtin; refine Lib.wpList_append_run _ rfl _ _ _ _ rfl _ _ rfl rfl _ _ HR.out ?_)
  go_ret
  exact ⟨rfl, HF.out, HK.out⟩
end
end Go.Proofs.Ytkcfgmonpbgkgaa.ListS
