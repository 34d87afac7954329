/-
  Package table: New, Put, Get, Out, Len, at every table and key.
-/
import Derived.Test.YtcmhkknoffeebaaTabFind
import Derived.Lib.SliceRun
namespace Go.Proofs.Ytcmhkknoffeebaa.TabO
open Go.ChangeShapes Go.WideShapes Go.ChangeAt Go.RowKit
open Go.Proofs.Ytcmhkknoffeebaa.Mem Go.Proofs.Ytcmhkknoffeebaa.Blk Go.Proofs.Ytcmhkknoffeebaa.Cells Go.Proofs.Ytcmhkknoffeebaa.TabM Go.Proofs.Ytcmhkknoffeebaa.TabC Go.Proofs.Ytcmhkknoffeebaa.TabD Go.Proofs.Ytcmhkknoffeebaa.Stages

section
variable {w : World} {d D : Nat} {T : Tb} {c key : Int}
theorem find_nil : Calls Try.prog 41 #[.pointer none, .int .i64 key] w fun e w' => e = .returned (.int .i64 (-1)) ∧ w = w' := by
  go_enter Try.func41, Try.ntmps41
  go_wp2
  go_ret
  exact ⟨rfl, rfl⟩
theorem find_any (h : Raw w d D T c) :
    Calls Try.prog 41 #[.pointer (some ⟨d, 0, none⟩), .int .i64 key] w fun e w' => e = .returned (.int .i64 (T.find key)) ∧ w = w' := by
  by_cases h0 : key < 0
  · have HE : Hid (T.find key = -1) := if_pos h0
    clear h
    go_enter Try.func41, Try.ntmps41
    go_wp2
    go_ret
    exact ⟨by rw [HE.out]; rfl, rfl⟩
  · have HS := Lib.hid (search_any h (key := key) (by omega))
    have HE : Hid (T.find key = (T.search key).1) := if_neg h0
    have h0' : 0 ≤ key := by omega
    clear h h0
    generalize T.search key = R at *
    go_enter Try.func41, Try.ntmps41
    go_wp2_with (go_at_call 52; (with_reducible refine HS.out.mono ?_); rintro e w' ⟨rfl, rfl⟩)
    go_ret
    exact ⟨by rw [HE.out]; rfl, rfl⟩
theorem get_nil : Calls Try.prog 29 #[.pointer none, .int .i64 key] w fun e w' => e = .returned (.int .i64 (-1)) ∧ w = w' := by
  have HF := Lib.hid (find_nil (w := w) (key := key))
  go_enter Try.func29, Try.ntmps29
  go_wp2_with (go_at_call 41; (with_reducible refine HF.out.mono ?_); rintro e w' ⟨rfl, rfl⟩)
  go_ret
  exact ⟨rfl, rfl⟩
theorem get_any (h : Raw w d D T c) (key : Int) :
    Calls Try.prog 29 #[.pointer (some ⟨d, 0, none⟩), .int .i64 key] w fun e w' => e = .returned (.int .i64 (T.get key)) ∧ w = w' := by
  have hsz := h.size
  have hszi : (T.n : Int) ≤ 1024 := by omega
  have HF := Lib.hid (find_any h (key := key))
  rcases find_has (key := key) h.pos with e | ⟨j, hj, e, _, _⟩
  · have HE : Hid (T.get key = -1) := by show _ = _; unfold Tb.get; rw [e]; rfl
    rw [e] at HF
    clear h e
    go_enter Try.func29, Try.ntmps29
    go_wp2_with (go_at_call 41; (with_reducible refine HF.out.mono ?_); rintro e w' ⟨rfl, rfl⟩)
    go_ret
    exact ⟨by rw [HE.out]; rfl, rfl⟩
  · have HE : Hid (T.get key = T.V j) := by show _ = _; unfold Tb.get; rw [e, if_neg (by omega), Int.toNat_natCast]
    rw [e] at HF
    have c0 := h.c0
    have k1 := h.sl.v hj
    have hji : (j : Int) < (T.n : Int) := by omega
    clear h e
    go_enter Try.func29, Try.ntmps29
    go_wp2_with (go_at_call 41; (with_reducible refine HF.out.mono ?_); rintro e w' ⟨rfl, rfl⟩)
    go_ret
    exact ⟨by rw [HE.out]; rfl, rfl⟩
/-! ### Put -/
theorem put_nil (key v : Int) : Calls Try.prog 49 #[.pointer none, .int .i64 key, .int .i64 v] w fun e w' => e = .returned (.int .i64 12) ∧ w = w' := by
  go_enter Try.func49, Try.ntmps49
  go_wp2
  go_ret
  exact ⟨rfl, rfl⟩
/-- A number, and the table behind the call. -/
def TabPost (d D : Nat) (w : World) (v : Int) (U : Tb) (e : Ending) (w' : World) : Prop := e = .returned (.int .i64 v) ∧ TabAt w' d D U ∧ Kept (Own d D) w w'
theorem put_any (h : TabAt w d D T) (key v : Int) :
    Calls Try.prog 49 #[.pointer (some ⟨d, 0, none⟩), .int .i64 key, .int .i64 v] w (TabPost d D w (T.putC key) (T.put key v)) := by
  have hsz := h.size
  have hszi : (T.n : Int) ≤ 1024 := by omega
  by_cases h0 : key < 0
  · have HE : Hid (T.putC key = 1) := if_pos h0
    have HE2 : Hid (T.put key v = T) := by show _ = _; unfold Tb.put; rw [HE.out]; rfl
    have H := Lib.hid h
    clear h
    go_enter Try.func49, Try.ntmps49
    go_wp2
    go_ret
    rw [HE.out, HE2.out]
    exact ⟨rfl, H.out, Kept.refl _ _⟩
  have h0' : 0 ≤ key := by omega
  have HS := Lib.hid (search_any h (key := key) h0')
  rcases search_has (key := key) h.pos with e1 | ⟨j, hj, e1, _⟩
  · rcases search_free (key := key) h.pos with e2 | ⟨j, hj, e2, hK⟩
    · have HE : Hid (T.putC key = 8) := by show _ = _; unfold Tb.putC; rw [if_neg h0, e1, if_neg (by omega), e2]; rfl
      have HE2 : Hid (T.put key v = T) := by show _ = _; unfold Tb.put; rw [HE.out]; rfl
      rw [e1, e2] at HS
      have H := Lib.hid h
      clear h e1 e2 h0
      go_enter Try.func49, Try.ntmps49
      go_wp2_with (go_at_call 52; (with_reducible refine HS.out.mono ?_); rintro e w' ⟨rfl, rfl⟩)
      go_ret
      rw [HE.out, HE2.out]
      exact ⟨rfl, H.out, Kept.refl _ _⟩
    · have HE : Hid (T.putC key = 0) := by show _ = _; unfold Tb.putC; rw [if_neg h0, e1, if_neg (by omega), e2, if_neg (by omega)]
      have HE2 : Hid (T.put key v = T.set j key v) := by show _ = _; unfold Tb.put; rw [HE.out, e2, Int.toNat_natCast]; rfl
      have HC := Lib.hid (cnt_set_on (v := v) hj hK h0')
      rw [e1, e2] at HS
      have H := Lib.hid h
      have c0 := h.c0
      have f1 := h.f1
      have k0 := h.sl.k hj
      have k1 := h.sl.v hj
      have hji : (j : Int) < (T.n : Int) := by omega
      have HCL : Hid (T.cnt ≤ T.n) := cnt_le _ _
      have hcz : ((T.cnt : Nat) : Int) ≤ 1024 := by have := HCL.out; omega
      clear h e1 e2 h0
      go_enter Try.func49, Try.ntmps49
      go_upto_region 11 with (go_at_call 52; (with_reducible refine HS.out.mono ?_); rintro e w' ⟨rfl, rfl⟩)
      have H1 : Hid (Raw ((w.setCell ⟨D, j * 2, none⟩ (.int .i64 key)).setCell ⟨D, j * 2 + 1, none⟩ (.int .i64 v)) d D (T.set j key v) (T.cnt : Int)) := Raw.set H.out j key v
      have HK1 : Hid (Kept (Own d D) w ((w.setCell ⟨D, j * 2, none⟩ (.int .i64 key)).setCell ⟨D, j * 2 + 1, none⟩ (.int .i64 v))) := ((Kept.refl _ w).setCell (fun _ => .inr rfl) _).setCell (fun _ => .inr rfl) _
      generalize (w.setCell ⟨D, j * 2, none⟩ (.int .i64 key)).setCell ⟨D, j * 2 + 1, none⟩ (.int .i64 v) = w1 at H1 HK1 ⊢
      clear c0 f1 k0 k1 H
      have c1 := H1.out.c1
      have f0 := H1.out.f0
      go_wp2
      go_ret
      rw [HE.out, HE2.out]
      refine ⟨rfl, ?_, HK1.out.setCell (fun _ => .inl rfl) _⟩
      have := H1.out.count ((T.cnt : Int) + 1)
      unfold TabAt
      rw [HC.out]
      exact this
  · have HE : Hid (T.putC key = 13) := by show _ = _; unfold Tb.putC; rw [if_neg h0, e1, if_pos (by simp)]
    have HE2 : Hid (T.put key v = T) := by show _ = _; unfold Tb.put; rw [HE.out]; rfl
    rw [e1] at HS
    have H := Lib.hid h
    clear h e1 h0
    go_enter Try.func49, Try.ntmps49
    go_wp2_with (go_at_call 52; (with_reducible refine HS.out.mono ?_); rintro e w' ⟨rfl, rfl⟩)
    go_ret
    rw [HE.out, HE2.out]
    exact ⟨rfl, H.out, Kept.refl _ _⟩

/-! ### Out -/
theorem out_nil : Calls Try.prog 51 #[.pointer none, .int .i64 key] w fun e w' => e = .returned (.int .i64 (-1)) ∧ w = w' := by
  have HF := Lib.hid (find_nil (w := w) (key := key))
  go_enter Try.func51, Try.ntmps51
  go_wp2_with (go_at_call 41; (with_reducible refine HF.out.mono ?_); rintro e w' ⟨rfl, rfl⟩)
  go_ret
  exact ⟨rfl, rfl⟩
theorem out_any (h : TabAt w d D T) (key : Int) :
    Calls Try.prog 51 #[.pointer (some ⟨d, 0, none⟩), .int .i64 key] w (TabPost d D w (T.get key) (T.out key)) := by
  have hsz := h.size
  have hszi : (T.n : Int) ≤ 1024 := by omega
  have HF := Lib.hid (find_any h (key := key))
  rcases find_has (key := key) h.pos with e | ⟨j, hj, e, hK, h0⟩
  · have HE : Hid (T.get key = -1) := by show _ = _; unfold Tb.get; rw [e]; rfl
    have HE2 : Hid (T.out key = T) := by show _ = _; unfold Tb.out; rw [e]; rfl
    rw [e] at HF
    have H := Lib.hid h
    clear h e
    go_enter Try.func51, Try.ntmps51
    go_wp2_with (go_at_call 41; (with_reducible refine HF.out.mono ?_); rintro e w' ⟨rfl, rfl⟩)
    go_ret
    rw [HE.out, HE2.out]
    exact ⟨rfl, H.out, Kept.refl _ _⟩
  · have HE : Hid (T.get key = T.V j) := by show _ = _; unfold Tb.get; rw [e, if_neg (by omega), Int.toNat_natCast]
    have HE2 : Hid (T.out key = if (T.set j (-2) 0).cnt = 0 then fresh T.n else T.set j (-2) 0) := by show _ = _; unfold Tb.out; rw [e, if_neg (by omega), Int.toNat_natCast]
    have HC := Lib.hid (cnt_set_off (k := -2) (v := 0) hj (by omega) (by omega))
    rw [e] at HF
    have H := Lib.hid h
    have c0 := h.c0
    have f1 := h.f1
    have k0 := h.sl.k hj
    have k1 := h.sl.v hj
    have hji : (j : Int) < (T.n : Int) := by omega
    have HCL : Hid (T.cnt ≤ T.n) := cnt_le _ _
    have hcz : ((T.cnt : Nat) : Int) ≤ 1024 := by have := HCL.out; omega
    have hcp : 1 ≤ ((T.cnt : Nat) : Int) := by have := HC.out; omega
    clear h e h0
    go_enter Try.func51, Try.ntmps51
    go_upto_region 6 with (go_at_call 41; (with_reducible refine HF.out.mono ?_); rintro e w' ⟨rfl, rfl⟩)
    have H1 : Hid (Raw ((w.setCell ⟨D, j * 2, none⟩ (.int .i64 (-2))).setCell ⟨D, j * 2 + 1, none⟩ (.int .i64 0)) d D (T.set j (-2) 0) (T.cnt : Int)) := Raw.set H.out j (-2) 0
    have HK1 : Hid (Kept (Own d D) w ((w.setCell ⟨D, j * 2, none⟩ (.int .i64 (-2))).setCell ⟨D, j * 2 + 1, none⟩ (.int .i64 0))) := ((Kept.refl _ w).setCell (fun _ => .inr rfl) _).setCell (fun _ => .inr rfl) _
    generalize (w.setCell ⟨D, j * 2, none⟩ (.int .i64 (-2))).setCell ⟨D, j * 2 + 1, none⟩ (.int .i64 0) = w1 at H1 HK1 ⊢
    clear c0 f1 k0 k1 H
    have c1 := H1.out.c1
    have f0 := H1.out.f0
    go_upto_region 7 with (fail)
    have H2 : Hid (Raw (w1.setCell ⟨d, 1, none⟩ (.int .i64 ((T.cnt : Int) - 1))) d D (T.set j (-2) 0) ((T.set j (-2) 0).cnt : Int)) := by
      have := H1.out.count ((T.cnt : Int) - 1)
      rw [show ((T.set j (-2) 0).cnt : Int) = (T.cnt : Int) - 1 by have := HC.out; omega]
      exact this
    have HK2 : Hid (Kept (Own d D) w (w1.setCell ⟨d, 1, none⟩ (.int .i64 ((T.cnt : Int) - 1)))) := HK1.out.setCell (fun _ => .inl rfl) _
    generalize w1.setCell ⟨d, 1, none⟩ (.int .i64 ((T.cnt : Int) - 1)) = w2 at H2 HK2 ⊢
    clear c1 f0 H1 HK1
    have c1 := H2.out.c1
    by_cases hz : (T.set j (-2) 0).cnt = 0
    · rw [if_pos hz] at HE2
      have HFR := Lib.hid (fresh_any H2.out)
      rw [hz] at c1
      simp only [Int.natCast_zero, Int.cast_ofNat_Int] at c1
      go_wp2_with (go_at_call 53; (with_reducible refine HFR.out.mono ?_); rintro e w' ⟨rfl, hr, hk⟩; have H3 := Lib.hid hr; have HK3 := Lib.hid hk; clear hr hk)
      go_ret
      rw [HE.out, HE2.out]
      refine ⟨rfl, ?_, HK2.out.trans HK3.out⟩
      unfold TabAt
      rw [cnt_fresh, ← hz]
      exact H3.out
    · rw [if_neg hz] at HE2
      have hzi : ((((T.set j (-2) 0).cnt : Nat) : Int) == 0) = false := beq_eq_false_iff_ne.2 (by omega)
      go_wp2
      go_ret
      rw [HE.out, HE2.out]
      exact ⟨rfl, H2.out, HK2.out⟩

/-! ### New -/
theorem new_bad (k : Int) (hk : ¬ (1 ≤ k ∧ k ≤ 1024)) : Calls Try.prog 43 #[.int .i64 k] w fun e w' => e = .returned (.pointer none) ∧ w = w' := by
  by_cases h0 : k < 1
  · clear hk
    go_enter Try.func43, Try.ntmps43
    go_wp2
    go_ret
    exact ⟨rfl, rfl⟩
  · have h1 : 1024 < k := by omega
    have h0' : 1 ≤ k := by omega
    clear hk h0
    go_enter Try.func43, Try.ntmps43
    go_wp2
    go_ret
    exact ⟨rfl, rfl⟩
theorem infoS : (Try.prog.info? 72).map (fun i => (i.zero, i.size, i.bytes)) = some (some (.agg #[.int .i64 0, .int .i64 0]), 2, 16) := by kernel_rfl
theorem made2 (w : World) (n : Nat) (hn : n ≤ 1024) : (Instr.makeSlice 73 (.int .i64 (n : Int)) (.int .i64 (n : Int))).run Try.prog w = .ok (.slice (some ⟨w.heap.size, 0, none⟩) n n) (w.alloc (.cells (madeCells #[.int .i64 0, .int .i64 0] (n * 2)) 72)) := by
  obtain ⟨i, hi, hz, hs, hb⟩ := info_parts infoS
  have := run_make (P := Try.prog) w 73 72 i _ Try.underlying73 hi hz .i64 .i64 (n : Int) (n : Int) (by omega) (Int.le_refl _) (by rw [hb]; omega) (by omega)
  rw [hs, Int.toNat_natCast] at this
  exact this
/-- What New makes. -/
def NewPost (n : Nat) (w : World) (e : Ending) (w' : World) : Prop :=
  ∃ d D, e = .returned (.pointer (some ⟨d, 0, none⟩)) ∧ TabAt w' d D (fresh n) ∧ w.heap.size ≤ d ∧ w.heap.size ≤ D ∧ Grow w w'
theorem new_good (n : Nat) (h1 : 1 ≤ n) (hn : n ≤ 1024) : Calls Try.prog 43 #[.int .i64 (n : Int)] w (NewPost n w) := by
  have hn' : (n : Int) ≤ 1024 := by omega
  have h1' : 1 ≤ (n : Int) := by omega
  have km := fun (w : World) => made2 w n hn
  go_enter Try.func43, Try.ntmps43
  go_upto_region 4 with (fail)
  clear km
  have hb := Blk.new (w.alloc (.cells (madeCells #[.int .i64 0, .int .i64 0] (n * 2)) 72)) 75 [.slice (some ⟨w.heap.size, 0, none⟩) n n, .int .i64 0]
  have e1 : (w.alloc (.cells (madeCells #[.int .i64 0, .int .i64 0] (n * 2)) 72)).heap.size = w.heap.size + 1 := by simp
  rw [e1] at hb
  have hr : Slots (w.alloc (.cells (madeCells #[.int .i64 0, .int .i64 0] (n * 2)) 72)) w.heap.size ⟨n, fun _ => 0, fun _ => 0⟩ :=
    ⟨_, _, heap_alloc_new w _, by simp [size_madeCells], fun i hi => by
      have hi : i < n * 2 := hi
      simp only [madeCells, Array.getElem?_map, Array.getElem?_range, hi, if_pos, Option.map_some]
      congr 1
      unfold scell
      have : i % 2 = 0 ∨ i % 2 = 1 := by omega
      rcases this with e | e <;> simp [e]⟩
  have HR : Hid (Raw ((w.alloc (.cells (madeCells #[.int .i64 0, .int .i64 0] (n * 2)) 72)).alloc (.cells #[.slice (some ⟨w.heap.size, 0, none⟩) n n, .int .i64 0] 75)) (w.heap.size + 1) w.heap.size ⟨n, fun _ => 0, fun _ => 0⟩ 0) :=
    ⟨Row.of_blk hb rfl (fun i hi => by
      have : i = 0 ∨ i = 1 := by omega
      rcases this with rfl | rfl <;> rfl), Row.kept hr (F := fun _ => False) ((Kept.refl _ _).alloc _) id, by omega, h1, hn⟩
  have HG : Hid (Grow w ((w.alloc (.cells (madeCells #[.int .i64 0, .int .i64 0] (n * 2)) 72)).alloc (.cells #[.slice (some ⟨w.heap.size, 0, none⟩) n n, .int .i64 0] 75))) := ((Kept.refl _ _).alloc _).alloc _
  clear hb hr e1
  generalize (w.alloc (.cells (madeCells #[.int .i64 0, .int .i64 0] (n * 2)) 72)).alloc (.cells #[.slice (some ⟨w.heap.size, 0, none⟩) n n, .int .i64 0] 75) = wx at HR HG ⊢
  have HFR := Lib.hid (fresh_any HR.out)
  go_wp2_with (go_at_call 53; (with_reducible refine HFR.out.mono ?_); rintro e w' ⟨rfl, hr, hk⟩; have H3 := Lib.hid hr; have HK3 := Lib.hid hk; clear hr hk)
  go_ret
  refine ⟨_, _, rfl, ?_, Nat.le_succ _, Nat.le_refl _, HG.out.then HK3.out fun k hk hF => ?_⟩
  · unfold TabAt
    rw [cnt_fresh]
    exact H3.out
  · rcases hF with hF | hF <;> omega

/-! ### Slots -/
/-- The cells of slots, in a row. -/
def cellsOf (T : Tb) : List Value := (List.range (T.n * 2)).map (scell T)
theorem cellsOf_len (T : Tb) : (cellsOf T).length = T.n * 2 := by simp [cellsOf]
theorem cellsOf_get (T : Tb) {j : Nat} (h : j < T.n * 2) : (cellsOf T)[j]? = some (scell T j) := by simp [cellsOf, h]
theorem cellsOf_one (T : Tb) : ∀ u ∈ cellsOf T, u.oneCell' = true := fun u hu => by
  obtain ⟨j, _, rfl⟩ := List.mem_map.1 hu
  unfold scell
  split <;> rfl
theorem slots_of_own {base g cap : Nat} {e : TypeId} (hp : 1 ≤ T.n) (h : w.ownsRow base e 2 (.slice (some ⟨g, 0, none⟩) T.n cap) T.n (cellsOf T)) : Slots w g T ∧ base ≤ g ∧ T.n ≤ cap ∧ cap ≤ maxLen := by
  rcases h.2 with ⟨_, h0⟩ | ⟨g', cap', cur, ev, hb, hg, h1, h2, h3, h4⟩
  · omega
  injection ev with e1 e2 e3
  injection e1 with e1
  injection e1 with e1
  subst e1 e3
  refine ⟨⟨cur, e, hg, by omega, fun i hi => ?_⟩, hb, h1, h2⟩
  have := cellsOf_get T hi
  rw [← h4, List.getElem?_take, if_pos hi] at this
  simpa using this
/-- What Slots answers: slots of the caller's own. -/
def SlotsPost (T : Tb) (w : World) (e : Ending) (w' : World) : Prop :=
  ∃ g c, e = .returned (.slice (some ⟨g, 0, none⟩) T.n c) ∧ Slots w' g T ∧ w.heap.size ≤ g ∧ T.n ≤ c ∧ Grow w w'
end
end Go.Proofs.Ytcmhkknoffeebaa.TabO
