/-
  Package latch: how a latch lies in memory; isTask, toRead, who, gives, Has, waits; Index and Contains of the library.
-/
import Derived.Test.YtpdmncdbimdfaaaGs
import Derived.Test.YtpdmncdbimdfaaaLatMath
import Derived.RegionTactic
import Derived.Deep.Cut
import Derived.Deep.DeepCutAuto
import Derived.Deep.CutBlock
import Derived.WalkSpells
namespace Go.Proofs.Ytpdmncdbimdfaaa.LatC
open Go.ChangeShapes Go.WideShapes Go.ChangeAt Go.RowKit
open Go.Proofs.Ytpdmncdbimdfaaa.Mem Go.Proofs.Ytpdmncdbimdfaaa.Blk Go.Proofs.Ytpdmncdbimdfaaa.Cells Go.Proofs.Ytpdmncdbimdfaaa.GsC Go.Proofs.Ytpdmncdbimdfaaa.LatM Go.Proofs.Ytpdmncdbimdfaaa.Stages

/-! ### Index, Contains -/
def idx (zs : List Int) (x : Int) : Int := if x ∈ zs then ((zs.idxOf x : Nat) : Int) else -1
theorem idx_pos (zs : List Int) (x : Int) : decide (0 ≤ idx zs x) = zs.contains x := by
  unfold idx
  by_cases h : x ∈ zs
  · rw [if_pos h, decide_eq_true (by omega), eq_comm]
    simpa using h
  · rw [if_neg h, decide_eq_false (by omega), eq_comm]
    simpa using h
theorem idx_at {zs : List Int} {x : Int} {j : Nat} (hj : j < zs.length) (hx : zs.getD j 0 = x) (hno : ∀ i, i < j → zs.getD i 0 ≠ x) : idx zs x = (j : Int) := by
  have hm : zs[j] = x := by rw [← hx]; simp [List.getD_eq_getElem?_getD, List.getElem?_eq_getElem hj]
  have hmem : x ∈ zs := hm ▸ List.getElem_mem hj
  unfold idx
  rw [if_pos hmem]
  congr 1
  have hi : zs.idxOf x < zs.length := List.idxOf_lt_length_iff.2 hmem
  have h1 : zs[zs.idxOf x] = x := List.getElem_idxOf hi
  have h2 : ¬ zs.idxOf x < j := fun h => hno _ h (by rw [List.getD_eq_getElem?_getD, List.getElem?_eq_getElem hi, Option.getD_some, h1])
  have h3 : ¬ j < zs.idxOf x := fun h => by
    have := List.not_of_lt_findIdx (p := (· == x)) (xs := zs) h
    rw [hm] at this
    simp at this
  omega
theorem idx_none {zs : List Int} {x : Int} (hno : ∀ i, i < zs.length → zs.getD i 0 ≠ x) : idx zs x = -1 := by
  unfold idx
  rw [if_neg]
  intro hm
  obtain ⟨i, hi, e⟩ := List.getElem_of_mem hm
  exact hno i hi (by rw [List.getD_eq_getElem?_getD, List.getElem?_eq_getElem hi, Option.getD_some, e])

theorem index_any {w : World} (A : Option Addr) (c B n : Nat) (zs : List Int) (x : Int) (hl : n ≤ 100000) (h : Sl w B .i64 A n zs) :
    Calls Try.prog 29 #[.slice A n c, .int .i64 x] w fun e w' => e = .returned (.int .i64 (idx zs x)) ∧ w = w' := by
  have H := Lib.hid h
  have HLN := Lib.hid h.len
  have hlz : (n : Int) ≤ 100000 := by omega
  clear h
  go_enter Try.func29, Try.ntmps29
  go_wp2
  go_loopg [8] n (fun gx i wr => ∃ j : Nat, j + gx = n ∧ i = .int .i64 (j : Int) ∧ (∀ i, i < j → zs.getD i 0 ≠ x) ∧ w = wr)
  case atStart => exact ⟨0, by omega, rfl, fun i hi => absurd hi (by omega), rfl⟩
  case round =>
    obtain ⟨j, hg, rfl, hno, rfl⟩ := hrel
    have HG := Lib.hid hg
    have HNO := Lib.hid hno
    clear hg hno
    by_cases hj : j < n
    · have hjz : (j : Int) < (n : Int) := by omega
      obtain ⟨b, o, rfl, _, hc⟩ := H.out.at_ (by omega)
      have r1 := hc j hj
      have HX : Hid (∀ y : Int, zs.getD j 0 = y → (y = x → idx zs x = (j : Int)) ∧ (y ≠ x → ∀ i, i < j + 1 → zs.getD i 0 ≠ x)) := fun y hy =>
        ⟨fun e => idx_at (by rw [HLN.out]; exact hj) (hy.trans e) HNO.out, fun hne i hi => by
          by_cases e : i = j
          · rw [e, hy]; exact hne
          · exact HNO.out i (by omega)⟩
      clear hc
      generalize zs.getD j 0 = y at *
      by_cases hx : y = x
      · subst hx
        go_wp2
        go_ret
        exact ⟨by rw [(HX.out _ rfl).1 rfl]; rfl, rfl⟩
      · have hx' : (x == y) = false := beq_eq_false_iff_ne.2 fun e => hx e.symm
        go_wp2
        go_roundg (gk - 1)
        case measure => have := HG.out; omega
        case rel => exact ⟨j + 1, by have := HG.out; omega, by go_num, (HX.out _ rfl).2 hx, rfl⟩
    · obtain rfl : j = n := by have := HG.out; omega
      have HE : Hid (idx zs x = -1) := idx_none fun i hi => HNO.out i (by have := HLN.out; omega)
      go_wp2
      go_ret
      exact ⟨by rw [HE.out]; rfl, rfl⟩

theorem contains_any {w : World} (A : Option Addr) (c B n : Nat) (zs : List Int) (x : Int) (hl : n ≤ 100000) (h : Sl w B .i64 A n zs) :
    Calls Try.prog 19 #[.slice A n c, .int .i64 x] w fun e w' => e = .returned (.bool (zs.contains x)) ∧ w = w' := by
  have HI := Lib.hid (index_any A c B n zs x hl h)
  have HE : Hid (decide (0 ≤ idx zs x) = zs.contains x) := idx_pos zs x
  clear h
  go_enter Try.func19, Try.ntmps19
  go_wp2_with (go_at_call 29; (with_reducible refine HI.out.mono ?_); rintro e w' ⟨rfl, rfl⟩)
  go_ret
  exact ⟨by rw [← HE.out]; rfl, rfl⟩

/-! ### Tasks -/
theorem isTask_any {w : World} (t : Int) : Calls Try.prog 18 #[.int .i64 t] w fun e w' => e = .returned (.bool (task t)) ∧ w = w' := by
  by_cases h0 : 0 ≤ t
  · go_enter Try.func18, Try.ntmps18
    go_wp2
    go_ret
    refine ⟨?_, rfl⟩
    unfold task
    rw [decide_eq_true h0]
    rfl
  · go_enter Try.func18, Try.ntmps18
    go_wp2
    go_ret
    refine ⟨?_, rfl⟩
    unfold task
    rw [decide_eq_false (show ¬ 0 ≤ t by omega)]
    rfl
theorem toRead_any {w : World} (t : Int) (h1 : -1000 ≤ t) (h2 : t ≤ 1000) : Calls Try.prog 12 #[.int .i64 t] w fun e w' => e = .returned (.int .i64 (-2 - t)) ∧ w = w' := by
  go_enter Try.func12, Try.ntmps12
  go_wp2
  go_ret
  exact ⟨rfl, rfl⟩
theorem who_any {w : World} (q : Int) (h1 : -1000 ≤ q) (h2 : q ≤ 1000) : Calls Try.prog 26 #[.int .i64 q] w fun e w' => e = .returned (.int .i64 (who q)) ∧ w = w' := by
  by_cases h0 : q < -1
  · have HE : Hid (who q = -2 - q) := if_pos h0
    go_enter Try.func26, Try.ntmps26
    go_wp2
    go_ret
    exact ⟨by rw [HE.out]; rfl, rfl⟩
  · have HE : Hid (who q = q) := if_neg h0
    go_enter Try.func26, Try.ntmps26
    go_wp2
    go_ret
    exact ⟨by rw [HE.out]; rfl, rfl⟩

/-! ### A latch as it lies -/
/-- The value of a latch whose lists lie in memory. -/
def LatV (w : World) (L : La) (v : Value) : Prop :=
  ∃ A c A' c', v = .agg #[.int .i64 L.W, .slice A L.R.length c, .slice A' L.Q.length c'] ∧ Sl w w.heap.size .i64 A L.R.length L.R ∧ Sl w w.heap.size .i64 A' L.Q.length L.Q ∧ (L.R.length ≤ c ∧ c ≤ maxLen) ∧ (L.Q.length ≤ c' ∧ c' ≤ maxLen)
theorem sl_grow {w w' : World} {k : IntKind} {A : Option Addr} {n : Nat} {zs : List Int} (h : Sl w w.heap.size k A n zs) (hk : Grow w w') : Sl w' w'.heap.size k A n zs :=
  (Sl.kept h hk (Nat.le_refl _) fun _ _ => id).more hk.size
section
variable {w w' : World} {L : La} {v : Value}
theorem LatV.grow (h : LatV w L v) (hk : Grow w w') : LatV w' L v := by
  obtain ⟨A, c, A', c', rfl, h1, h2, h3, h4⟩ := h
  exact ⟨A, c, A', c', rfl, sl_grow h1 hk, sl_grow h2 hk, h3, h4⟩

theorem gives_any (h : LatV w L v) (q : Int) (h1 : -1000 ≤ q) (h2 : q ≤ 1000) (hR : L.R.length ≤ 100000) :
    Calls Try.prog 27 #[v, .int .i64 q] w fun e w' => e = .returned (.bool (gives L.W L.R q)) ∧ Grow w w' := by
  obtain ⟨A, c, A', c', rfl, _, _, _, _⟩ := h
  have HW := Lib.hid fun (w : World) => who_any (w := w) q h1 h2
  have hRz : (L.R.length : Int) ≤ 100000 := by omega
  have HGE : Hid (gives L.W L.R q = ((L.W == -1) && !((q == who q) && decide (0 < L.R.length)))) := rfl
  generalize gives L.W L.R q = G at *
  generalize who q = y at *
  generalize L.R.length = n at *
  generalize L.W = W at *
  by_cases e1 : W = -1
  · subst e1
    cases e2 : (q == y) with
    | true =>
      rw [e2] at HGE
      go_enter Try.func27, Try.ntmps27
      go_wp2_with (go_at_call 26; (with_reducible refine (HW.out _).mono ?_); rintro e w' ⟨rfl, rfl⟩)
      go_ret
      exact ⟨by rw [HGE.out]; rfl, (Kept.refl _ _).alloc _⟩
    | false =>
      rw [e2] at HGE
      go_enter Try.func27, Try.ntmps27
      go_wp2_with (go_at_call 26; (with_reducible refine (HW.out _).mono ?_); rintro e w' ⟨rfl, rfl⟩)
      go_ret
      exact ⟨by rw [HGE.out]; rfl, (Kept.refl _ _).alloc _⟩
  · have e1' : (W == -1) = false := beq_eq_false_iff_ne.2 e1
    rw [e1'] at HGE
    go_enter Try.func27, Try.ntmps27
    go_wp2_with (go_at_call 26; (with_reducible refine (HW.out _).mono ?_); rintro e w' ⟨rfl, rfl⟩)
    go_ret
    exact ⟨by rw [HGE.out]; rfl, (Kept.refl _ _).alloc _⟩

theorem has_any (h : LatV w L v) (t : Int) (hR : L.R.length ≤ 100000) :
    Calls Try.prog 9 #[v, .int .i64 t] w fun e w' => e = .returned (.bool (L.has t)) ∧ Grow w w' := by
  obtain ⟨A, c, A', c', rfl, hs, _, _, _⟩ := h
  have HT := Lib.hid fun (w : World) => isTask_any (w := w) t
  have HC := Lib.hid fun (w' : World) (hk : Grow w w') => contains_any A c _ _ _ t hR (sl_grow hs hk)
  have HGR : Hid (∀ o, Grow w (w.alloc o)) := fun o => (Kept.refl _ _).alloc _
  have hRz : (L.R.length : Int) ≤ 100000 := by omega
  have HE : Hid (L.has t = ((task t && (L.W == t)) || L.R.contains t)) := rfl
  clear hs
  generalize L.has t = G at *
  generalize L.R.length = n at *
  generalize L.R.contains t = K at *
  generalize L.W = W at *
  cases e1 : task t with
  | false =>
    rw [e1] at HE HT
    go_enter Try.func9, Try.ntmps9
    go_wp2_with (first
      | (go_at_call 18; (with_reducible refine (HT.out _).mono ?_); rintro e w' ⟨rfl, rfl⟩)
      | (go_at_call 19; (with_reducible refine (HC.out _ (HGR.out _)).mono ?_); rintro e w' ⟨rfl, rfl⟩))
    go_ret
    exact ⟨by rw [HE.out]; rfl, HGR.out _⟩
  | true =>
    rw [e1] at HE HT
    cases e2 : (W == t) with
    | true =>
      rw [e2] at HE
      go_enter Try.func9, Try.ntmps9
      go_wp2_with (first
        | (go_at_call 18; (with_reducible refine (HT.out _).mono ?_); rintro e w' ⟨rfl, rfl⟩)
        | (go_at_call 19; (with_reducible refine (HC.out _ (HGR.out _)).mono ?_); rintro e w' ⟨rfl, rfl⟩))
      go_ret
      exact ⟨by rw [HE.out]; rfl, HGR.out _⟩
    | false =>
      rw [e2] at HE
      go_enter Try.func9, Try.ntmps9
      go_wp2_with (first
        | (go_at_call 18; (with_reducible refine (HT.out _).mono ?_); rintro e w' ⟨rfl, rfl⟩)
        | (go_at_call 19; (with_reducible refine (HC.out _ (HGR.out _)).mono ?_); rintro e w' ⟨rfl, rfl⟩))
      go_ret
      exact ⟨by rw [HE.out]; rfl, HGR.out _⟩
end
#print axioms who_any
end Go.Proofs.Ytpdmncdbimdfaaa.LatC
