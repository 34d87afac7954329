/-
  The document's list (chapter 4, lavaboref4): how it lies in memory, and what its functions compute.
-/
import Derived.Test.YtcmhkknoffeebaaListMore
import Derived.Deep.AppendSrc
import Derived.Lib.AppendZeros
namespace Go.Proofs.Ytcmhkknoffeebaa.ListR
open Go.ChangeShapes Go.WideShapes Go.ChangeAt Go.RowKit
open Go.Proofs.Ytcmhkknoffeebaa.Mem Go.Proofs.Ytcmhkknoffeebaa.Blk Go.Proofs.Ytcmhkknoffeebaa.ListM Go.Proofs.Ytcmhkknoffeebaa.Rowed Go.Proofs.Ytcmhkknoffeebaa.ListC Go.Proofs.Ytcmhkknoffeebaa.ListD Go.Proofs.Ytcmhkknoffeebaa.Stages

/-! ### append of a slice of numbers, empty or not -/
section
variable {w : World} {base n : Nat} {v : Value} {zs ys : List Int}
/-- What a row of the call's own is. -/
theorem own_form (h : w.ownsRow base 3 1 v n (zs.map (Value.int .i64))) : ∃ A c, v = .slice A n c ∧ Sl w w.heap.size .i64 A n zs ∧ n ≤ c ∧ c ≤ maxLen ∧ ∀ x, A = some x → base ≤ x.block := by
  obtain ⟨A, c, rfl, hs⟩ := Sl.of_row1 h
  refine ⟨A, c, rfl, hs, ?_⟩
  rcases h.2 with ⟨e, h0⟩ | ⟨g, cap, cur, e, hb, _, h1, h2, _⟩
  · injection e with e1 e2 e3
    subst e1 e3
    exact ⟨by omega, Nat.zero_le _, fun x hx => by cases hx⟩
  · injection e with e1 e2 e3
    subst e1 e3
    exact ⟨h1, h2, fun x hx => by injection hx with hx; subst hx; exact hb⟩
theorem append_sl {m c B : Nat} {A : Option Addr} (ty : TypeId) (hown : w.ownsRow base 3 1 v n (ys.map (Value.int .i64))) (hs : Sl w B .i64 A m zs) (hn : n + m ≤ 1000000) (hb : base ≤ w.heap.size) :
    ∃ v' w', (Builtin.append_ #[40, 40] ty #[v, .slice A m c]).run Try.prog w = .ok v' w' ∧ w'.ownsRow base 3 1 v' (n + m) ((ys ++ zs).map (Value.int .i64)) ∧ Below base w w' := by
  obtain ⟨i, hi, hz, hsz, hby⟩ := info_parts infoI
  rcases Nat.eq_zero_or_pos m with rfl | hm
  · have hz0 : zs = [] := List.eq_nil_of_length_eq_zero hs.len
    subst hz0
    refine ⟨v, w, ?_, by simpa using hown, Below.refl _ _⟩
    have hsrc : Src Try.prog i.size 40 (.slice A 0 c) 0 [] w := by
      cases A with
      | none => exact Src.ofNil w Try.underlying40 c
      | some a => exact Src.ofSlice w Try.underlying40 a 0 c [] (by simp) (fun j u h => by simp at h) (fun u h => by cases h)
    obtain ⟨A', c', rfl, _, hle, _⟩ := own_form hown
    cases A' <;> simp [Builtin.append_, run_underlying Try.underlying40, sizeOf, typeInfo, hi, hsrc.len, hle, hsrc.cells, storeCells]
  · obtain ⟨b, off, rfl, _, hc⟩ := hs.at_ hm
    obtain ⟨g, cap, w', hr, h2, h3, _, _⟩ := run_append_lies (P := Try.prog) w 40 ty base 3 i (.int .i64 0) 1 8 Try.underlying40 hi hz hsz hby rfl (by decide) v n _ hown ⟨b, off, none⟩ m c (zs.map (Value.int .i64)) (by rw [List.length_map, hs.len, Nat.mul_one])
      (fun j u hj => by
        have hjn : j < m := by
          have := (List.getElem?_eq_some_iff.1 hj).1
          rw [List.length_map, hs.len] at this
          exact this
        have e : (⟨b, off, none⟩ : Addr).add j = ⟨b, off + j, none⟩ := by unfold Addr.add; split <;> simp_all
        rw [e, hc j hjn, ← hj]
        simp [List.getD_eq_getElem?_getD, List.getElem?_eq_getElem (show j < zs.length by rw [hs.len]; exact hjn)])
      (fun u hu => by obtain ⟨x, _, rfl⟩ := List.mem_map.1 hu; rfl) hm (by unfold maxLen; omega) (by omega) hb _ rfl
    refine ⟨_, w', hr, by rw [List.map_append]; exact h2, ?_⟩
    exact (Below.refl _ _).grown h3 hb fun k hk => (hown.lt k hk).1
end

/-! ### The document's list in memory -/
/-- At block m: n numbers, zs are in; its slice lies in no block of F. -/
structure RefAt (w : World) (m n : Nat) (F : Nat → Prop) (zs : List Nat) : Prop where
  hd : ∃ A c, Row w m 2 (fun j => if j = 0 then .int .i64 (n : Int) else .slice A zs.length c) ∧ Sl w w.heap.size .i64 A zs.length (ints zs) ∧ (zs.length ≤ c ∧ c ≤ maxLen) ∧ ∀ x, A = some x → x.block ≠ m ∧ ¬ F x.block
  fm : ¬ F m
section
variable {w w' : World} {m n : Nat} {F G : Nat → Prop} {zs : List Nat}
theorem RefAt.kept (h : RefAt w m n F zs) (hk : Kept G w w') (hG : ∀ k, G k → F k) : RefAt w' m n F zs := by
  obtain ⟨A, c, h1, h2, h3, h4⟩ := h.hd
  refine ⟨⟨A, c, h1.kept hk fun x => h.fm (hG _ x), ⟨h2.1, fun hn => ?_⟩, h3, h4⟩, h.fm⟩
  obtain ⟨b, off, rfl, hb, hc⟩ := h2.2 hn
  exact ⟨b, off, rfl, Nat.lt_of_lt_of_le hb hk.size, fun j hj => (hk.cell (p := ⟨b, off + j, none⟩) hb (fun x => (h4 _ rfl).2 (hG _ x))).trans (hc j hj)⟩
theorem RefAt.grow (h : RefAt w m n F zs) (hk : Grow w w') : RefAt w' m n F zs := h.kept hk fun _ x => x.elim
theorem RefAt.lt (h : RefAt w m n F zs) : m < w.heap.size := by
  obtain ⟨A, c, h1, _⟩ := h.hd
  exact h1.lt
/-- Another slice is laid into it. -/
theorem RefAt.put {ys : List Nat} {A : Option Addr} {c : Nat} (h : RefAt w m n F zs) (hs : Sl w w.heap.size .i64 A ys.length (ints ys)) (hc : ys.length ≤ c ∧ c ≤ maxLen) (hA : ∀ x, A = some x → x.block ≠ m ∧ ¬ F x.block) :
    RefAt (w.setCell ⟨m, 1, none⟩ (.slice A ys.length c)) m n F ys := by
  obtain ⟨A0, c0, h1, h2, h3, h4⟩ := h.hd
  refine ⟨⟨A, c, (h1.set 1 _).congr fun i hi => ?_, ⟨hs.1, fun hn => ?_⟩, hc, hA⟩, h.fm⟩
  · have : i = 0 ∨ i = 1 := by omega
    rcases this with rfl | rfl <;> rfl
  · obtain ⟨b, off, rfl, hb, hcl⟩ := hs.2 hn
    refine ⟨b, off, rfl, by simpa using hb, fun j hj => ?_⟩
    have := (kept_set w m 1 (.slice (some ⟨b, off, none⟩) ys.length c)).cell (p := ⟨b, off + j, none⟩) hb (hA _ rfl).1
    rw [this, hcl j hj]
end

/-- Where a number stands; -1. -/
def placeI (zs : List Nat) (k : Int) : Int := if okO zs k then ((zs.idxOf k.toNat : Nat) : Int) else -1

theorem okO_get {zs : List Nat} {j : Nat} (hn : zs.Nodup) (hj : j < zs.length) : okO zs ((zs.getD j 0 : Nat) : Int) = true ∧ placeI zs ((zs.getD j 0 : Nat) : Int) = (j : Int) := by
  have hm : zs.getD j 0 = zs[j] := by rw [List.getD_eq_getElem?_getD, List.getElem?_eq_getElem hj]; rfl
  have h1 : okO zs ((zs.getD j 0 : Nat) : Int) = true := by
    unfold okO
    rw [hm]
    simp
  refine ⟨h1, ?_⟩
  unfold placeI
  rw [if_pos h1, Int.toNat_natCast, hm, hn.idxOf_getElem]
theorem okO_none {zs : List Nat} {k : Int} (h : ∀ i, i < zs.length → ((zs.getD i 0 : Nat) : Int) ≠ k) : okO zs k = false := by
  unfold okO
  by_cases h0 : 0 ≤ k
  · have : k.toNat ∉ zs := fun hm => by
      obtain ⟨i, hi, e⟩ := List.getElem_of_mem hm
      refine h i hi ?_
      rw [List.getD_eq_getElem?_getD, List.getElem?_eq_getElem hi, Option.getD_some, e]
      omega
    simp [this]
  · simp [h0]

end Go.Proofs.Ytcmhkknoffeebaa.ListR
