/-
  append of a slice of numbers, empty or not, onto a row of the call's own, as a run equation; what such a row is. No function is named here.
-/
import Derived.Test.YtmealcbcphfpdaaPrs
import Derived.Deep.AppendSrc
import Derived.Lib.AppendZeros
namespace Go.Proofs.Ytmealcbcphfpdaa.App
open Go.ChangeShapes Go.WideShapes Go.ChangeAt Go.RowKit Go.Conc
open Go.Proofs.Ytmealcbcphfpdaa.Mem Go.Proofs.Ytmealcbcphfpdaa.Blk Go.Proofs.Ytmealcbcphfpdaa.Prs Go.Proofs.Ytmealcbcphfpdaa.Stages

theorem infoI : (Try.prog.info? 3).map (fun i => (i.zero, i.size, i.bytes)) = some (some (.int .i64 0), 1, 8) := by kernel_rfl
section
variable {w w0 w' : World} {base n : Nat} {v : Value} {zs ys : List Int}
/-- What a row of the call's own is. -/
theorem own_form (h : w.ownsRow base 3 1 v n (zs.map (Value.int .i64))) : ∃ A c, v = .slice A n c ∧ Sl w w.heap.size .i64 A n zs ∧ n ≤ c ∧ c ≤ maxLen ∧ ∀ x, A = some x → base ≤ x.block := by
  obtain ⟨A, c, rfl, hs⟩ := Sl.of_row1 h
  refine ⟨A, c, rfl, hs, ?_⟩
  rcases h.2 with ⟨e, h0⟩ | ⟨g, cap, cur, e, hb, _, h1, h2, _⟩
  · injection e with e1 e2 e3
    subst e1 e3
    exact ⟨by omega, Nat.zero_le _, fun x hx => by cases hx⟩
  · injection e with e1 e2 e3
    subst e1 e3
    exact ⟨h1, h2, fun x hx => by injection hx with hx; subst hx; exact hb⟩
theorem append_sl {m c B : Nat} {A : Option Addr} (ty : TypeId) (hown : w.ownsRow base 3 1 v n (ys.map (Value.int .i64))) (hs : Sl w B .i64 A m zs) (hn : n + m ≤ 1000000) (hb : base ≤ w.heap.size) :
    ∃ v' w', (Builtin.append_ #[27, 27] ty #[v, .slice A m c]).run Try.prog w = .ok v' w' ∧ w'.ownsRow base 3 1 v' (n + m) ((ys ++ zs).map (Value.int .i64)) ∧ Kept (fun k => v.ownBlock = some k) w w' := by
  obtain ⟨i, hi, hz, hsz, hby⟩ := info_parts infoI
  rcases Nat.eq_zero_or_pos m with rfl | hm
  · have hz0 : zs = [] := List.eq_nil_of_length_eq_zero hs.len
    subst hz0
    refine ⟨v, w, ?_, by simpa using hown, Kept.refl _ _⟩
    have hsrc : Src Try.prog i.size 27 (.slice A 0 c) 0 [] w := by
      cases A with
      | none => exact Src.ofNil w Try.underlying27 c
      | some a => exact Src.ofSlice w Try.underlying27 a 0 c [] (by simp) (fun j u h => by simp at h) (fun u h => by cases h)
    obtain ⟨A', c', rfl, _, hle, _⟩ := own_form hown
    cases A' <;> simp [Builtin.append_, run_underlying Try.underlying27, sizeOf, typeInfo, hi, hsrc.len, hle, hsrc.cells, storeCells]
  · obtain ⟨b, off, rfl, _, hc⟩ := hs.at_ hm
    obtain ⟨g, cap, w', hr, h2, h3, _, _⟩ := run_append_lies (P := Try.prog) w 27 ty base 3 i (.int .i64 0) 1 8 Try.underlying27 hi hz hsz hby rfl (by decide) v n _ hown ⟨b, off, none⟩ m c (zs.map (Value.int .i64)) (by rw [List.length_map, hs.len, Nat.mul_one])
      (fun j u hj => by
        have hjn : j < m := by
          have := (List.getElem?_eq_some_iff.1 hj).1
          rw [List.length_map, hs.len] at this
          exact this
        rw [add_off, hc j hjn, ← hj]
        simp [List.getD_eq_getElem?_getD, List.getElem?_eq_getElem (show j < zs.length by rw [hs.len]; exact hjn)])
      (fun u hu => by obtain ⟨x, _, rfl⟩ := List.mem_map.1 hu; rfl) hm (by unfold maxLen; omega) (by omega) hb _ rfl
    exact ⟨_, w', hr, by rw [List.map_append]; exact h2, (Kept.refl _ w).grown h3 fun k hk _ => hk⟩
/-- What appends to a row of the call's own leave as it was. -/
theorem grow_own {e : TypeId} {sz : Nat} {xs : List Value} (h : w.ownsRow base e sz v n xs) (hg : Grow w0 w) (hk : Kept (fun k => v.ownBlock = some k) w w') (hb : w0.heap.size ≤ base) : Grow w0 w' :=
  hg.then hk fun k hlt e => by have := (own_notChan h e).2; omega
theorem kept_own {e : TypeId} {sz : Nat} {xs : List Value} (h : w.ownsRow base e sz v n xs) (hk : Kept (fun k => v.ownBlock = some k) w w') : Kept (base ≤ ·) w w' :=
  hk.mono fun k _ e => (own_notChan h e).2
theorem sl_one (w1 : World) (k : Int) : Sl (w1.alloc (.cells #[.int .i64 k] 3)) (w1.heap.size + 1) .i64 (some ⟨w1.heap.size, 0, none⟩) 1 [k] :=
  ⟨rfl, fun _ => ⟨_, _, rfl, by omega, fun j hj => by
    have : j = 0 := by omega
    subst this
    exact cell_new1 _ _ _⟩⟩
theorem Sl.kept' {F : Nat → Prop} {B n : Nat} {A : Option Addr} {k : IntKind} (h : Sl w B k A n zs) (hk : Kept F w w') (hA : ∀ x, A = some x → ¬ F x.block) : Sl w' B k A n zs :=
  ⟨h.1, fun hn => by
    obtain ⟨b, off, rfl, hb, hc⟩ := h.2 hn
    exact ⟨b, off, rfl, hb, fun j hj => hk.cellN (hc j hj) (hA ⟨b, off, none⟩ rfl)⟩⟩
theorem Sl.keptC {F : Nat → Prop} {B n : Nat} {A : Option Addr} {k : IntKind} (h : Sl w B k A n zs) (hk : Kept F w w') (hA : ∀ x, A = some x → ¬ Chan.IsChan w x.block → ¬ F x.block) : Sl w' B k A n zs :=
  ⟨h.1, fun hn => by
    obtain ⟨b, off, rfl, hb, hc⟩ := h.2 hn
    have hx : ¬ F b := hA ⟨b, off, none⟩ rfl (Chan.notChan_cell (hc 0 hn))
    exact ⟨b, off, rfl, hb, fun j hj => hk.cellN (hc j hj) hx⟩⟩
end
end Go.Proofs.Ytmealcbcphfpdaa.App
