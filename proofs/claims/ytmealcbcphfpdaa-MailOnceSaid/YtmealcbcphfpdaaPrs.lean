/-
  Pairs of numbers: as values, as rows of cells ('Pl'), in channels ('ChP'); append of a slice of pairs. No function is named here.
-/
import Derived.Test.YtmealcbcphfpdaaRows
import Derived.Test.YtmealcbcphfpdaaCells
import Derived.Test.YtmealcbcphfpdaaChan
import Derived.Deep.AppendSrc
import Derived.Lib.AppendZeros
namespace Go.Proofs.Ytmealcbcphfpdaa.Prs
open Go.ChangeShapes Go.WideShapes Go.ChangeAt Go.RowKit Go.Conc
open Go.Proofs.Ytmealcbcphfpdaa.Mem Go.Proofs.Ytmealcbcphfpdaa.Blk Go.Proofs.Ytmealcbcphfpdaa.Cells Go.Proofs.Ytmealcbcphfpdaa.Chan Go.Proofs.Ytmealcbcphfpdaa.Stages

abbrev P2 := Int × Int
/-- A pair as one value; pairs as values; pairs as cells. -/
def pv (p : P2) : Value := .agg #[.int .i64 p.1, .int .i64 p.2]
def pvs (zs : List P2) : List Value := zs.map pv
def flat : List P2 → List Value
  | [] => []
  | p :: l => .int .i64 p.1 :: .int .i64 p.2 :: flat l

section
variable {zs ys : List P2} {p : P2} {j : Nat}
theorem flat_len : ∀ zs : List P2, (flat zs).length = zs.length * 2
  | [] => rfl
  | _ :: l => by simp only [flat, List.length_cons, flat_len l]; omega
theorem flat_append : ∀ zs ys : List P2, flat (zs ++ ys) = flat zs ++ flat ys
  | [], _ => rfl
  | _ :: l, ys => by simp only [List.cons_append, flat, flat_append l ys]
theorem flat0 : ∀ (zs : List P2) (j : Nat), j < zs.length → (flat zs)[j * 2]? = some (.int .i64 (zs.getD j (0, 0)).1)
  | [], j, h => absurd h (Nat.not_lt_zero _)
  | p :: l, 0, _ => rfl
  | p :: l, j + 1, h => by
    rw [show (j + 1) * 2 = j * 2 + 2 by omega, List.getD_cons_succ]
    exact flat0 l j (by simpa using h)
theorem flat1 : ∀ (zs : List P2) (j : Nat), j < zs.length → (flat zs)[j * 2 + 1]? = some (.int .i64 (zs.getD j (0, 0)).2)
  | [], j, h => absurd h (Nat.not_lt_zero _)
  | p :: l, 0, _ => rfl
  | p :: l, j + 1, h => by
    rw [show (j + 1) * 2 + 1 = j * 2 + 1 + 2 by omega, List.getD_cons_succ]
    exact flat1 l j (by simpa using h)
theorem flat_one : ∀ zs : List P2, ∀ u ∈ flat zs, u.oneCell' = true
  | [], u, h => by cases h
  | p :: l, u, h => by
    simp only [flat, List.mem_cons] at h
    rcases h with rfl | rfl | h
    · rfl
    · rfl
    · exact flat_one l u h
end

theorem add_off (b off j : Nat) : (⟨b, off, none⟩ : Addr).add j = ⟨b, off + j, none⟩ := by unfold Addr.add; split <;> simp_all
theorem infoP : (Try.prog.info? 42).map (fun i => (i.zero, i.size, i.bytes)) = some (some (.agg #[.int .i64 0, .int .i64 0]), 2, 16) := by kernel_rfl

/-- The slice value '.slice A n c' holds the pairs zs and lies below block B. -/
def Pl (w : World) (B : Nat) (A : Option Addr) (n : Nat) (zs : List P2) : Prop :=
  zs.length = n ∧ (0 < n → ∃ b off, A = some ⟨b, off, none⟩ ∧ b < B ∧ ∀ j, j < n → w.cell? ⟨b, off + j * 2, none⟩ = some (.int .i64 (zs.getD j (0, 0)).1) ∧ w.cell? ⟨b, off + j * 2 + 1, none⟩ = some (.int .i64 (zs.getD j (0, 0)).2))

section
variable {w w' : World} {B B' n m base : Nat} {A : Option Addr} {zs ys : List P2} {F : Nat → Prop} {v : Value}
theorem Pl.len (h : Pl w B A n zs) : zs.length = n := h.1
theorem Pl.nil (w : World) (B : Nat) (A : Option Addr) : Pl w B A 0 [] := ⟨rfl, fun h => absurd h (by omega)⟩
theorem Pl.at_ (h : Pl w B A n zs) (hn : 0 < n) : ∃ b off, A = some ⟨b, off, none⟩ ∧ b < B ∧ ∀ j, j < n → w.cell? ⟨b, off + j * 2, none⟩ = some (.int .i64 (zs.getD j (0, 0)).1) ∧ w.cell? ⟨b, off + j * 2 + 1, none⟩ = some (.int .i64 (zs.getD j (0, 0)).2) := h.2 hn
theorem Pl.more (h : Pl w B A n zs) (hB : B ≤ B') : Pl w B' A n zs :=
  ⟨h.1, fun hn => by
    obtain ⟨b, off, e, hb, hc⟩ := h.2 hn
    exact ⟨b, off, e, by omega, hc⟩⟩
/-- It is as it was, if its block is. -/
theorem Pl.kept (h : Pl w B A n zs) (hk : Kept F w w') (hA : ∀ x, A = some x → ¬ F x.block) : Pl w' B A n zs :=
  ⟨h.1, fun hn => by
    obtain ⟨b, off, rfl, hb, hc⟩ := h.2 hn
    exact ⟨b, off, rfl, hb, fun j hj => ⟨hk.cellN (hc j hj).1 (hA ⟨b, off, none⟩ rfl), hk.cellN (hc j hj).2 (hA ⟨b, off, none⟩ rfl)⟩⟩⟩
theorem Pl.grow (h : Pl w B A n zs) (hk : Grow w w') : Pl w' B A n zs := h.kept hk fun _ _ x => x
/-- The same where F's blocks are channels or others than its own. -/
theorem Pl.keptC (h : Pl w B A n zs) (hk : Kept F w w') (hA : ∀ x, A = some x → ¬ IsChan w x.block → ¬ F x.block) : Pl w' B A n zs :=
  ⟨h.1, fun hn => by
    obtain ⟨b, off, rfl, hb, hc⟩ := h.2 hn
    have hx : ¬ F b := hA ⟨b, off, none⟩ rfl (notChan_cell (hc 0 hn).1)
    exact ⟨b, off, rfl, hb, fun j hj => ⟨hk.cellN (hc j hj).1 hx, hk.cellN (hc j hj).2 hx⟩⟩⟩
theorem Pl.take (h : Pl w B A n zs) {m : Nat} (hm : m ≤ n) : Pl w B A m (zs.take m) := by
  refine ⟨by rw [List.length_take, h.1]; omega, fun hn => ?_⟩
  obtain ⟨b, off, e, hb, hc⟩ := h.2 (by omega)
  refine ⟨b, off, e, hb, fun j hj => ?_⟩
  have e : (zs.take m).getD j (0, 0) = zs.getD j (0, 0) := by simp [List.getD_eq_getElem?_getD, hj]
  rw [e]
  exact hc j (by omega)
theorem Pl.cut (h : Pl w B A n zs) {m cap : Nat} (hm : m ≤ n) (hc : n ≤ cap) :
    Pl w B (if cap = m then A else A.map (·.add (m * 2))) (n - m) (zs.drop m) := by
  refine ⟨by rw [List.length_drop, h.1], fun hn => ?_⟩
  obtain ⟨b, off, rfl, hb, hcell⟩ := h.2 (by omega)
  rw [if_neg (by omega)]
  refine ⟨b, off + m * 2, by simp only [Option.map_some, add_off], hb, fun j hj => ?_⟩
  have e : (zs.drop m).getD j (0, 0) = zs.getD (m + j) (0, 0) := by simp [List.getD_eq_getElem?_getD]
  rw [e, show off + m * 2 + j * 2 = off + (m + j) * 2 by omega]
  exact hcell _ (by omega)
/-- What a row of pairs of the call's own is. -/
theorem own_pl (h : w.ownsRow base 42 2 v n (flat zs)) : ∃ A c, v = .slice A n c ∧ Pl w w.heap.size A n zs ∧ n ≤ c ∧ c ≤ maxLen ∧ ∀ x, A = some x → base ≤ x.block := by
  have hl : zs.length = n := by have := h.1; rw [flat_len] at this; omega
  rcases h.2 with ⟨rfl, rfl⟩ | ⟨g, cap, cur, rfl, hb, hg, h1, h2, h3, h4⟩
  · have hz : zs = [] := List.eq_nil_of_length_eq_zero hl
    subst hz
    exact ⟨none, 0, rfl, Pl.nil _ _ _, Nat.le_refl _, Nat.zero_le _, fun x hx => by cases hx⟩
  · have hc : ∀ k, k < n * 2 → w.cell? ⟨g, k, none⟩ = (flat zs)[k]? := fun k hk => by
      rw [← h4, List.getElem?_take, if_pos hk, cell_of_row w g k _ _ _ hg, Array.getElem?_toList]
    refine ⟨_, cap, rfl, ⟨hl, fun hn => ⟨g, 0, rfl, (Array.getElem?_eq_some_iff.1 hg).1, fun j hj => ?_⟩⟩, h1, h2, fun x hx => by injection hx with hx; subst hx; exact hb⟩
    rw [Nat.zero_add, hc _ (by omega), hc _ (by omega), flat0 zs j (by omega), flat1 zs j (by omega)]
    exact ⟨rfl, rfl⟩
/-- 'append(s, l...)' of pairs, s of the call's own, l empty or not: nothing turns but s. -/
theorem append_pl {m c : Nat} {A : Option Addr} (ty : TypeId) (hown : w.ownsRow base 42 2 v n (flat ys)) (hs : Pl w B A m zs) (hn : n + m ≤ 1000000) (hb : base ≤ w.heap.size) :
    ∃ v' w', (Builtin.append_ #[26, 26] ty #[v, .slice A m c]).run Try.prog w = .ok v' w' ∧ w'.ownsRow base 42 2 v' (n + m) (flat (ys ++ zs)) ∧ Kept (fun k => v.ownBlock = some k) w w' := by
  obtain ⟨i, hi, hz, hsz, hby⟩ := info_parts infoP
  rcases Nat.eq_zero_or_pos m with rfl | hm
  · have hz0 : zs = [] := List.eq_nil_of_length_eq_zero hs.len
    subst hz0
    refine ⟨v, w, ?_, by simpa using hown, Kept.refl _ _⟩
    have hsrc : Src Try.prog i.size 26 (.slice A 0 c) 0 [] w := by
      cases A with
      | none => exact Src.ofNil w Try.underlying26 c
      | some a => exact Src.ofSlice w Try.underlying26 a 0 c [] (by simp) (fun j u h => by simp at h) (fun u h => by cases h)
    obtain ⟨A', c', rfl, _, hle, _⟩ := own_pl hown
    cases A' <;> simp [Builtin.append_, run_underlying Try.underlying26, sizeOf, typeInfo, hi, hsrc.len, hle, hsrc.cells, storeCells]
  · obtain ⟨b, off, rfl, _, hc⟩ := hs.at_ hm
    obtain ⟨g, cap, w', hr, h2, h3, _, _⟩ := run_append_lies (P := Try.prog) w 26 ty base 42 i _ 2 16 Try.underlying26 hi hz hsz hby rfl (by decide) v n _ hown ⟨b, off, none⟩ m c (flat zs) (by rw [flat_len, hs.len])
      (fun j u hj => by
        have hjn : j < m * 2 := by
          have := (List.getElem?_eq_some_iff.1 hj).1
          rw [flat_len, hs.len] at this
          exact this
        rw [add_off, ← hj]
        rcases Nat.mod_two_eq_zero_or_one j with e | e
        · have e2 : j = j / 2 * 2 := by omega
          have hl : j / 2 < m := by omega
          have := (hc _ hl).1
          rw [← flat0 zs (j / 2) (by rw [hs.len]; exact hl)] at this
          rwa [← e2] at this
        · have e2 : j = j / 2 * 2 + 1 := by omega
          have hl : j / 2 < m := by omega
          have := (hc _ hl).2
          rw [← flat1 zs (j / 2) (by rw [hs.len]; exact hl), Nat.add_assoc] at this
          rwa [← e2] at this)
      (flat_one zs) hm (by unfold maxLen; omega) (by omega) hb _ rfl
    exact ⟨_, w', hr, by rw [flat_append]; exact h2, (Kept.refl _ w).grown h3 fun k hk _ => hk⟩
/-- One pair in a block of its own. -/
theorem pl_one (w1 : World) (p : P2) : Pl (w1.alloc (.cells #[.int .i64 p.1, .int .i64 p.2] 42)) (w1.heap.size + 1) (some ⟨w1.heap.size, 0, none⟩) 1 [p] :=
  ⟨rfl, fun _ => ⟨_, _, rfl, by omega, fun j hj => by
    have : j = 0 := by omega
    subst this
    have hb := Blk.new w1 42 [.int .i64 p.1, .int .i64 p.2]
    exact ⟨hb.cell 0, hb.cell 1⟩⟩⟩
theorem pl_two (w1 : World) (o : Obj) (p : P2) : Pl ((w1.alloc o).alloc (.cells #[.int .i64 p.1, .int .i64 p.2] 42)) (w1.heap.size + 1 + 1) (some ⟨w1.heap.size + 1, 0, none⟩) 1 [p] := by
  have h := pl_one (w1.alloc o) p
  rwa [show (w1.alloc o).heap.size = w1.heap.size + 1 by simp] at h
theorem own_of_block {e : TypeId} {sz : Nat} {xs : List Value} (h : w.ownsRow base e sz v n xs) (hk : ∀ g, v.ownBlock = some g → ¬ IsChan w g → w'.heap[g]? = w.heap[g]?) : w'.ownsRow base e sz v n xs := by
  refine ⟨h.1, ?_⟩
  rcases h.2 with h0 | ⟨g, cap, cur, rfl, hg, hb, h1⟩
  · exact .inl h0
  · exact .inr ⟨g, cap, cur, rfl, hg, (hk g rfl (notChan_cells hb)).trans hb, h1⟩
theorem own_notChan {e : TypeId} {sz : Nat} {xs : List Value} (h : w.ownsRow base e sz v n xs) {g : Nat} (hg : v.ownBlock = some g) : ¬ IsChan w g ∧ base ≤ g := by
  rcases h.2 with ⟨rfl, _⟩ | ⟨g', cap, cur, rfl, hb, hc, _⟩
  · cases hg
  · injection hg with hg
    subst hg
    exact ⟨notChan_cells hc, hb⟩
end

/-! ### A channel of pairs -/
/-- The channel at block c, of room cap: zs wait in it. -/
def ChP (w : World) (c cap : Nat) (zs : List P2) : Prop := ∃ s r, w.heap[c]? = some (.chan cap (pvs zs).toArray false s r false)
section
variable {w w' : World} {c cap : Nat} {zs ys : List P2} {F : Nat → Prop}
theorem ChP.is (h : ChP w c cap zs) : IsChan w c := by
  obtain ⟨s, r, h⟩ := h
  exact ⟨_, _, _, _, _, _, h⟩
theorem ChP.lt (h : ChP w c cap zs) : c < w.heap.size := by
  obtain ⟨s, r, h⟩ := h
  exact (Array.getElem?_eq_some_iff.1 h).1
theorem ChP.of_block (h : ChP w c cap zs) (e : w'.heap[c]? = w.heap[c]?) : ChP w' c cap zs := by
  obtain ⟨s, r, h⟩ := h
  exact ⟨s, r, e.trans h⟩
theorem ChP.kept (h : ChP w c cap zs) (hk : Kept F w w') (hf : ¬ F c) : ChP w' c cap zs := h.of_block (hk.block c h.lt hf)
theorem ChP.set (h : ChP w c cap zs) (ys : List P2) (s r : Nat) : ChP (w.setChan c cap (pvs ys).toArray false s r false) c cap ys := ⟨s, r, heap_setChan _ _ _ _ _ _ _ _ h.lt⟩
theorem kept_chan (w : World) (c cap : Nat) (buf : Array Value) (cl : Bool) (s r : Nat) (tm : Bool) : Kept (· = c) w (w.setChan c cap buf cl s r tm) := kept_setChan (Kept.refl _ _) fun _ => rfl
theorem pvs_push (zs : List P2) (p : P2) : (pvs zs).toArray.push (pv p) = (pvs (zs ++ [p])).toArray := by simp [pvs]
theorem pvs_size (zs : List P2) : (pvs zs).toArray.size = zs.length := by simp [pvs]
theorem pvs_head (p : P2) (l : List P2) : (pvs (p :: l)).toArray.getD 0 undef = pv p ∧ (pvs (p :: l)).toArray.extract 1 (pvs (p :: l)).toArray.size = (pvs l).toArray ∧ 0 < (pvs (p :: l)).toArray.size :=
  ⟨by simp [pvs], by simp [pvs, List.take_of_length_le], by simp [pvs]⟩
end
end Go.Proofs.Ytmealcbcphfpdaa.Prs
