/-
  Slices of ints of a call's own ('Gs'): all their room is there and may be written; append, cut, copy, clear.
-/
import Derived.Test.YtabmefffeafifaaRows
import Derived.Test.YtabmefffeafifaaCells
import Derived.ArgAppend
import Derived.Deep.AppendSrc
import Derived.Lib.AppendZeros
import Derived.Lib.AppendZerosOnto
import Derived.Lib.SliceRun
import Derived.Laws.IdiomCopy
namespace Go.Proofs.Ytabmefffeafifaa.GsC
open Go.ChangeShapes Go.WideShapes Go.ChangeAt Go.RowKit
open Go.Proofs.Ytabmefffeafifaa.Mem Go.Proofs.Ytabmefffeafifaa.Blk Go.Proofs.Ytabmefffeafifaa.Cells Go.Proofs.Ytabmefffeafifaa.Stages

theorem infoI : (Try.prog.info? 3).map (fun i => (i.zero, i.size, i.bytes)) = some (some (.int .i64 0), 1, 8) := by kernel_rfl
theorem add_off (b off j : Nat) : (⟨b, off, none⟩ : Addr).add j = ⟨b, off + j, none⟩ := by unfold Addr.add; split <;> simp_all

/-! ### A block in which a stretch is written -/
section
variable {w w' : World} {b n : Nat} {f g : Nat → Value}
theorem Row.setCells (vs : List Value) : ∀ {w : World} {f : Nat → Value} (o : Nat), Row w b n f → Row (w.setCells b o vs) b n (fun j => if o ≤ j ∧ j < o + vs.length then vs.getD (j - o) (f j) else f j) := by
  induction vs with
  | nil => intro w f o h; exact h.congr fun i _ => by rw [if_neg (by simp only [List.length_nil]; omega)]
  | cons v r ih =>
    intro w f o h
    refine (ih (o + 1) (h.set o v)).congr fun i _ => ?_
    by_cases e : i = o
    · subst e
      have e2 : i ≤ i ∧ i < i + (v :: r).length := by simp only [List.length_cons]; omega
      rw [if_neg (show ¬ (i + 1 ≤ i ∧ i < i + 1 + r.length) by omega), if_pos rfl, if_pos e2, Nat.sub_self]
      rfl
    · by_cases h2 : o + 1 ≤ i ∧ i < o + 1 + r.length
      · have e2 : o ≤ i ∧ i < o + (v :: r).length := by simp only [List.length_cons]; omega
        rw [if_pos h2, if_pos e2, if_neg e, show i - o = (i - (o + 1)) + 1 by omega, List.getD_cons_succ]
      · have e2 : ¬ (o ≤ i ∧ i < o + (v :: r).length) := by simp only [List.length_cons]; omega
        rw [if_neg h2, if_neg e, if_neg e2]
theorem kept_setCells (b : Nat) (vs : List Value) : ∀ (w : World) (o : Nat), Kept (fun x => x = b) w (w.setCells b o vs) := by
  induction vs with
  | nil => intro w o; exact Kept.refl _ _
  | cons v r ih => intro w o; exact (kept_set w b o v).trans (ih _ _)
theorem Row.isSome (h : Row w b n f) {j : Nat} (hj : j < n) : (w.cell? ⟨b, j, none⟩).isSome = true := by rw [h.cell hj]; rfl
/-- What a stretch of m cells from o on becomes. -/
def laid (f : Nat → Value) (o m : Nat) (u : Nat → Value) (j : Nat) : Value := if o ≤ j ∧ j < o + m then u (j - o) else f j
theorem Row.laid {m : Nat} (h : Row w b n f) (o : Nat) (u : Nat → Value) : Row (w.setCells b o ((List.range m).map u)) b n (laid f o m u) := by
  refine (Row.setCells _ o h).congr fun i _ => ?_
  unfold GsC.laid
  simp only [List.length_map, List.length_range]
  by_cases e : o ≤ i ∧ i < o + m
  · rw [if_pos e, if_pos e]
    simp [List.getD, show i - o < m by omega]
  · rw [if_neg e, if_neg e]
/-- 'copy' into a stretch of a block. -/
theorem copy_row {P : Program} {N m : Nat} {f u : Nat → Value} (dT sT elem : TypeId) (hu : P.underlying dT = some (.slice elem)) (hs : (P.info? elem).map (·.size) = some 1)
    (h : Row w b N f) (o dLen : Nat) (a : Addr) (sLen : Nat) (hm : Nat.min sLen dLen = m) (hfit : o + m ≤ N) (hsrc : ∀ j, j < m → w.cell? (a.add j) = some (u j)) (h1 : ∀ j, j < m → (u j).oneCell' = true) :
    ∃ w', (∀ ty dCap sCap, (Builtin.copy_ #[dT, sT] ty #[.slice (some ⟨b, o, none⟩) dLen dCap, .slice (some a) sLen sCap]).run P w = .ok (.int .i64 (m : Int)) w') ∧ Row w' b N (laid f o m u) ∧ Kept (fun x => x = b) w w' := by
  have hl : ((List.range m).map u).length = m := by simp
  refine ⟨_, fun ty dCap sCap => ?_, Row.laid h o u, kept_setCells _ _ _ _⟩
  have hr := run_copy_cells (P := P) w dT sT ty elem b o dLen dCap a sLen sCap ((List.range m).map u) hu hs (by rw [hl, hm]) (fun j v hj => by
      have hjm : j < m := by
        have := (List.getElem?_eq_some_iff.1 hj).1
        simpa using this
      rw [hsrc j hjm, ← hj]
      simp [hjm]) (fun j hj => Row.isSome h (by rw [hl] at hj; omega)) (fun j _ => h.frozen _) (fun v hv => by
      obtain ⟨j, hj, rfl⟩ := List.mem_map.1 hv
      exact h1 j (List.mem_range.1 hj))
  rw [hl] at hr
  exact hr
end

/-! ### A slice of the call's own -/
/-- The blocks of a slice in which there is room. -/
def blk (A : Option Addr) (c : Nat) (k : Nat) : Prop := 0 < c ∧ ∃ x, A = some x ∧ x.block = k
/-- The slice '.slice A n c' holds the numbers zs; all its room is there and may be written. -/
structure Gs (w : World) (A : Option Addr) (n c : Nat) (zs : List Int) : Prop where
  len : zs.length = n
  le : n ≤ c
  max : c ≤ maxLen
  row : 0 < c → ∃ b off f, A = some ⟨b, off, none⟩ ∧ Row w b (off + c) f ∧ ∀ j, j < n → f (off + j) = .int .i64 (zs.getD j 0)

section
variable {w w' : World} {n c m B : Nat} {A : Option Addr} {zs : List Int} {F : Nat → Prop}
theorem blk_some {b off k : Nat} : blk (some ⟨b, off, none⟩) c k ↔ 0 < c ∧ b = k :=
  ⟨fun ⟨h, x, e, hk⟩ => ⟨h, by injection e with e; subst e; exact hk⟩, fun ⟨h, hk⟩ => ⟨h, _, rfl, hk⟩⟩
theorem blk_zero {k : Nat} : ¬ blk A 0 k := fun h => absurd h.1 (by omega)
theorem Gs.nil (w : World) (A : Option Addr) : Gs w A 0 0 [] := ⟨rfl, Nat.le_refl _, Nat.zero_le _, fun h => absurd h (by omega)⟩
theorem Gs.lt (h : Gs w A n c zs) {k : Nat} (hk : blk A c k) : k < w.heap.size := by
  obtain ⟨h0, x, rfl, rfl⟩ := hk
  obtain ⟨b, off, f, e, hr, _⟩ := h.row h0
  injection e with e
  subst e
  exact hr.lt
theorem Gs.kept (h : Gs w A n c zs) (hk : Kept F w w') (hF : ∀ k, blk A c k → ¬ F k) : Gs w' A n c zs :=
  ⟨h.len, h.le, h.max, fun h0 => by
    obtain ⟨b, off, f, rfl, hr, hf⟩ := h.row h0
    exact ⟨b, off, f, rfl, hr.kept hk (hF _ (blk_some.2 ⟨h0, rfl⟩)), hf⟩⟩
theorem Gs.grow (h : Gs w A n c zs) (hk : Grow w w') : Gs w' A n c zs := h.kept hk fun _ _ x => x
theorem Gs.sl (h : Gs w A n c zs) (hB : w.heap.size ≤ B) : Sl w B .i64 A n zs := ⟨h.len, fun hn => by
  obtain ⟨b, off, f, rfl, hr, hf⟩ := h.row (by have := h.le; omega)
  have := h.le
  exact ⟨b, off, rfl, Nat.lt_of_lt_of_le hr.lt hB, fun j hj => by rw [hr.cell (by omega), hf j hj]⟩⟩
theorem Gs.take (h : Gs w A n c zs) (hm : m ≤ n) : Gs w A m c (zs.take m) :=
  ⟨by rw [List.length_take, h.len]; omega, by have := h.le; omega, h.max, fun h0 => by
    obtain ⟨b, off, f, rfl, hr, hf⟩ := h.row h0
    exact ⟨b, off, f, rfl, hr, fun j hj => by rw [hf j (by omega)]; simp [List.getD_eq_getElem?_getD, hj]⟩⟩
theorem Gs.drop (h : Gs w A n c zs) (hm : m ≤ n) : Gs w (if c = m then A else A.map (·.add m)) (n - m) (c - m) (zs.drop m) :=
  ⟨by rw [List.length_drop, h.len], by have := h.le; omega, by have := h.max; omega, fun h0 => by
    obtain ⟨b, off, f, rfl, hr, hf⟩ := h.row (by omega)
    rw [if_neg (by omega)]
    refine ⟨b, off + m, f, by simp only [Option.map_some, add_off], by rwa [show off + m + (c - m) = off + c by omega], fun j hj => ?_⟩
    rw [Nat.add_assoc, hf (m + j) (by omega)]
    simp [List.getD_eq_getElem?_getD]⟩
theorem blk_drop {k : Nat} (h : blk (if c = m then A else A.map (·.add m)) (c - m) k) : blk A c k := by
  obtain ⟨h0, x, e, hk⟩ := h
  rw [if_neg (by omega)] at e
  cases A with
  | none => cases e
  | some a =>
    injection e with e
    refine ⟨by omega, a, rfl, ?_⟩
    rw [← hk, ← e]
    unfold Addr.add
    split <;> rfl
/-- A row of the call's own, as the kit says it. -/
theorem Gs.of_own {base : Nat} {v : Value} (h : w.ownsRow base 3 1 v n (zs.map (Value.int .i64))) : ∃ A c, v = .slice A n c ∧ Gs w A n c zs ∧ ∀ k, blk A c k → base ≤ k := by
  have hl : zs.length = n := by have := h.1; simpa using this
  rcases h.2 with ⟨rfl, rfl⟩ | ⟨g, cap, cur, rfl, hb, hg, h1, h2, h3, h4⟩
  · have hz : zs = [] := List.eq_nil_of_length_eq_zero hl
    subst hz
    exact ⟨none, 0, rfl, Gs.nil _ _, fun k h => absurd h blk_zero⟩
  · refine ⟨_, cap, rfl, ⟨hl, h1, h2, fun h0 => ⟨g, 0, fun j => (cur[j]?).getD (.bool false), rfl, ⟨cur, _, hg, by omega, fun i hi => ?_⟩, fun j hj => ?_⟩⟩, fun k hk => (blk_some.1 hk).2 ▸ hb⟩
    · have hlt : i < cur.size := by omega
      show cur[i]? = some ((cur[i]?).getD _)
      rw [Array.getElem?_eq_getElem hlt]
      rfl
    · have : (cur.toList.take (n * 1))[j]? = some (.int .i64 (zs.getD j 0)) := by
        rw [h4]
        simp [List.getD_eq_getElem?_getD, List.getElem?_eq_getElem (show j < zs.length by omega)]
      rw [List.getElem?_take, if_pos (by omega)] at this
      show (cur[0 + j]?).getD _ = _
      rw [Nat.zero_add, ← Array.getElem?_toList, this]
      rfl

set_option maxRecDepth 4000 in
/-- 'append(s, x)', s of the call's own. -/
theorem append_gs (ty : TypeId) (h : Gs w A n c zs) (hn : n ≤ 1000000) (vb : Nat) (x : Int) (hx : w.cell? ⟨vb, 0, none⟩ = some (.int .i64 x)) :
    ∃ A' c' w', (Builtin.append_ #[26, 26] ty #[.slice A n c, .slice (some ⟨vb, 0, none⟩) 1 1]).run Try.prog w = .ok (.slice A' (n + 1) c') w' ∧ Gs w' A' (n + 1) c' (zs ++ [x]) ∧ Kept (blk A c) w w' ∧ ∀ k, blk A' c' k → blk A c k ∨ w.heap.size ≤ k := by
  obtain ⟨i, hi, hz, hsz, hby⟩ := info_parts infoI
  have hnews : ∀ j u, [Value.int .i64 x][j]? = some u → w.cell? ((⟨vb, 0, none⟩ : Addr).add j) = some u := fun j u hj => by
    cases j with
    | zero => simp at hj; subst hj; rw [add_off]; exact hx
    | succ j => simp at hj
  have h1 : ∀ u ∈ [Value.int .i64 x], u.oneCell' = true := fun u hu => by simp at hu; subst hu; rfl
  have hmap : zs.map (Value.int .i64) ++ [Value.int .i64 x] = (zs ++ [x]).map (Value.int .i64) := by simp
  rcases Nat.lt_or_ge n c with hr | hr
  · obtain ⟨b, off, f, rfl, hrow, hf⟩ := h.row (by omega)
    have hrun := run_append_room_cells (P := Try.prog) w 26 ty 3 i Try.underlying26 hi b off n c ⟨vb, 0, none⟩ 1 1 [.int .i64 x] (by rw [hsz]; rfl) hnews h1 hr (fun j hj => by
      have : j = 0 := by simpa using hj
      subst this
      rw [hsz]
      exact Row.isSome hrow (by omega)) (fun j _ => hrow.frozen _)
    rw [hsz, Nat.mul_one] at hrun
    refine ⟨_, c, _, hrun, ⟨by rw [List.length_append, h.len]; rfl, hr, h.max, fun _ => ⟨b, off, _, rfl, Row.setCells _ _ hrow, fun j hj => ?_⟩⟩, (kept_setCells _ _ _ _).mono fun k _ e => blk_some.2 ⟨by omega, e.symm⟩, fun k hk => .inl hk⟩
    dsimp only [List.length_cons, List.length_nil]
    by_cases e : j = n
    · subst e
      rw [if_pos (by omega), Nat.sub_self]
      simp [List.getD_eq_getElem?_getD, h.len]
    · rw [if_neg (by omega), hf j (by omega)]
      simp [List.getD_eq_getElem?_getD, List.getElem?_append, h.len, show j < n by omega]
  · have hnc : n = c := by have := h.le; omega
    subst hnc
    have hfin : ∀ v' w', w'.ownsRow w.heap.size 3 1 v' (n + 1) (zs.map (Value.int .i64) ++ [.int .i64 x]) → w.grownBy w' none → (Builtin.append_ #[26, 26] ty #[.slice A n n, .slice (some ⟨vb, 0, none⟩) 1 1]).run Try.prog w = .ok v' w' →
        ∃ A' c' w', (Builtin.append_ #[26, 26] ty #[.slice A n n, .slice (some ⟨vb, 0, none⟩) 1 1]).run Try.prog w = .ok (.slice A' (n + 1) c') w' ∧ Gs w' A' (n + 1) c' (zs ++ [x]) ∧ Kept (blk A n) w w' ∧ ∀ k, blk A' c' k → blk A n k ∨ w.heap.size ≤ k := fun v' w' ho hg hrun => by
      rw [hmap] at ho
      obtain ⟨A', c', rfl, hgs, hb⟩ := Gs.of_own ho
      exact ⟨A', c', w', hrun, hgs, (Kept.refl _ w).grown hg (fun k hk => by cases hk), fun k hk => .inr (hb k hk)⟩
    cases A with
    | some a =>
      have hold : ∀ j u, (zs.map (Value.int .i64))[j]? = some u → w.cell? (a.add j) = some u := fun j u hj => by
        have hjn : j < n := by
          have := (List.getElem?_eq_some_iff.1 hj).1
          rw [List.length_map, h.len] at this
          exact this
        obtain ⟨b, off, f, e, hrow, hf⟩ := h.row (by omega)
        injection e with e
        subst e
        rw [add_off, hrow.cell (by omega), hf j hjn, ← hj]
        simp [List.getD_eq_getElem?_getD, List.getElem?_eq_getElem (show j < zs.length by rw [h.len]; exact hjn)]
      obtain ⟨v', w', hrun, ho, hg⟩ := run_append_arg_grows (P := Try.prog) w 26 ty 3 i _ 1 8 Try.underlying26 hi hz hsz hby rfl (by decide) a n n (zs.map (Value.int .i64)) (by rw [List.length_map, h.len, Nat.mul_one]) hold ⟨vb, 0, none⟩ 1 1 [.int .i64 x] rfl hnews (by omega) (by unfold maxLen; omega) (by omega)
      exact hfin v' w' ho hg hrun
    | none =>
      have hn0 : n = 0 := by
        rcases Nat.eq_zero_or_pos n with e | e
        · exact e
        · obtain ⟨_, _, _, e', _⟩ := h.row e
          cases e'
      subst hn0
      have hz0 : zs = [] := List.eq_nil_of_length_eq_zero h.len
      obtain ⟨v', w', hrun, ho, hg, _⟩ := run_append_own (P := Try.prog) w w.heap.size 26 ty 3 i _ 1 8 Try.underlying26 hi hz hsz hby rfl (by decide) (.slice none 0 0) 0 [] (World.ownsRow_nil w _ _ _) ⟨vb, 0, none⟩ 1 1 [.int .i64 x] rfl hnews h1 (by unfold maxLen; omega) (by omega) (Nat.le_refl _)
      refine hfin v' w' (by subst hz0; exact ho) hg hrun
end
#print axioms append_gs
end Go.Proofs.Ytabmefffeafifaa.GsC
