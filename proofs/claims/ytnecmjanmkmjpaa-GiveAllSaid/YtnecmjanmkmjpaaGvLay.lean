/-
  Two slices of ints of the call's own, side by side, each appended to; what is left to be given (chapter 17).
-/
import Derived.Test.YtnecmjanmkmjpaaGvCount
import Derived.Test.YtnecmjanmkmjpaaTold17
namespace Go.Proofs.Ytnecmjanmkmjpaa.GvL
open Go.ChangeShapes Go.WideShapes Go.ChangeAt Go.RowKit
open Go.Proofs.Ytnecmjanmkmjpaa.Mem Go.Proofs.Ytnecmjanmkmjpaa.Blk Go.Proofs.Ytnecmjanmkmjpaa.Cells Go.Proofs.Ytnecmjanmkmjpaa.GsC Go.Proofs.Ytnecmjanmkmjpaa.GvM Go.Proofs.Ytnecmjanmkmjpaa.GvC Go.Proofs.Ytnecmjanmkmjpaa.GvI Go.Proofs.Ytnecmjanmkmjpaa.GvN Go.Proofs.Ytnecmjanmkmjpaa.Stages

structure Two (w : World) (base : Nat) (A : Option Addr) (c na : Nat) (la : List Int) (B : Option Addr) (d nb : Nat) (lb : List Int) : Prop where
  a : Gs w A na c la
  b : Gs w B nb d lb
  apart : ∀ k, blk A c k → ¬ blk B d k
  ha : ∀ k, blk A c k → base ≤ k
  hb : ∀ k, blk B d k → base ≤ k
section
variable {w w' : World} {base c d na nb vb : Nat} {A B : Option Addr} {la lb : List Int} {x : Int} {F : Nat → Prop}
theorem two_nil (w : World) (base : Nat) : Two w base none 0 0 [] none 0 0 [] := ⟨Gs.nil _ _, Gs.nil _ _, fun _ h => absurd h blk_zero, fun _ h => absurd h blk_zero, fun _ h => absurd h blk_zero⟩
theorem Two.grow (h : Two w base A c na la B d nb lb) (hg : Grow w w') : Two w' base A c na la B d nb lb := ⟨h.a.grow hg, h.b.grow hg, h.apart, h.ha, h.hb⟩
theorem Two.appA (ty : TypeId) (h : Two w base A c na la B d nb lb) (hn : na ≤ 1000000) (hw : base ≤ w.heap.size) (hx : w.cell? ⟨vb, 0, none⟩ = some (.int .i64 x)) :
    ∃ A' c' w', (Builtin.append_ #[22, 22] ty #[.slice A na c, .slice (some ⟨vb, 0, none⟩) 1 1]).run Try.prog w = .ok (.slice A' (na + 1) c') w' ∧ Two w' base A' c' (na + 1) (la ++ [x]) B d nb lb ∧ Kept (blk A c) w w' := by
  obtain ⟨A', c', w', h1, h2, h3, h4⟩ := append_gs ty h.a hn vb x hx
  refine ⟨A', c', w', h1, ⟨h2, h.b.kept h3 fun k hk hk' => h.apart k hk' hk, fun k hk hk' => ?_, fun k hk => ?_, h.hb⟩, h3⟩
  · rcases h4 k hk with e | e
    · exact h.apart k e hk'
    · have := h.b.lt hk'; omega
  · rcases h4 k hk with e | e
    · exact h.ha k e
    · omega
theorem Two.appB (ty : TypeId) (h : Two w base A c na la B d nb lb) (hn : nb ≤ 1000000) (hw : base ≤ w.heap.size) (hx : w.cell? ⟨vb, 0, none⟩ = some (.int .i64 x)) :
    ∃ B' d' w', (Builtin.append_ #[22, 22] ty #[.slice B nb d, .slice (some ⟨vb, 0, none⟩) 1 1]).run Try.prog w = .ok (.slice B' (nb + 1) d') w' ∧ Two w' base A c na la B' d' (nb + 1) (lb ++ [x]) ∧ Kept (blk B d) w w' := by
  obtain ⟨B', d', w', h1, h2, h3, h4⟩ := append_gs ty h.b hn vb x hx
  refine ⟨B', d', w', h1, ⟨h.a.kept h3 fun k hk hk' => h.apart k hk hk', h2, fun k hk hk' => ?_, h.ha, fun k hk => ?_⟩, h3⟩
  · rcases h4 k hk' with e | e
    · exact h.apart k hk e
    · have := h.a.lt hk; omega
  · rcases h4 k hk with e | e
    · exact h.hb k e
    · omega

/-- The first j numbers that f tells. -/
abbrev row (f : Nat → Int) (j : Nat) : List Int := (List.range j).map f
theorem row_zero (f : Nat → Int) : row f 0 = [] := rfl
theorem row_succ {f : Nat → Int} {j : Nat} (hx : f j = x) : row f j ++ [x] = row f (j + 1) := by
  unfold row
  rw [List.range_succ, List.map_append, ← hx]; rfl
theorem row_get {f : Nat → Int} {j i : Nat} (hi : i < j) : (row f j).getD i 0 = f i := by
  unfold row
  simp [List.getD_eq_getElem?_getD, hi]
/-- A number of a slice of the call's own. -/
theorem Gs.cell {f : Nat → Int} {n : Nat} (h : Gs w A n c (row f n)) (hn : 0 < n) : ∃ b o, A = some ⟨b, o, none⟩ ∧ (∀ j, j < n → w.cell? ⟨b, o + j, none⟩ = some (.int .i64 (f j))) := by
  obtain ⟨b, o, g, rfl, hr, hg⟩ := h.row (by have := h.le; omega)
  refine ⟨b, o, rfl, fun j hj => ?_⟩
  have := h.le
  rw [hr.cell (by omega), hg j hj, row_get hj]

/-- Four numbers of the call's own, that may be written. -/
def Nums (w : World) (b o : Nat) (H : Nat → Int) : Prop := ∃ n f, Row w b n f ∧ o + 4 ≤ n ∧ ∀ j, j < 4 → f (o + j) = .int .i64 (H j)
variable {b o q : Nat} {H : Nat → Int}
theorem Nums.of_gs {f : Nat → Int} (h : Gs w A 4 c (row f 4)) : ∃ b o, A = some ⟨b, o, none⟩ ∧ Nums w b o f ∧ blk A c b := by
  have hle := h.le
  obtain ⟨b, o, g, rfl, hr, hg⟩ := h.row (by omega)
  exact ⟨b, o, rfl, ⟨_, g, hr, by omega, fun j hj => by rw [hg j hj, row_get hj]⟩, blk_some.2 ⟨by omega, rfl⟩⟩
theorem Nums.has (h : Nums w b o H) : Has w (some ⟨b, o, none⟩) 4 H := fun _ => by
  obtain ⟨n, f, hr, hn, hf⟩ := h
  exact ⟨b, o, rfl, fun j hj => by rw [hr.cell (by omega), hf j hj]⟩
theorem Nums.cell (h : Nums w b o H) {j : Nat} (hj : j < 4) : w.cell? ⟨b, o + j, none⟩ = some (.int .i64 (H j)) := by
  obtain ⟨n, f, hr, hn, hf⟩ := h
  rw [hr.cell (by omega), hf j hj]
theorem Nums.frozen (h : Nums w b o H) (i : Nat) : w.frozen? ⟨b, i, none⟩ = false := by
  obtain ⟨n, f, hr, hn, hf⟩ := h
  exact hr.frozen i
theorem Nums.lt (h : Nums w b o H) : b < w.heap.size := by
  obtain ⟨n, f, hr, hn, hf⟩ := h
  exact hr.lt
theorem Nums.kept (h : Nums w b o H) (hk : Kept F w w') (hF : ¬ F b) : Nums w' b o H := by
  obtain ⟨n, f, hr, hn, hf⟩ := h
  exact ⟨n, f, hr.kept hk hF, hn, hf⟩
theorem Nums.other (h : Nums w b o H) {p : Addr} (hp : b ≠ p.block) (v : Value) : Nums (w.setCell p v) b o H := by
  obtain ⟨n, f, hr, hn, hf⟩ := h
  exact ⟨n, f, hr.other hp v, hn, hf⟩
/-- One less at place q. -/
def less (H : Nat → Int) (q : Nat) (j : Nat) : Int := if j = q then H j - 1 else H j
theorem less_same (H : Nat → Int) (q : Nat) : less H q q = H q - 1 := if_pos rfl
theorem less_other {j : Nat} (h : j ≠ q) : less H q j = H j := if_neg h
theorem Nums.less (h : Nums w b o H) (q : Nat) : Nums (w.setCell ⟨b, o + q, none⟩ (.int .i64 (H q - 1))) b o (less H q) := by
  obtain ⟨n, f, hr, hn, hf⟩ := h
  refine ⟨n, _, hr.set (o + q) _, hn, fun j hj => ?_⟩
  by_cases e : j = q
  · subst e; rw [if_pos rfl, less_same]
  · rw [if_neg (by omega), less_other e, hf j hj]

/-! ### What is left -/
/-- What the first m but k have together. -/
def lft (k : Nat) (F I : Nat → Int) : Nat → Int
  | 0 => 0
  | m + 1 => if m = k then lft k F I m else lft k F I m + F m + I m
variable {k m : Nat} {I J G : Nat → Int}
theorem lft_in (h : m ≠ k) : lft k I J (m + 1) = lft k I J m + I m + J m := if_neg h
theorem lft_out (h : m = k) : lft k I J (m + 1) = lft k I J m := if_pos h
theorem lft_less1 (hq : q ≠ k) : ∀ m, lft k (less I q) J m = lft k I J m - if q < m then 1 else 0 := by
  intro m
  induction m with
  | zero => simp [lft]
  | succ m ih =>
    by_cases e : m = k
    · rw [lft_out e, lft_out e, ih]
      by_cases h : q < m
      · rw [if_pos h, if_pos (by omega)]
      · rw [if_neg h, if_neg (by omega)]
    · rw [lft_in e, lft_in e, ih]
      by_cases h : q = m
      · subst h
        rw [less_same, if_neg (by omega), if_pos (by omega)]; omega
      · rw [less_other (Ne.symm h)]
        by_cases h2 : q < m
        · rw [if_pos h2, if_pos (by omega)]; omega
        · rw [if_neg h2, if_neg (by omega)]; omega
theorem lft_less2 (hq : q ≠ k) : ∀ m, lft k I (less J q) m = lft k I J m - if q < m then 1 else 0 := by
  intro m
  induction m with
  | zero => simp [lft]
  | succ m ih =>
    by_cases e : m = k
    · rw [lft_out e, lft_out e, ih]
      by_cases h : q < m
      · rw [if_pos h, if_pos (by omega)]
      · rw [if_neg h, if_neg (by omega)]
    · rw [lft_in e, lft_in e, ih]
      by_cases h : q = m
      · subst h
        rw [less_same, if_neg (by omega), if_pos (by omega)]; omega
      · rw [less_other (Ne.symm h)]
        by_cases h2 : q < m
        · rw [if_pos h2, if_pos (by omega)]; omega
        · rw [if_neg h2, if_neg (by omega)]; omega
theorem lft_zero (h : ∀ j, j < m → j ≠ k → I j = 0 ∧ J j = 0) : lft k I J m = 0 := by
  induction m with
  | zero => rfl
  | succ m ih =>
    have ih := ih fun j hj => h j (by omega)
    by_cases e : m = k
    · rw [lft_out e]; exact ih
    · have := h m (by omega) e
      rw [lft_in e]; omega
theorem lft_le {c : Int} (h : ∀ j, j < m → 0 ≤ I j ∧ I j ≤ c ∧ 0 ≤ J j ∧ J j ≤ c) : 0 ≤ lft k I J m ∧ lft k I J m ≤ (m : Int) * (2 * c) := by
  induction m with
  | zero => simp [lft]
  | succ m ih =>
    have ih := ih fun j hj => h j (by omega)
    have h1 := h m (by omega)
    have e2 : ((m + 1 : Nat) : Int) * (2 * c) = (m : Int) * (2 * c) + 2 * c := by rw [Int.natCast_succ, Int.add_mul, Int.one_mul]
    by_cases e : m = k
    · rw [lft_out e, e2]; omega
    · rw [lft_in e, e2]; omega
end
end Go.Proofs.Ytnecmjanmkmjpaa.GvL
