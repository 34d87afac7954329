/-
  Frames (api.Frame, five cells each): a slice of them that is read ('Fr'), a row of them of the call's own that may be written ('Fw'), append of one. No function is named here.
-/
import Derived.Test.YtabmefffeafifaaOrow
import Derived.Test.YtabmefffeafifaaGs
namespace Go.Proofs.Ytabmefffeafifaa.FrmC
open Go.ChangeShapes Go.WideShapes Go.ChangeAt Go.RowKit
open Go.Proofs.Ytabmefffeafifaa.Mem Go.Proofs.Ytabmefffeafifaa.Blk Go.Proofs.Ytabmefffeafifaa.Cells Go.Proofs.Ytabmefffeafifaa.Orow Go.Proofs.Ytabmefffeafifaa.Stages

/-- A frame. -/
structure Fm where
  st : Int
  pg : Int
  pins : Int
  sh : Int
  dirty : Bool
abbrev Fm.cells (f : Fm) : List Value := [.int .i64 f.st, .int .i64 f.pg, .int .i64 f.pins, .int .i64 f.sh, .bool f.dirty]
abbrev Fm.val (f : Fm) : Value := .agg #[.int .i64 f.st, .int .i64 f.pg, .int .i64 f.pins, .int .i64 f.sh, .bool f.dirty]
/-- The slice '.slice A n _' holds the frames f 0, f 1 .. -/
def Fr (w : World) (A : Option Addr) (n : Nat) (f : Nat → Fm) : Prop := 0 < n → ∃ b o, A = some ⟨b, o, none⟩ ∧ ∀ j, j < n →
  w.cell? ⟨b, o + j * 5, none⟩ = some (.int .i64 (f j).st) ∧ w.cell? ⟨b, o + j * 5 + 1, none⟩ = some (.int .i64 (f j).pg) ∧ w.cell? ⟨b, o + j * 5 + 2, none⟩ = some (.int .i64 (f j).pins) ∧
  w.cell? ⟨b, o + j * 5 + 3, none⟩ = some (.int .i64 (f j).sh) ∧ w.cell? ⟨b, o + j * 5 + 4, none⟩ = some (.bool (f j).dirty)
/-- The cells of a row of frames. -/
def ff (f : Nat → Fm) (j : Nat) : Value := (f (j / 5)).cells.getD (j % 5) (.int .i64 0)
theorem ff_at (f : Nat → Fm) (i j : Nat) (hj : j < 5) : ff f (i * 5 + j) = (f i).cells.getD j (.int .i64 0) := by
  unfold ff
  rw [show (i * 5 + j) / 5 = i by omega, show (i * 5 + j) % 5 = j by omega]
/-- Block g: room for cap frames, n there are, f. -/
abbrev Fw (w : World) (g cap n : Nat) (f : Nat → Fm) : Prop := OR w g 25 5 cap n (ff f)
/-- Another frame at place q. -/
def upd (f : Nat → Fm) (q : Nat) (x : Fm) (j : Nat) : Fm := if j = q then x else f j
/-- A row of frames of the call's own: nil, or a block that is of G. -/
abbrev Fo (w : World) (G : Nat → Prop) (v : Value) (n : Nat) (f : Nat → Fm) : Prop := OS w G v 25 5 n (ff f)

section
variable {w w' : World} {A : Option Addr} {n m c g cap q : Nat} {f f' : Nat → Fm} {F G : Nat → Prop} {v : Value} {x : Fm}
theorem upd_at : upd f q x q = x := if_pos rfl
theorem upd_other {j : Nat} (h : j ≠ q) : upd f q x j = f j := if_neg h
theorem Fr.kept (h : Fr w A n f) (hk : Kept F w w') (hF : ∀ a, A = some a → ¬ F a.block) : Fr w' A n f := fun hn => by
  obtain ⟨b, o, rfl, hc⟩ := h hn
  have hb := hF _ rfl
  refine ⟨b, o, rfl, fun j hj => ?_⟩
  obtain ⟨h0, h1, h2, h3, h4⟩ := hc j hj
  exact ⟨hk.cellN h0 hb, hk.cellN h1 hb, hk.cellN h2 hb, hk.cellN h3 hb, hk.cellN h4 hb⟩
theorem Fr.grow (h : Fr w A n f) (hg : Grow w w') : Fr w' A n f := h.kept hg fun _ _ => id
theorem Fr.take (h : Fr w A n f) (hm : m ≤ n) : Fr w A m f := fun h0 => by
  obtain ⟨b, o, rfl, hc⟩ := h (by omega)
  exact ⟨b, o, rfl, fun j hj => hc j (by omega)⟩
theorem Fr.nil (w : World) (A : Option Addr) (f : Nat → Fm) : Fr w A 0 f := fun h => absurd h (Nat.lt_irrefl 0)
/-- Cells one behind the other, as frames. -/
theorem Fr.of_cells {b o : Nat} (h : ∀ j, j < n → ∀ i u, (f j).cells[i]? = some u → w.cell? ⟨b, o + (j * 5 + i), none⟩ = some u) : Fr w (some ⟨b, o, none⟩) n f := fun _ =>
  ⟨b, o, rfl, fun j hj => ⟨h j hj 0 _ rfl, by rw [Nat.add_assoc]; exact h j hj 1 _ rfl, by rw [Nat.add_assoc]; exact h j hj 2 _ rfl, by rw [Nat.add_assoc]; exact h j hj 3 _ rfl, by rw [Nat.add_assoc]; exact h j hj 4 _ rfl⟩⟩
theorem Fw.at_ (h : Fw w g cap n f) {j i : Nat} {u : Value} (hj : j < n) (hi : (f j).cells[i]? = some u) : w.cell? ⟨g, j * 5 + i, none⟩ = some u := by
  have h5 : i < 5 := by
    have := (List.getElem?_eq_some_iff.1 hi).1
    simpa using this
  rw [OR.cell h (by omega), ff_at f j i h5, List.getD_eq_getElem?_getD, hi]
  rfl
theorem Fw.fr (h : Fw w g cap n f) : Fr w (some ⟨g, 0, none⟩) n f := Fr.of_cells fun j hj i u hi => by rw [Nat.zero_add]; exact h.at_ hj hi
theorem Fw.same (h : Fw w g cap n f) (e : ∀ j, j < n → f' j = f j) : Fw w g cap n f' := OR.congr h fun i hi => by
  unfold ff
  rw [e (i / 5) (by omega)]
/-- 'l[q].Dirty = b'. -/
theorem Fw.setDirty (h : Fw w g cap n f) (q : Nat) (b : Bool) : Fw (w.setCell ⟨g, q * 5 + 4, none⟩ (.bool b)) g cap n (upd f q { f q with dirty := b }) :=
  OR.congr (OR.set h (q * 5 + 4) (.bool b)) fun i _ => by
    show (if i = q * 5 + 4 then Value.bool b else ff f i) = ff _ i
    by_cases e : i = q * 5 + 4
    · subst e
      rw [if_pos rfl, ff_at _ q 4 (by omega), upd_at]
      rfl
    · rw [if_neg e]
      unfold ff
      by_cases e2 : i / 5 = q
      · rw [e2, upd_at]
        have : i % 5 < 4 := by omega
        generalize i % 5 = r at *
        match r, this with
        | 0, _ => rfl
        | 1, _ => rfl
        | 2, _ => rfl
        | 3, _ => rfl
      · rw [upd_other e2]
theorem Fo.nil (w : World) (G : Nat → Prop) (f : Nat → Fm) : Fo w G (.slice none 0 0) 0 f := .inl ⟨rfl, rfl⟩
theorem Fo.fr (h : Fo w G v n f) : ∃ A c, v = .slice A n c ∧ Fr w A n f := by
  rcases h with ⟨rfl, rfl⟩ | ⟨g, cap, rfl, h, _⟩
  · exact ⟨_, _, rfl, Fr.nil _ _ _⟩
  · exact ⟨_, _, rfl, Fw.fr h⟩
theorem fr_inforows : (Try.prog.info? 25).map (fun i => (i.zero, i.size, i.bytes)) = some (some (.agg #[.int .i64 0, .int .i64 0, .int .i64 0, .int .i64 0, .bool false]), 5, 40) := by kernel_rfl
set_option maxRecDepth 10000 in
/-- 'append(l, x)', x a frame that lies in a block of its own. -/
theorem Fo.push (ty : TypeId) (h : Fo w G v n f) (hn : n ≤ 100000) (vb c : Nat) (hx : ∀ j u, x.cells[j]? = some u → w.cell? ⟨vb, j, none⟩ = some u) :
    ∃ g cap w', (Builtin.append_ #[22, 22] ty #[v, .slice (some ⟨vb, 0, none⟩) 1 c]).run Try.prog w = .ok (.slice (some ⟨g, 0, none⟩) (n + 1) cap) w' ∧ Fw w' g cap (n + 1) (upd f n x) ∧ Kept (fun k => v.ownBlock = some k) w w' ∧ (v.ownBlock = some g ∨ g = w.heap.size) := by
  obtain ⟨i, hi, hz, hsz, hby⟩ := info_parts fr_inforows
  obtain ⟨g, cap, w', hr, ho, hk, hg⟩ := append_or (P := Try.prog) 22 ty i _ 40 Try.underlying22 hi hz hsz hby rfl (by decide) h hn (by decide) vb c (u := fun j => x.cells.getD j (.int .i64 0)) (fun j hj => hx j _ (by
      have : j < x.cells.length := hj
      rw [List.getD_eq_getElem?_getD, List.getElem?_eq_getElem this]; rfl)) (fun j hj => by
      match j, hj with
      | 0, _ => rfl
      | 1, _ => rfl
      | 2, _ => rfl
      | 3, _ => rfl
      | 4, _ => rfl)
  refine ⟨g, cap, w', hr, OR.congr ho fun j hj => ?_, hk, hg⟩
  unfold joined ff
  by_cases e : j < n * 5
  · rw [if_pos e, upd_other (by omega)]
  · rw [if_neg e, show j / 5 = n by omega, upd_at, show j - n * 5 = j % 5 by omega]
end
end Go.Proofs.Ytabmefffeafifaa.FrmC
