/-
  Rows of six numbers, told by a slice of their slices ('Gr': the outer one nil or of the call's own); one row more. No function is named here.
-/
import Derived.Test.YtjdlpknflhgkfaaRows
import Derived.Test.YtjdlpknflhgkfaaOrow
namespace Go.Proofs.Ytjdlpknflhgkfaa.GrC
open Go.ChangeShapes Go.WideShapes Go.ChangeAt Go.RowKit
open Go.Proofs.Ytjdlpknflhgkfaa.Mem Go.Proofs.Ytjdlpknflhgkfaa.Blk Go.Proofs.Ytjdlpknflhgkfaa.Cells Go.Proofs.Ytjdlpknflhgkfaa.Orow

theorem infoS : (Try.prog.info? 48).map (fun i => (i.zero, i.size, i.bytes)) = some (some (.slice none 0 0), 1, 24) := by kernel_rfl
def hcell (f : Nat → Int) (j : Nat) : Value := .int .i64 (f j)
def scell (q cp : Nat → Nat) (i : Nat) : Value := .slice (some ⟨q i, 0, none⟩) 6 (cp i)
structure Gr (w : World) (G : Nat → Prop) (v : Value) (n : Nat) (q cp : Nat → Nat) (H : Nat → Nat → Int) : Prop where
  out : OS w G v 48 1 n (scell q cp)
  row : ∀ i, i < n → OR w (q i) 3 1 (cp i) 6 (hcell (H i))
  inG : ∀ i, i < n → G (q i)
  off : ∀ i, i < n → v.ownBlock ≠ some (q i)
  ne : ∀ i j, i < n → j < n → q i = q j → i = j
section
variable {w w' : World} {G F X : Nat → Prop} {v : Value} {n d b cb c r g cap vb : Nat} {q cp : Nat → Nat} {H : Nat → Nat → Int} {f : Nat → Int}
theorem os_mono {t : TypeId} {s : Nat} {f : Nat → Value} (h : OS w G v t s n f) (hX : ∀ k, k < w.heap.size → G k → X k) : OS w X v t s n f := by
  rcases h with h | ⟨g, cap, e, ho, hg⟩
  · exact .inl h
  · exact .inr ⟨g, cap, e, ho, hX _ ho.lt hg⟩
theorem os_in {t : TypeId} {s : Nat} {f : Nat → Value} (h : OS w G v t s n f) {k : Nat} (hk : v.ownBlock = some k) : G k ∧ k < w.heap.size := h.own.2 k hk
theorem Gr.kept (h : Gr w G v n q cp H) (hk : Kept F w w') (hF : ∀ k, G k → ¬ F k) : Gr w' G v n q cp H :=
  ⟨h.out.kept hk hF, fun i hi => (h.row i hi).kept hk (hF _ (h.inG i hi)), h.inG, h.off, h.ne⟩
theorem Gr.keep (h : Gr w G v n q cp H) (hk : Kept F w w') (h1 : ∀ k, v.ownBlock = some k → ¬ F k) (h2 : ∀ i, i < n → ¬ F (q i)) : Gr w' G v n q cp H := by
  refine ⟨?_, fun i hi => (h.row i hi).kept hk (h2 i hi), h.inG, h.off, h.ne⟩
  rcases h.out with x | ⟨g, cap, rfl, ho, hg⟩
  · exact .inl x
  · exact .inr ⟨g, cap, rfl, ho.kept hk (h1 g rfl), hg⟩
theorem Gr.mono (h : Gr w G v n q cp H) (hX : ∀ k, k < w.heap.size → G k → X k) : Gr w X v n q cp H :=
  ⟨os_mono h.out hX, h.row, fun i hi => hX _ (h.row i hi).lt (h.inG i hi), h.off, h.ne⟩
theorem Gr.get (h : Gr w G v n q cp H) {i : Nat} (hi : i < n) : ∃ g cap, v = .slice (some ⟨g, 0, none⟩) n cap ∧ w.cell? ⟨g, i, none⟩ = some (.slice (some ⟨q i, 0, none⟩) 6 (cp i)) ∧ OR w (q i) 3 1 (cp i) 6 (hcell (H i)) := by
  obtain ⟨g, cap, rfl, ho, _⟩ := h.out.form (by omega)
  exact ⟨g, cap, rfl, ho.cell (by omega), h.row i hi⟩
theorem hcell_get (h : OR w b 3 1 c 6 (hcell f)) {j : Nat} (hj : j < 6) : w.cell? ⟨b, j, none⟩ = some (.int .i64 (f j)) := h.cell (by omega)
def up (q : Nat → Nat) (n r : Nat) (i : Nat) : Nat := if i = n then r else q i
theorem up_same : up q n r n = r := if_pos rfl
theorem up_other {i : Nat} (h : i < n) : up q n r i = q i := if_neg (by omega)
/-- The slice of a row that is to come. -/
def rcell (r c : Nat) (_ : Nat) : Value := .slice (some ⟨r, 0, none⟩) 6 c
theorem Gr.app (h : Gr w G v n q cp H) (hn : n ≤ 1000) (hx : w.cell? ⟨vb, 0, none⟩ = some (.slice (some ⟨r, 0, none⟩) 6 c)) :
    ∃ g cap w', (∀ ty, (Builtin.append_ #[37, 37] ty #[v, .slice (some ⟨vb, 0, none⟩) 1 1]).run Try.prog w = .ok (.slice (some ⟨g, 0, none⟩) (n + 1) cap) w') ∧ OR w' g 48 1 cap (n + 1) (joined (scell q cp) (rcell r c) (n * 1)) ∧ Kept (fun k => v.ownBlock = some k) w w' ∧ (v.ownBlock = some g ∨ g = w.heap.size) := by
  obtain ⟨i, hi, hz, hs, hb⟩ := info_parts infoS
  obtain ⟨g, cap, w', h1, h2, h3, h4⟩ := append_or (P := Try.prog) 37 3 i _ 24 Try.underlying37 hi hz hs hb rfl (by omega) h.out (by omega) (by omega) vb 1 (u := rcell r c) (fun j hj => by
    have : j = 0 := by omega
    subst this
    exact hx) (fun j hj => rfl)
  exact ⟨g, cap, w', fun ty => h1, h2, h3, h4⟩
theorem Gr.push (h : Gr w G v n q cp H) (hr : OR w r 3 1 c 6 (hcell (H n))) (hG : G r) (hnr : ∀ i, i < n → q i ≠ r) (hvr : v.ownBlock ≠ some r)
    (ho : OR w' g 48 1 cap (n + 1) (joined (scell q cp) (rcell r c) (n * 1))) (hk : Kept (fun k => v.ownBlock = some k) w w') (hg : v.ownBlock = some g ∨ g = w.heap.size) (hnew : ∀ k, w.heap.size ≤ k → G k) :
    Gr w' G (.slice (some ⟨g, 0, none⟩) (n + 1) cap) (n + 1) (up q n r) (up cp n c) H := by
  have hgG : G g := by
    rcases hg with e | e
    · exact (os_in h.out e).1
    · exact hnew _ (by omega)
  have hgr : g ≠ r := by
    rcases hg with e | e
    · rintro rfl; exact hvr e
    · have := hr.lt; omega
  refine ⟨.inr ⟨g, cap, rfl, ho.congr fun i hi => ?_, hgG⟩, fun i hi => ?_, fun i hi => ?_, fun i hi => ?_, fun i j hi hj e => ?_⟩
  · unfold joined
    by_cases e : i < n
    · rw [if_pos (by omega)]
      unfold scell
      rw [up_other e, up_other e]
    · have : i = n := by omega
      subst this
      rw [if_neg (by omega)]
      unfold scell
      rw [up_same, up_same]; rfl
  · by_cases e : i < n
    · rw [up_other e, up_other e]
      exact (h.row i e).kept hk (h.off i e)
    · have : i = n := by omega
      subst this
      rw [up_same, up_same]
      exact hr.kept hk hvr
  · by_cases e : i < n
    · rw [up_other e]; exact h.inG i e
    · have : i = n := by omega
      subst this
      rw [up_same]; exact hG
  · show some g ≠ some (up q n r i)
    rintro e2
    injection e2 with e2
    by_cases e : i < n
    · rw [up_other e] at e2
      rcases hg with x | x
      · exact h.off i e (e2 ▸ x)
      · have := (h.row i e).lt; omega
    · have : i = n := by omega
      subst this
      rw [up_same] at e2
      exact hgr e2
  · by_cases e1 : i < n
    · by_cases e2 : j < n
      · rw [up_other e1, up_other e2] at e
        exact h.ne i j e1 e2 e
      · have : j = n := by omega
        subst this
        rw [up_other e1, up_same] at e
        exact absurd e (hnr i e1)
    · have : i = n := by omega
      subst this
      by_cases e2 : j < i
      · rw [up_other e2, up_same] at e
        exact absurd e.symm (hnr j e2)
      · omega
theorem gr_nil (w : World) (G : Nat → Prop) (q cp : Nat → Nat) (H : Nat → Nat → Int) : Gr w G (.slice none 0 0) 0 q cp H :=
  ⟨.inl ⟨rfl, rfl⟩, fun i hi => absurd hi (Nat.not_lt_zero i), fun i hi => absurd hi (Nat.not_lt_zero i), fun i hi => absurd hi (Nat.not_lt_zero i), fun i _ hi => absurd hi (Nat.not_lt_zero i)⟩
theorem six_lit (w : World) : OR (w.alloc (.cells #[.int .i64 (-1), .int .i64 (-1), .int .i64 (-1), .int .i64 (-1), .int .i64 (-1), .int .i64 (-1)] 3)) w.heap.size 3 1 6 6 (hcell fun _ => -1) := by
  refine ⟨_, heap_alloc_new w _, rfl, Nat.le_refl _, by unfold maxLen; omega, fun i hi => ?_⟩
  have : i = 0 ∨ i = 1 ∨ i = 2 ∨ i = 3 ∨ i = 4 ∨ i = 5 := by omega
  rcases this with rfl | rfl | rfl | rfl | rfl | rfl <;> rfl
/-- Six numbers, as a list. -/
def six (f : Nat → Int) : List Int := (List.range 6).map f
theorem six_get (f : Nat → Int) {j : Nat} (hj : j < 6) : (six f).getD j 0 = f j := by
  unfold six
  simp [List.getD_eq_getElem?_getD, hj]
theorem six_sl (h : OR w b 3 1 c 6 (hcell f)) : Sl w w.heap.size .i64 (some ⟨b, 0, none⟩) 6 (six f) :=
  ⟨by unfold six; simp, fun _ => ⟨b, 0, rfl, h.lt, fun j hj => by rw [Nat.zero_add, hcell_get h hj, six_get f hj]⟩⟩
end
end Go.Proofs.Ytjdlpknflhgkfaa.GrC
