/-
  The program's frames and the document's side by side.
-/
import Derived.Test.YtcebjeemganhdaaArSame
namespace Go.Proofs.Ytcebjeemganhdaa.ArTwo
open Go.ChangeShapes Go.WideShapes Go.ChangeAt Go.RowKit
open Go.Proofs.Ytcebjeemganhdaa.Mem Go.Proofs.Ytcebjeemganhdaa.Blk Go.Proofs.Ytcebjeemganhdaa.Cells Go.Proofs.Ytcebjeemganhdaa.ArM Go.Proofs.Ytcebjeemganhdaa.ArC Go.Proofs.Ytcebjeemganhdaa.ArD Go.Proofs.Ytcebjeemganhdaa.ArRefC Go.Proofs.Ytcebjeemganhdaa.ArSame Go.Proofs.Ytcebjeemganhdaa.Stages

/-- Both arenas are a; their blocks are apart, and lie in X. -/
structure Two (X : Nat → Prop) (d m : Nat) (w : World) (a : Ar) : Prop where
  ex : ∃ G H, ArAt w G d a ∧ RAt w H m a ∧ (∀ k, G k → H k → False) ∧ (∀ k, G k → X k ∧ k < w.heap.size) ∧ (∀ k, H k → X k ∧ k < w.heap.size)
theorem RAt.mono {w : World} {G H : Nat → Prop} {m : Nat} {a : Ar} (h : RAt w G m a) (hH : ∀ k, k < w.heap.size → G k → H k) : RAt w H m a := by
  obtain ⟨vL, vB, A, c, S, h'⟩ := h.mem
  exact ⟨h.good, vL, vB, A, c, S, h'.hd, os_mono h'.fr fun k hk x => ⟨hH k hk x.1, x.2⟩, os_mono h'.bo fun k hk x => ⟨hH k hk x.1, x.2⟩, h'.sb, h'.id, h'.cc, fun x e => ⟨hH _ (h'.lt x e) (h'.off x e).1, (h'.off x e).2⟩, hH _ h'.hd.lt h'.inG, h'.lt⟩
section
variable {w w' w1 : World} {X Y F : Nat → Prop} {d m : Nat} {a a' : Ar}
theorem Two.kept (h : Two X d m w a) (hk : Kept F w w') (hF : ∀ k, X k → ¬ F k) : Two X d m w' a := by
  obtain ⟨G, H, h1, h2, h3, h4, h5⟩ := h.ex
  exact ⟨G, H, h1.kept hk fun k x => hF k (h4 k x).1, h2.kept hk fun k x => hF k (h5 k x).1, h3, fun k x => ⟨(h4 k x).1, Nat.lt_of_lt_of_le (h4 k x).2 hk.size⟩, fun k x => ⟨(h5 k x).1, Nat.lt_of_lt_of_le (h5 k x).2 hk.size⟩⟩
theorem Two.grow (h : Two X d m w a) (hk : Grow w w') : Two X d m w' a := h.kept hk fun _ _ x => x
theorem Two.mono (h : Two X d m w a) (hY : ∀ k, k < w.heap.size → X k → Y k) : Two Y d m w a := by
  obtain ⟨G, H, h1, h2, h3, h4, h5⟩ := h.ex
  exact ⟨G, H, h1, h2, h3, fun k x => ⟨hY k (h4 k x).2 (h4 k x).1, (h4 k x).2⟩, fun k x => ⟨hY k (h5 k x).2 (h5 k x).1, (h5 k x).2⟩⟩
/-- One call of each, the same of both. -/
theorem Two.pair {P : Program} {f1 f2 : FuncId} {args1 args2 : Array Value} {c : Value} (h : Two X d m w a) (hX : ∀ k, w.heap.size ≤ k → X k)
    (h1 : ∀ G, ArAt w G d a → (∀ k, w.heap.size ≤ k → G k) → Calls P f1 args1 w (APost G d w c a'))
    (h2 : ∀ w1 H, Kept X w w1 → RAt w1 H m a → (∀ k, w1.heap.size ≤ k → H k) → Calls P f2 args2 w1 (RPost H m w1 c a')) :
    Calls P f1 args1 w fun e w1 => e = .returned c ∧ Kept X w w1 ∧ Calls P f2 args2 w1 fun e w2 => e = .returned c ∧ Kept X w1 w2 ∧ Two X d m w2 a' := by
  obtain ⟨G, H, ha, hr, hd, hG, hH⟩ := h.ex
  refine (h1 (fun k => G k ∨ w.heap.size ≤ k) (ha.mono fun k _ x => .inl x) fun k hk => .inr hk).mono fun e w1 ⟨he, ha1, hk1⟩ => ?_
  have hkX : Kept X w w1 := hk1.mono fun k _ x => x.elim (fun x => (hG k x).1) (hX k)
  refine ⟨he, hkX, ?_⟩
  have hr1 : RAt w1 H m a := hr.kept hk1 fun k x y => by
    rcases y with y | y
    · exact hd k y x
    · have := (hH k x).2; omega
  refine (h2 w1 (fun k => H k ∨ w1.heap.size ≤ k) hkX (RAt.mono hr1 fun k _ x => .inl x) fun k hk => .inr hk).mono fun e w2 ⟨he2, hr2, hk2⟩ => ?_
  have hk2X : Kept X w1 w2 := hk2.mono fun k _ x => x.elim (fun x => (hH k x).1) (fun x => hX k (Nat.le_trans hk1.size x))
  refine ⟨he2, hk2X, ⟨fun k => (G k ∨ w.heap.size ≤ k) ∧ k < w1.heap.size, fun k => (H k ∨ w1.heap.size ≤ k) ∧ k < w2.heap.size, ?_, RAt.mono hr2 fun k hk x => ⟨x, hk⟩, ?_, ?_, ?_⟩⟩
  · refine (ha1.mono (H := fun k => (G k ∨ w.heap.size ≤ k) ∧ k < w1.heap.size) fun k hk x => ⟨x, hk⟩).kept hk2 fun k x y => ?_
    rcases y with y | y
    · rcases x.1 with x | x
      · exact hd k x y
      · have := (hH k y).2; omega
    · have := x.2; omega
  · rintro k ⟨x, hx⟩ ⟨y, _⟩
    rcases y with y | y
    · rcases x with x | x
      · exact hd k x y
      · have := (hH k y).2; omega
    · omega
  · rintro k ⟨x, hx⟩
    exact ⟨x.elim (fun x => (hG k x).1) (hX k), Nat.lt_of_lt_of_le hx hk2.size⟩
  · rintro k ⟨x, hx⟩
    exact ⟨x.elim (fun x => (hH k x).1) (fun x => hX k (Nat.le_trans hk1.size x)), hx⟩
theorem Two.same (h : Two X d m w a) : Calls Try.prog 29 #[.pointer (some ⟨d, 0, none⟩), .pointer (some ⟨m, 0, none⟩)] w fun e w' => e = .returned (.bool true) ∧ Grow w w' := by
  obtain ⟨G, H, h1, h2, _⟩ := h.ex
  exact same_true h1 h2
theorem Two.finds (h : Two X d m w a) (p : Int) : (Calls Try.prog 27 #[.pointer (some ⟨d, 0, none⟩), .int .i64 p] w fun e w' => e = .returned (.int .i64 (a.find p)) ∧ w = w') ∧ (Calls Try.prog 28 #[.pointer (some ⟨m, 0, none⟩), .int .i64 p] w fun e w' => e = .returned (.int .i64 (a.find p)) ∧ w = w') := by
  obtain ⟨G, H, h1, h2, _⟩ := h.ex
  exact ⟨find_any h1 p, rfind_any h2 p⟩
theorem Two.lt (h : Two X d m w a) : d < w.heap.size ∧ m < w.heap.size := by
  obtain ⟨G, H, h1, h2, _⟩ := h.ex
  exact ⟨h1.lt.1, h2.lt.1⟩
end
#print axioms Two.pair
end Go.Proofs.Ytcebjeemganhdaa.ArTwo
