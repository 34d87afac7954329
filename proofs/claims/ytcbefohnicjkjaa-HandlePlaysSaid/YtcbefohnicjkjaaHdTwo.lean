/-
  The program's handles and the document's side by side.
-/
import Derived.Test.YtcbefohnicjkjaaHdRefNew
import Derived.Test.YtcbefohnicjkjaaInts
namespace Go.Proofs.Ytcbefohnicjkjaa.HdW
open Go.ChangeShapes Go.WideShapes Go.ChangeAt Go.RowKit
open Go.Proofs.Ytcbefohnicjkjaa.Mem Go.Proofs.Ytcbefohnicjkjaa.Blk Go.Proofs.Ytcbefohnicjkjaa.Cells Go.Proofs.Ytcbefohnicjkjaa.Orow Go.Proofs.Ytcbefohnicjkjaa.HdM Go.Proofs.Ytcbefohnicjkjaa.HdC Go.Proofs.Ytcbefohnicjkjaa.HdO Go.Proofs.Ytcbefohnicjkjaa.HdR Go.Proofs.Ytcbefohnicjkjaa.Stages

/-- Both stand at a; their blocks are apart, and lie in X. -/
structure Two (X : Nat → Prop) (d m : Nat) (w : World) (a : Hs) : Prop where
  ex : ∃ G H, HAt w G d a ∧ HAt w H m a ∧ (∀ k, G k → H k → False) ∧ (∀ k, G k → X k ∧ k < w.heap.size) ∧ (∀ k, H k → X k ∧ k < w.heap.size)
section
variable {w w' w1 : World} {X Y F : Nat → Prop} {d m : Nat} {a a' : Hs}
theorem Two.kept (h : Two X d m w a) (hk : Kept F w w') (hF : ∀ k, X k → ¬ F k) : Two X d m w' a := by
  obtain ⟨G, H, h1, h2, h3, h4, h5⟩ := h.ex
  exact ⟨G, H, h1.kept hk fun k x => hF k (h4 k x).1, h2.kept hk fun k x => hF k (h5 k x).1, h3, fun k x => ⟨(h4 k x).1, Nat.lt_of_lt_of_le (h4 k x).2 hk.size⟩, fun k x => ⟨(h5 k x).1, Nat.lt_of_lt_of_le (h5 k x).2 hk.size⟩⟩
theorem Two.grow (h : Two X d m w a) (hk : Grow w w') : Two X d m w' a := h.kept hk fun _ _ x => x
theorem Two.mono (h : Two X d m w a) (hY : ∀ k, k < w.heap.size → X k → Y k) : Two Y d m w a := by
  obtain ⟨G, H, h1, h2, h3, h4, h5⟩ := h.ex
  exact ⟨G, H, h1, h2, h3, fun k x => ⟨hY k (h4 k x).2 (h4 k x).1, (h4 k x).2⟩, fun k x => ⟨hY k (h5 k x).2 (h5 k x).1, (h5 k x).2⟩⟩
/-- One call of each, the same of both. -/
theorem Two.pair {P : Program} {f1 f2 : FuncId} {args1 args2 : Array Value} {c : Value} (h : Two X d m w a)
    (h1 : ∀ G, HAt w G d a → Calls P f1 args1 w (HPost G d w c a'))
    (h2 : ∀ w1 H, Kept X w w1 → HAt w1 H m a → Calls P f2 args2 w1 (HPost H m w1 c a')) :
    Calls P f1 args1 w fun e w1 => e = .returned c ∧ Kept X w w1 ∧ Calls P f2 args2 w1 fun e w2 => e = .returned c ∧ Kept X w1 w2 ∧ Two X d m w2 a' := by
  obtain ⟨G, H, ha, hr, hd, hG, hH⟩ := h.ex
  refine (h1 G ha).mono fun e w1 ⟨he, ha1, hk1⟩ => ?_
  have hkX : Kept X w w1 := hk1.mono fun k _ x => (hG k x).1
  refine ⟨he, hkX, ?_⟩
  have hr1 : HAt w1 H m a := hr.kept hk1 fun k x y => hd k y x
  refine (h2 w1 H hkX hr1).mono fun e w2 ⟨he2, hr2, hk2⟩ => ?_
  refine ⟨he2, hk2.mono fun k _ x => (hH k x).1, ⟨G, H, ha1.kept hk2 fun k x y => hd k x y, hr2, hd, fun k x => ⟨(hG k x).1, ?_⟩, fun k x => ⟨(hH k x).1, ?_⟩⟩⟩
  · have := (hG k x).2; have := hk1.size; have := hk2.size; omega
  · have := (hH k x).2; have := hk1.size; have := hk2.size; omega
theorem Two.at1 (h : Two X d m w a) : ∃ G, HAt w G d a := by
  obtain ⟨G, H, h1, _⟩ := h.ex
  exact ⟨G, h1⟩
theorem Two.at2 (h : Two X d m w a) : ∃ G, HAt w G m a := by
  obtain ⟨G, H, _, h2, _⟩ := h.ex
  exact ⟨H, h2⟩
theorem two_new {w w1 w2 : World} {a : Hs} (h1 : HAt w1 (w.heap.size ≤ ·) w.heap.size a) (h2 : HAt w2 (w1.heap.size ≤ ·) w1.heap.size a) (g1 : Grow w w1) (g2 : Grow w1 w2) : Two (w.heap.size ≤ ·) w.heap.size w1.heap.size w2 a := by
  have s1 := g1.size
  have s2 := g2.size
  refine ⟨fun k => w.heap.size ≤ k ∧ k < w1.heap.size, fun k => w1.heap.size ≤ k ∧ k < w2.heap.size, (h1.mono fun k hk x => ⟨x, hk⟩).grow g2, h2.mono fun k hk x => ⟨x, hk⟩, ?_, ?_, ?_⟩
  · rintro k ⟨_, x⟩ ⟨y, _⟩; omega
  · rintro k ⟨x, y⟩; exact ⟨x, by omega⟩
  · rintro k ⟨x, y⟩; exact ⟨by show _ ≤ _; omega, y⟩
/-- Six numbers in a block, as a slice. -/
def six (f : Nat → Int) : List Int := (List.range 6).map f
theorem six_get (f : Nat → Int) {j : Nat} (hj : j < 6) : (six f).getD j 0 = f j := by
  unfold six
  simp [List.getD_eq_getElem?_getD, hj]
theorem six_sl {w : World} {b c : Nat} {f : Nat → Int} (h : OR w b 3 1 c 6 (hcell f)) : Sl w w.heap.size .i64 (some ⟨b, 0, none⟩) 6 (six f) :=
  ⟨by unfold six; simp, fun _ => ⟨b, 0, rfl, h.lt, fun j hj => by rw [Nat.zero_add, hcell_get h hj, six_get f hj]⟩⟩
theorem ints_six {w : World} {b b' c c' : Nat} {f : Nat → Int} (h : OR w b 3 1 c 6 (hcell f)) (h' : OR w b' 3 1 c' 6 (hcell f)) (d d' : Nat) : Calls Try.prog 21 #[.slice (some ⟨b, 0, none⟩) 6 d, .slice (some ⟨b', 0, none⟩) 6 d'] w fun e w' => e = .returned (.bool true) ∧ Grow w w' :=
  IntsC.ints_true _ _ 6 d d' _ _ (six f) (by omega) (six_sl h) (six_sl h')
end
#print axioms Two.pair
end Go.Proofs.Ytcbefohnicjkjaa.HdW
