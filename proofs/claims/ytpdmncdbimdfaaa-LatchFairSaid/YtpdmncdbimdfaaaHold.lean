/-
  A latch in a variable: its box, and that its lists lie in no block that the variable's owner writes.
-/
import Derived.Test.YtpdmncdbimdfaaaTold6
namespace Go.Proofs.Ytpdmncdbimdfaaa.HoldC
open Go.ChangeShapes Go.WideShapes Go.ChangeAt Go.RowKit
open Go.Proofs.Ytpdmncdbimdfaaa.Mem Go.Proofs.Ytpdmncdbimdfaaa.Blk Go.Proofs.Ytpdmncdbimdfaaa.Cells Go.Proofs.Ytpdmncdbimdfaaa.GsC Go.Proofs.Ytpdmncdbimdfaaa.LatM Go.Proofs.Ytpdmncdbimdfaaa.LatC Go.Proofs.Ytpdmncdbimdfaaa.LatA Go.Proofs.Ytpdmncdbimdfaaa.Stages

/-- Whatever is written into blocks of M, the value is that latch. -/
def Stays (M : Nat → Prop) (w : World) (L : La) (v : Value) : Prop := ∀ w', Kept M w w' → LatV w' L v
section
variable {M N F : Nat → Prop} {w w0 w' : World} {L : La} {v : Value} {b : Nat} {W : Int} {n m c c' : Nat} {A A' : Option Addr}
theorem Stays.latv (h : Stays M w L v) : LatV w L v := h w (Kept.refl _ _)
theorem Stays.kept (h : Stays M w L v) (hk : Kept M w w') : Stays M w' L v := fun _ hu => h _ (hk.trans hu)
theorem Stays.grow (h : Stays M w L v) (hk : Grow w w') : Stays M w' L v := h.kept (Grow.kept hk)
theorem Stays.more (h : Stays M w L v) (hN : ∀ k, k < w.heap.size → N k → M k) : Stays N w L v := fun u hu => h u (hu.mono hN)
theorem Stays.of (h : Keeps w0 w L v) (hM : ∀ k, M k → k < w0.heap.size) : Stays M w L v := fun u hu => h M u hu fun k hk x => by have := hM k x; omega

/-- In the box b lies the latch L; its numbers in the open. -/
def LAx (M : Nat → Prop) (b : Nat) (w : World) (L : La) (W : Int) (n m : Nat) : Prop :=
  ∃ A c A' c', Blk w b 25 [.int .i64 W, .slice A n c, .slice A' m c'] ∧ Stays M w L (.agg #[.int .i64 W, .slice A n c, .slice A' m c'])
theorem LAx.latv (h : LAx M b w L W n m) : ∃ v, LatV w L v := by
  obtain ⟨_, _, _, _, _, hs⟩ := h
  exact ⟨_, hs.latv⟩
theorem LAx.kept (h : LAx M b w L W n m) (hk : Kept F w w') (hF : ∀ k, k < w.heap.size → F k → M k) (hb : ¬ F b) : LAx M b w' L W n m := by
  obtain ⟨A, c, A', c', h1, h2⟩ := h
  exact ⟨A, c, A', c', h1.kept hk hb, h2.kept (hk.mono hF)⟩
theorem LAx.grow (h : LAx M b w L W n m) (hk : Grow w w') : LAx M b w' L W n m := h.kept hk (fun _ _ x => x.elim) id
theorem LAx.more (h : LAx M b w L W n m) (hN : ∀ k, k < w.heap.size → N k → M k) : LAx N b w L W n m := by
  obtain ⟨A, c, A', c', h1, h2⟩ := h
  exact ⟨A, c, A', c', h1, h2.more hN⟩
/-- 'l = v'. -/
theorem LAx.put {x y z : Value} (hx : Blk w b 25 [x, y, z]) (hs : Stays M w L (.agg #[.int .i64 W, .slice A n c, .slice A' m c'])) (hb : M b) :
    LAx M b (((w.setCell ⟨b, 0, none⟩ (.int .i64 W)).setCell ⟨b, 1, none⟩ (.slice A n c)).setCell ⟨b, 2, none⟩ (.slice A' m c')) L W n m ∧ Kept (fun k => k = b) w (((w.setCell ⟨b, 0, none⟩ (.int .i64 W)).setCell ⟨b, 1, none⟩ (.slice A n c)).setCell ⟨b, 2, none⟩ (.slice A' m c')) := by
  have hk := ((kept_set w b 0 (.int .i64 W)).trans (kept_set _ b 1 (.slice A n c))).trans (kept_set _ b 2 (.slice A' m c'))
  exact ⟨⟨A, c, A', c', ((hx.set 0 _).set 1 _).set 2 _, hs.kept (hk.mono fun k _ e => e ▸ hb)⟩, hk⟩
end
end Go.Proofs.Ytpdmncdbimdfaaa.HoldC
