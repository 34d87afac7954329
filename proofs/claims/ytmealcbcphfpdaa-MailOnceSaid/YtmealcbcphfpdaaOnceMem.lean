/-
  What MailOnce keeps beside its box (chapter 9), in memory: three rows of twelve numbers, a queue.
-/
import Derived.Test.YtmealcbcphfpdaaTold9
import Derived.Test.YtmealcbcphfpdaaOnce
import Derived.Test.YtmealcbcphfpdaaGs
namespace Go.Proofs.Ytmealcbcphfpdaa.OnceM
open Go.ChangeShapes Go.WideShapes Go.ChangeAt Go.RowKit Go.Conc
open Go.Proofs.Ytmealcbcphfpdaa.Mem Go.Proofs.Ytmealcbcphfpdaa.Blk Go.Proofs.Ytmealcbcphfpdaa.Cells Go.Proofs.Ytmealcbcphfpdaa.Chan Go.Proofs.Ytmealcbcphfpdaa.Prs Go.Proofs.Ytmealcbcphfpdaa.MailM Go.Proofs.Ytmealcbcphfpdaa.MailC Go.Proofs.Ytmealcbcphfpdaa.GsC Go.Proofs.Ytmealcbcphfpdaa.Once Go.Proofs.Ytmealcbcphfpdaa.Stages

theorem and3 (n : Int) : bits .and .i64 n 3 = n % 4 := by
  have h3 : (BitVec.ofInt 64 3).toNat = 2 ^ 2 - 1 := by decide
  have key : (BitVec.ofInt 64 n &&& BitVec.ofInt 64 3).toNat = (n % ((2 ^ 64 : Nat) : Int)).toNat % 2 ^ 2 := by
    rw [BitVec.toNat_and, BitVec.toNat_ofInt, h3, Nat.and_two_pow_sub_one_eq_mod]
  show IntKind.i64.wrap ((BitVec.ofInt 64 n &&& BitVec.ofInt 64 3).toNat : Nat) = n % 4
  rw [key, IntKind.wrap_i64]
  omega

def rc (f : Nat → Nat) (i : Nat) : Value := .int .i64 (f i : Int)
/-- Where they lie: the box at B, the rows at g1, g2, g3, the queue from QB on. -/
structure OPl (w : World) (B QB g1 g2 g3 : Nat) : Prop where
  b0 : w.heap.size ≤ B
  b1 : B < g1
  b2 : g1 < g2
  b3 : g2 < g3
  b4 : g3 < QB
structure OMem (w wx : World) (B QB g1 g2 g3 : Nat) (b : Bx) (SN GT HD : Nat → Nat) (A : Option Addr) (n c : Nat) (zs : List Int) : Prop where
  a : BoxAt wx B B b
  s : Row wx g1 12 (rc SN)
  t : Row wx g2 12 (rc GT)
  h : Row wx g3 12 (rc HD)
  q : Gs wx A n c zs
  qb : ∀ k, blk A c k → QB ≤ k
  lo : QB ≤ wx.heap.size
  g : Grow w wx
section
variable {w wx wy : World} {B QB g1 g2 g3 n n' c c' m : Nat} {b b' : Bx} {SN GT HD : Nat → Nat} {A A' : Option Addr} {zs zs' : List Int}
theorem gs_notChan (h : Gs wx A n c zs) {k : Nat} (hk : blk A c k) : ¬ IsChan wx k := by
  obtain ⟨h0, x, rfl, rfl⟩ := hk
  obtain ⟨b, off, f, e, hr, _⟩ := h.row h0
  injection e with e
  subst e
  exact row_notChan hr
theorem OMem.box (h : OMem w wx B QB g1 g2 g3 b SN GT HD A n c zs) (p : OPl w B QB g1 g2 g3) (hb : BoxAt wy B B b') (hk : Kept (BF B B wx) wx wy) : OMem w wy B QB g1 g2 g3 b' SN GT HD A n c zs := by
  have hne : ∀ {g N f}, Row wx g N f → g ≠ B → ¬ BF B B wx g := fun hr hne x => by
    rcases x with e | ⟨_, e⟩
    · exact hne e
    · exact row_notChan hr e
  have p1 := p.b1
  have p2 := p.b2
  have p3 := p.b3
  have p4 := p.b4
  refine ⟨hb, h.s.kept hk (hne h.s (by omega)), h.t.kept hk (hne h.t (by omega)), h.h.kept hk (hne h.h (by omega)), h.q.kept hk fun k hk x => ?_, h.qb, Nat.le_trans h.lo hk.size, Told9.BF.final h.g hk p.b0 p.b0⟩
  rcases x with e | ⟨_, e⟩
  · have := h.qb k hk; omega
  · exact gs_notChan h.q hk e
theorem OMem.grow (h : OMem w wx B QB g1 g2 g3 b SN GT HD A n c zs) (hk : Grow wx wy) : OMem w wy B QB g1 g2 g3 b SN GT HD A n c zs :=
  ⟨h.a.grow hk, h.s.kept hk id, h.t.kept hk id, h.h.kept hk id, h.q.grow hk, h.qb, Nat.le_trans h.lo hk.size, h.g.trans hk⟩
theorem row_upd {f : Nat → Nat} {g N : Nat} (h : Row wx g N (rc f)) (t v : Nat) : Row (wx.setCell ⟨g, t, none⟩ (.int .i64 (v : Int))) g N (rc (upd f t v)) :=
  (h.set t _).congr fun i _ => by
    by_cases e : i = t
    · subst e
      rw [if_pos rfl]
      unfold rc
      rw [upd_same]
    · rw [if_neg e]
      unfold rc
      rw [upd_other _ _ e]
theorem own_final (h : Grow w wx) {g : Nat} (hg : w.heap.size ≤ g) {F : Nat → Prop} (hk : Kept F wx wy) (hF : ∀ k, F k → g ≤ k) : Grow w wy :=
  h.then hk fun k hlt x => by have := hF k x; omega
theorem OMem.setS (h : OMem w wx B QB g1 g2 g3 b SN GT HD A n c zs) (p : OPl w B QB g1 g2 g3) (t v : Nat) : OMem w (wx.setCell ⟨g1, t, none⟩ (.int .i64 (v : Int))) B QB g1 g2 g3 b (upd SN t v) GT HD A n c zs := by
  have hk := kept_set wx g1 t (.int .i64 (v : Int))
  have p1 := p.b1
  have p2 := p.b2
  have p3 := p.b3
  have p4 := p.b4
  have p0 := p.b0
  exact ⟨h.a.kept hk (by omega) fun k e x => row_notChan h.s (by rw [← e]; exact x), row_upd h.s t v, h.t.kept hk (by omega), h.h.kept hk (by omega), h.q.kept hk fun k hk e => by have := h.qb k hk; omega, h.qb, Nat.le_trans h.lo hk.size, own_final (g := g1) h.g (by omega) hk fun k e => by omega⟩
theorem OMem.setT (h : OMem w wx B QB g1 g2 g3 b SN GT HD A n c zs) (p : OPl w B QB g1 g2 g3) (t v : Nat) : OMem w (wx.setCell ⟨g2, t, none⟩ (.int .i64 (v : Int))) B QB g1 g2 g3 b SN (upd GT t v) HD A n c zs := by
  have hk := kept_set wx g2 t (.int .i64 (v : Int))
  have p1 := p.b1
  have p2 := p.b2
  have p3 := p.b3
  have p4 := p.b4
  have p0 := p.b0
  exact ⟨h.a.kept hk (by omega) fun k e x => row_notChan h.t (by rw [← e]; exact x), h.s.kept hk (by omega), row_upd h.t t v, h.h.kept hk (by omega), h.q.kept hk fun k hk e => by have := h.qb k hk; omega, h.qb, Nat.le_trans h.lo hk.size, own_final (g := g2) h.g (by omega) hk fun k e => by omega⟩
theorem OMem.setH (h : OMem w wx B QB g1 g2 g3 b SN GT HD A n c zs) (p : OPl w B QB g1 g2 g3) (t v : Nat) : OMem w (wx.setCell ⟨g3, t, none⟩ (.int .i64 (v : Int))) B QB g1 g2 g3 b SN GT (upd HD t v) A n c zs := by
  have hk := kept_set wx g3 t (.int .i64 (v : Int))
  have p1 := p.b1
  have p2 := p.b2
  have p3 := p.b3
  have p4 := p.b4
  have p0 := p.b0
  exact ⟨h.a.kept hk (by omega) fun k e x => row_notChan h.h (by rw [← e]; exact x), h.s.kept hk (by omega), h.t.kept hk (by omega), row_upd h.h t v, h.q.kept hk fun k hk e => by have := h.qb k hk; omega, h.qb, Nat.le_trans h.lo hk.size, own_final (g := g3) h.g (by omega) hk fun k e => by omega⟩
theorem OMem.app (h : OMem w wx B QB g1 g2 g3 b SN GT HD A n c zs) (p : OPl w B QB g1 g2 g3) (hk : Kept (blk A c) wx wy) (hq : Gs wy A' n' c' zs') (hb : ∀ k, blk A' c' k → blk A c k ∨ wx.heap.size ≤ k) : OMem w wy B QB g1 g2 g3 b SN GT HD A' n' c' zs' := by
  have p1 := p.b1
  have p2 := p.b2
  have p3 := p.b3
  have p4 := p.b4
  have p0 := p.b0
  have hl : ∀ {k}, blk A c k → QB ≤ k := fun x => h.qb _ x
  refine ⟨h.a.kept hk (fun x => by have := hl x; omega) fun k x => gs_notChan h.q x, h.s.kept hk fun x => by have := hl x; omega, h.t.kept hk fun x => by have := hl x; omega, h.h.kept hk fun x => by have := hl x; omega, hq, fun k x => ?_, Nat.le_trans h.lo hk.size, own_final (g := QB) h.g (by omega) hk fun k e => hl e⟩
  rcases hb k x with e | e
  · exact hl e
  · have := h.lo; omega
theorem OMem.cut (h : OMem w wx B QB g1 g2 g3 b SN GT HD A n c zs) (hm : m ≤ n) : OMem w wx B QB g1 g2 g3 b SN GT HD (if c = m then A else A.map (·.add m)) (n - m) (c - m) (zs.drop m) :=
  ⟨h.a, h.s, h.t, h.h, h.q.drop hm, fun k x => h.qb k (blk_drop x), h.lo, h.g⟩
theorem row_zero (w1 : World) : Row (w1.alloc (.cells #[.int .i64 0, .int .i64 0, .int .i64 0, .int .i64 0, .int .i64 0, .int .i64 0, .int .i64 0, .int .i64 0, .int .i64 0, .int .i64 0, .int .i64 0, .int .i64 0] 40)) w1.heap.size 12 (rc fun _ => 0) :=
  Row.of_blk (Blk.new w1 40 [.int .i64 0, .int .i64 0, .int .i64 0, .int .i64 0, .int .i64 0, .int .i64 0, .int .i64 0, .int .i64 0, .int .i64 0, .int .i64 0, .int .i64 0, .int .i64 0]) rfl fun i hi => by
    have : i = 0 ∨ i = 1 ∨ i = 2 ∨ i = 3 ∨ i = 4 ∨ i = 5 ∨ i = 6 ∨ i = 7 ∨ i = 8 ∨ i = 9 ∨ i = 10 ∨ i = 11 := by omega
    rcases this with rfl | rfl | rfl | rfl | rfl | rfl | rfl | rfl | rfl | rfl | rfl | rfl <;> rfl
theorem om_new {w1 : World} (hb : BoxAt w1 B B ⟨[], [], []⟩) (hg : Grow w w1) (hB : w.heap.size ≤ B) : OMem w (((w1.alloc (.cells #[.int .i64 0, .int .i64 0, .int .i64 0, .int .i64 0, .int .i64 0, .int .i64 0, .int .i64 0, .int .i64 0, .int .i64 0, .int .i64 0, .int .i64 0, .int .i64 0] 40)).alloc (.cells #[.int .i64 0, .int .i64 0, .int .i64 0, .int .i64 0, .int .i64 0, .int .i64 0, .int .i64 0, .int .i64 0, .int .i64 0, .int .i64 0, .int .i64 0, .int .i64 0] 40)).alloc (.cells #[.int .i64 0, .int .i64 0, .int .i64 0, .int .i64 0, .int .i64 0, .int .i64 0, .int .i64 0, .int .i64 0, .int .i64 0, .int .i64 0, .int .i64 0, .int .i64 0] 40)) B (w1.heap.size + 3) w1.heap.size (w1.heap.size + 1) (w1.heap.size + 2) ⟨[], [], []⟩ (fun _ => 0) (fun _ => 0) (fun _ => 0) none 0 0 [] ∧ OPl w B (w1.heap.size + 3) w1.heap.size (w1.heap.size + 1) (w1.heap.size + 2) := by
  have hal : ∀ (w2 : World) o, Kept (fun _ => False) w2 (w2.alloc o) := fun w2 o => (Kept.refl _ _).alloc _
  have r1 := row_zero w1
  have r2 := row_zero (w1.alloc (.cells #[.int .i64 0, .int .i64 0, .int .i64 0, .int .i64 0, .int .i64 0, .int .i64 0, .int .i64 0, .int .i64 0, .int .i64 0, .int .i64 0, .int .i64 0, .int .i64 0] 40))
  have r3 := row_zero ((w1.alloc (.cells #[.int .i64 0, .int .i64 0, .int .i64 0, .int .i64 0, .int .i64 0, .int .i64 0, .int .i64 0, .int .i64 0, .int .i64 0, .int .i64 0, .int .i64 0, .int .i64 0] 40)).alloc (.cells #[.int .i64 0, .int .i64 0, .int .i64 0, .int .i64 0, .int .i64 0, .int .i64 0, .int .i64 0, .int .i64 0, .int .i64 0, .int .i64 0, .int .i64 0, .int .i64 0] 40))
  rw [show (w1.alloc (.cells #[.int .i64 0, .int .i64 0, .int .i64 0, .int .i64 0, .int .i64 0, .int .i64 0, .int .i64 0, .int .i64 0, .int .i64 0, .int .i64 0, .int .i64 0, .int .i64 0] 40)).heap.size = w1.heap.size + 1 by simp] at r2
  rw [show ((w1.alloc (.cells #[.int .i64 0, .int .i64 0, .int .i64 0, .int .i64 0, .int .i64 0, .int .i64 0, .int .i64 0, .int .i64 0, .int .i64 0, .int .i64 0, .int .i64 0, .int .i64 0] 40)).alloc (.cells #[.int .i64 0, .int .i64 0, .int .i64 0, .int .i64 0, .int .i64 0, .int .i64 0, .int .i64 0, .int .i64 0, .int .i64 0, .int .i64 0, .int .i64 0, .int .i64 0] 40)).heap.size = w1.heap.size + 2 by simp] at r3
  have hgg := ((hal w1 (.cells #[.int .i64 0, .int .i64 0, .int .i64 0, .int .i64 0, .int .i64 0, .int .i64 0, .int .i64 0, .int .i64 0, .int .i64 0, .int .i64 0, .int .i64 0, .int .i64 0] 40)).trans (hal _ (.cells #[.int .i64 0, .int .i64 0, .int .i64 0, .int .i64 0, .int .i64 0, .int .i64 0, .int .i64 0, .int .i64 0, .int .i64 0, .int .i64 0, .int .i64 0, .int .i64 0] 40))).trans (hal _ (.cells #[.int .i64 0, .int .i64 0, .int .i64 0, .int .i64 0, .int .i64 0, .int .i64 0, .int .i64 0, .int .i64 0, .int .i64 0, .int .i64 0, .int .i64 0, .int .i64 0] 40))
  refine ⟨⟨hb.grow hgg, (r1.kept (hal _ (.cells #[.int .i64 0, .int .i64 0, .int .i64 0, .int .i64 0, .int .i64 0, .int .i64 0, .int .i64 0, .int .i64 0, .int .i64 0, .int .i64 0, .int .i64 0, .int .i64 0] 40)) id).kept (hal _ (.cells #[.int .i64 0, .int .i64 0, .int .i64 0, .int .i64 0, .int .i64 0, .int .i64 0, .int .i64 0, .int .i64 0, .int .i64 0, .int .i64 0, .int .i64 0, .int .i64 0] 40)) id, r2.kept (hal _ (.cells #[.int .i64 0, .int .i64 0, .int .i64 0, .int .i64 0, .int .i64 0, .int .i64 0, .int .i64 0, .int .i64 0, .int .i64 0, .int .i64 0, .int .i64 0, .int .i64 0] 40)) id, r3, Gs.nil _ _, fun k x => absurd x blk_zero, by simp, hg.trans hgg⟩, hB, hb.lt, by omega, by omega, by omega⟩
end
end Go.Proofs.Ytmealcbcphfpdaa.OnceM
