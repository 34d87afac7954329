/-
  States that ModelReads and ModelOwn come to; a call whose state goes to the first box and whose result has one of its own.
-/
import Derived.Test.YteiodnclpbjbbaaPmLaw
namespace Go.Proofs.Yteiodnclpbjbbaa.Law13b
open Go.ChangeShapes Go.WideShapes Go.ChangeAt Go.RowKit
open Go.Proofs.Yteiodnclpbjbbaa.Mem Go.Proofs.Yteiodnclpbjbbaa.Blk Go.Proofs.Yteiodnclpbjbbaa.Cells Go.Proofs.Yteiodnclpbjbbaa.Orow Go.Proofs.Yteiodnclpbjbbaa.MdM Go.Proofs.Yteiodnclpbjbbaa.MdC Go.Proofs.Yteiodnclpbjbbaa.MdD Go.Proofs.Yteiodnclpbjbbaa.PmC Go.Proofs.Yteiodnclpbjbbaa.PmF Go.Proofs.Yteiodnclpbjbbaa.PmW Go.Proofs.Yteiodnclpbjbbaa.Law13

section
variable {w : World} {a : Md} {X1 X2 X3 : Option Addr} {n1 n2 n3 c1 c2 c3 : Nat}
theorem sb_putr {b0 m : Nat} {x y z : Value} (h : PAt w (b0 ≤ ·) (.agg #[.slice X1 n1 c1, .slice X2 n2 c2, .slice X3 n3 c3]) a) (hm : m < b0) (hb : Blk w m 28 [x, y, z]) (c p hh : Int) (A : Option Addr) (n cap : Nat) :
    SB ((((((((w.alloc (.cells #[.int .i64 0, .int .i64 0, .int .i64 0, .slice none 0 0] 31)).setCell ⟨m, 0, none⟩ (.slice X1 n1 c1)).setCell ⟨m, 1, none⟩ (.slice X2 n2 c2)).setCell ⟨m, 2, none⟩ (.slice X3 n3 c3)).setCell ⟨w.heap.size, 0, none⟩ (.int .i64 c)).setCell ⟨w.heap.size, 1, none⟩ (.int .i64 p)).setCell ⟨w.heap.size, 2, none⟩ (.int .i64 hh)).setCell ⟨w.heap.size, 3, none⟩ (.slice A n cap)) m m a ∧
    Blk ((((((((w.alloc (.cells #[.int .i64 0, .int .i64 0, .int .i64 0, .slice none 0 0] 31)).setCell ⟨m, 0, none⟩ (.slice X1 n1 c1)).setCell ⟨m, 1, none⟩ (.slice X2 n2 c2)).setCell ⟨m, 2, none⟩ (.slice X3 n3 c3)).setCell ⟨w.heap.size, 0, none⟩ (.int .i64 c)).setCell ⟨w.heap.size, 1, none⟩ (.int .i64 p)).setCell ⟨w.heap.size, 2, none⟩ (.int .i64 hh)).setCell ⟨w.heap.size, 3, none⟩ (.slice A n cap)) w.heap.size 31 [.int .i64 c, .int .i64 p, .int .i64 hh, .slice A n cap] ∧
    Kept (fun k => k = m) w ((((((((w.alloc (.cells #[.int .i64 0, .int .i64 0, .int .i64 0, .slice none 0 0] 31)).setCell ⟨m, 0, none⟩ (.slice X1 n1 c1)).setCell ⟨m, 1, none⟩ (.slice X2 n2 c2)).setCell ⟨m, 2, none⟩ (.slice X3 n3 c3)).setCell ⟨w.heap.size, 0, none⟩ (.int .i64 c)).setCell ⟨w.heap.size, 1, none⟩ (.int .i64 p)).setCell ⟨w.heap.size, 2, none⟩ (.int .i64 hh)).setCell ⟨w.heap.size, 3, none⟩ (.slice A n cap)) := by
  have hmw : m < w.heap.size := hb.lt
  have g1 : Grow w (w.alloc (.cells #[.int .i64 0, .int .i64 0, .int .i64 0, .slice none 0 0] 31)) := (Kept.refl _ _).alloc _
  have r1 := Blk.new w 31 [.int .i64 0, .int .i64 0, .int .i64 0, .slice none 0 0]
  have hp := ((h.mono (X := fun k => k ≠ m ∧ k ≠ w.heap.size) fun k hk (x : b0 ≤ k) => by omega).grow g1)
  generalize w.alloc (.cells #[.int .i64 0, .int .i64 0, .int .i64 0, .slice none 0 0] 31) = u at *
  obtain ⟨_, k2⟩ := sb_put (hp.mono fun k _ x => x.1) (hb.grow g1)
  have b2 : Blk (((u.setCell ⟨m, 0, none⟩ (.slice X1 n1 c1)).setCell ⟨m, 1, none⟩ (.slice X2 n2 c2)).setCell ⟨m, 2, none⟩ (.slice X3 n3 c3)) m 28 [.slice X1 n1 c1, .slice X2 n2 c2, .slice X3 n3 c3] := PmD.put3_blk (hb.grow g1)
  have hp2 := hp.kept k2 fun k x e => x.1 e
  have r2 := r1.kept k2 (fun e => by have e : w.heap.size = m := e; omega)
  generalize ((u.setCell ⟨m, 0, none⟩ (.slice X1 n1 c1)).setCell ⟨m, 1, none⟩ (.slice X2 n2 c2)).setCell ⟨m, 2, none⟩ (.slice X3 n3 c3) = v at *
  have k3 := put4_kept v w.heap.size (.int .i64 c) (.int .i64 p) (.int .i64 hh) (.slice A n cap)
  exact ⟨⟨_, _, _, _, _, _, _, _, _, b2.kept k3 (fun e => by have e : m = w.heap.size := e; omega), (hp2.kept k3 fun k x e => x.2 e).mono fun k _ x => x.1⟩, put4_blk r2, ((Grow.kept g1).trans k2).then k3 fun k hk e => by have e : k = w.heap.size := e; omega⟩
end

theorem two_box (w : World) (x y z c p h d : Value) :
    Blk ((w.alloc (.cells #[x, y, z] 28)).alloc (.cells #[c, p, h, d] 31)) w.heap.size 28 [x, y, z] ∧
    Blk ((w.alloc (.cells #[x, y, z] 28)).alloc (.cells #[c, p, h, d] 31)) (w.heap.size + 1) 31 [c, p, h, d] ∧
    Grow w ((w.alloc (.cells #[x, y, z] 28)).alloc (.cells #[c, p, h, d] 31)) := by
  have g1 : Grow w (w.alloc (.cells #[x, y, z] 28)) := (Kept.refl _ _).alloc _
  have b1 := Blk.new w 28 [x, y, z]
  have z1 : (w.alloc (.cells #[x, y, z] 28)).heap.size = w.heap.size + 1 := by simp
  generalize w.alloc (.cells #[x, y, z] 28) = u at *
  have g2 : Grow u (u.alloc (.cells #[c, p, h, d] 31)) := (Kept.refl _ _).alloc _
  have b2 := Blk.new u 31 [c, p, h, d]
  rw [z1] at b2
  exact ⟨b1.grow g2, b2, g1.trans g2⟩
theorem sl_kept2 {w w' : World} {m n : Nat} {k : IntKind} {A : Option Addr} {zs : List Int} (h : Sl w w.heap.size k A n zs) (hk : Kept (fun x => x = m) w w') (hA : 0 < n → ∀ x, A = some x → x.block ≠ m) : Sl w' w'.heap.size k A n zs := by
  refine ⟨h.1, fun hn => ?_⟩
  obtain ⟨b, off, e, hb, hc⟩ := h.2 hn
  exact ⟨b, off, e, Nat.lt_of_lt_of_le hb hk.size, fun j hj => hk.cellN (hc j hj) (fun e2 => hA hn _ e e2)⟩
theorem body_sl {w : World} {b c : Nat} {B : List Int} (h : OR w b 5 1 c 16 (ucell B)) (hl : B.length = 16) : Sl w w.heap.size .u8 (some ⟨b, 0, none⟩) 16 B :=
  ⟨hl, fun _ => ⟨b, 0, rfl, h.lt, fun j hj => by rw [Nat.zero_add]; exact h.cell (by omega)⟩⟩
/-! ### ModelReads -/
def R0 : Md := fresh 3 2
def R1 : Md := (R0.run 0 ⟨1, 0, 0, 0, 0, []⟩).2
def R2 : Md := (R1.run 1 ⟨2, 0, 0, 0, 0, []⟩).2
/-- Page 0 has the body D. -/
def R3 (D : List Int) : Md := R2.putB 0 D
def R4 (D : List Int) : Md := ((R3 D).run 0 ⟨5, 0, 0, 0, 0, []⟩).2
def R5 (D : List Int) : Md := ((R4 D).run 1 ⟨5, 0, 0, 0, 0, []⟩).2
def R6 (D : List Int) : Md := ((R5 D).run 0 ⟨8, 0, 0, 0, 0, []⟩).2
def R7 (D : List Int) : Md := ((R6 D).run 0 ⟨1, 0, 0, 0, 0, []⟩).2
variable {D d : List Int}
theorem r1 : R0.run 0 ⟨1, 0, 0, 0, 0, []⟩ = (⟨0, 0, 0, []⟩, R1) := rfl
theorem r2 : R1.run 1 ⟨2, 0, 0, 0, 0, []⟩ = (⟨0, 0, 0, []⟩, R2) := rfl
theorem write_at {a : Md} {c u : Nat} (hc : c < a.N) (hh : a.held (c : Int) 0 = 0) (hu : u + d.length ≤ 16) : a.run (c : Int) ⟨4, 0, 0, (u : Int), 0, d⟩ = (⟨0, 0, 0, []⟩, a.putB 0 (MdM.splice (a.B 0) u d)) := by
  have e := run_4 (a := a) (k := c) (o := ⟨4, 0, 0, (u : Int), 0, d⟩) hc rfl
  have h := PmU.onHand_good (a := a) (f := a.write (u : Int) d) (c := (c : Int)) (h := 0) (p := 0) hh
  refine e.trans (h.trans ?_)
  have hw := PmV.write_good (a := a) (o := ⟨4, 0, 0, (u : Int), 0, d⟩) (p := 0) ⟨by show (0 : Int) ≤ (u : Int); omega, by omega, by show (d.length : Int) ≤ 16 - (u : Int); omega⟩
  refine hw.trans ?_
  rw [Int.toNat_natCast]
  rfl
theorem read_at {a : Md} {c f n : Nat} (hc : c < a.N) (hh : a.held (c : Int) 0 = 0) (hu : f + n ≤ 16) : a.run (c : Int) ⟨3, 0, 0, (f : Int), (n : Int), []⟩ = (⟨0, 0, 0, ((a.B 0).drop f).take n⟩, a) := by
  have e := run_3 (a := a) (k := c) (o := ⟨3, 0, 0, (f : Int), (n : Int), []⟩) hc rfl
  have h := PmU.onHand_good (a := a) (f := a.read (f : Int) (n : Int)) (c := (c : Int)) (h := 0) (p := 0) hh
  refine e.trans (h.trans ?_)
  have hw := PmV.read_good (a := a) (o := ⟨3, 0, 0, (f : Int), (n : Int), []⟩) (p := 0) ⟨by show (0 : Int) ≤ (f : Int); omega, by show (0 : Int) ≤ (n : Int); omega, by show (n : Int) ≤ 16 - (f : Int); omega⟩
  refine hw.trans ?_
  rw [Int.toNat_natCast, Int.toNat_natCast]
theorem r3 {u : Nat} (hu : u + d.length ≤ 16) : R2.run 0 ⟨4, 0, 0, (u : Int), 0, d⟩ = (⟨0, 0, 0, []⟩, R3 (MdM.splice zeros u d)) := write_at (a := R2) (c := 0) (by decide) rfl hu
theorem r3r {f n : Nat} (hu : f + n ≤ 16) : (R3 D).run 1 ⟨3, 0, 0, (f : Int), (n : Int), []⟩ = (⟨0, 0, 0, (D.drop f).take n⟩, R3 D) := read_at (a := R3 D) (c := 1) (by show 1 < 2; omega) rfl hu
theorem r4 : (R3 D).run 0 ⟨5, 0, 0, 0, 0, []⟩ = (⟨0, 0, 0, []⟩, R4 D) := by kernel_rfl
theorem r5 : (R4 D).run 1 ⟨5, 0, 0, 0, 0, []⟩ = (⟨0, 0, 0, []⟩, R5 D) := by kernel_rfl
theorem r6 : (R5 D).run 0 ⟨8, 0, 0, 0, 0, []⟩ = (⟨0, 0, 0, []⟩, R6 D) := by kernel_rfl
theorem r7 : (R6 D).run 0 ⟨1, 0, 0, 0, 0, []⟩ = (⟨0, 0, 0, []⟩, R7 D) := by kernel_rfl
theorem r8 : (R7 D).run 0 ⟨3, 0, 0, 0, 16, []⟩ = (⟨0, 0, 0, zeros⟩, R7 D) := by kernel_rfl

/-! ### ModelOwn -/
def O0 : Md := fresh 2 1
def O1 : Md := (O0.run 0 ⟨1, 0, 0, 0, 0, []⟩).2
def O2 (D : List Int) : Md := O1.putB 0 D
theorem w1 : O0.run 0 ⟨1, 0, 0, 0, 0, []⟩ = (⟨0, 0, 0, []⟩, O1) := rfl
theorem w2 (hu : d.length ≤ 16) : O1.run 0 ⟨4, 0, 0, 0, 0, d⟩ = (⟨0, 0, 0, []⟩, O2 (MdM.splice zeros 0 d)) := write_at (a := O1) (c := 0) (u := 0) (by decide) rfl (by omega)
theorem w3 (hD : D.length = 16) : (O2 D).run 0 ⟨3, 0, 0, 0, 16, []⟩ = (⟨0, 0, 0, D⟩, O2 D) := by
  have := read_at (a := O2 D) (c := 0) (f := 0) (n := 16) (by show 0 < 1; omega) rfl (by omega)
  refine this.trans ?_
  have e : ((O2 D).B 0).drop 0 = D := rfl
  rw [e, List.take_of_length_le (by omega)]
end Go.Proofs.Yteiodnclpbjbbaa.Law13b
