/-
  Package dir (chapter 19): Carry, Stop, Switch, Begin, New.
-/
import Derived.Test.YtfmlbpnilblkjaaDrMay
namespace Go.Proofs.Ytfmlbpnilblkjaa.DrD
open Go.ChangeShapes Go.WideShapes Go.ChangeAt Go.RowKit
open Go.Proofs.Ytfmlbpnilblkjaa.Mem Go.Proofs.Ytfmlbpnilblkjaa.Blk Go.Proofs.Ytfmlbpnilblkjaa.Cells Go.Proofs.Ytfmlbpnilblkjaa.GsC Go.Proofs.Ytfmlbpnilblkjaa.HasC Go.Proofs.Ytfmlbpnilblkjaa.DrC Go.Proofs.Ytfmlbpnilblkjaa.DrY Go.Proofs.Ytfmlbpnilblkjaa.Stages Go.Proofs.Ytfmlbpnilblkjaa.Trees

/-- A directory with a list of its own, and a code. -/
def DrP (v : Int) (O : Nat → Int) (b t p k : Int) (w : World) (e : Ending) (w' : World) : Prop :=
  ∃ q o c, e = .returned (.tuple #[.agg #[.int .i64 v, .slice (some ⟨q, o, none⟩) 16 c, .int .i64 b, .int .i64 t, .int .i64 p], .int .i64 k]) ∧ Nm w' q o 16 O ∧ w.heap.size ≤ q ∧ Grow w w'
/-- The owners when bucket B has gone to t. -/
def went (O : Nat → Int) (B : Nat) (t : Int) (j : Nat) : Int := if j = B then t else O j
section
variable {w w' : World} {A : Option Addr} {c : Nat} {v b t p n : Int} {O : Nat → Int}
theorem carry_good (h : Has w A 16 O) (hd : Ok 4 ⟨v, O, b, t, 1⟩) : Calls Try.prog 10 #[.agg #[.int .i64 v, .slice A 16 c, .int .i64 b, .int .i64 t, .int .i64 1]] w (DrP v O b t 2 0 w) := by
  have CO := Lib.hid fun (w' : World) (hk : Grow w w') => own_any (v := v) (c := c) (b := b) (t := t) (p := 1) (h.grow hk)
  have CK := Lib.hid fun (w' : World) (A : Option Addr) (c : Nat) (X : Unit) (h : Has w' A 16 O) => known_good (c := c) (d := ⟨v, O, b, t, 1⟩) h hd
  clear h hd
  go_enter Try.func10, Try.ntmps10
  go_upto_region 1 with (fail)
  have hb := boxes w 25 [.int .i64 v, .slice A 16 c, .int .i64 b, .int .i64 t, .int .i64 1] [.int .i64 0, .slice none 0 0, .int .i64 0, .int .i64 0, .int .i64 0]
  generalize (w.alloc (.cells #[.int .i64 v, .slice A 16 c, .int .i64 b, .int .i64 t, .int .i64 1] 25)).alloc (.cells #[.int .i64 0, .slice none 0 0, .int .i64 0, .int .i64 0, .int .i64 0] 25) = w0 at *
  have HB := Lib.hid hb
  obtain ⟨k0, k1, k2, k3, k4⟩ := cells5 hb.b
  clear hb
  go_upto_region 2 with (go_at_call 18; (with_reducible refine (CO.out _ HB.out.g).mono ?_); rintro e w1 ⟨q1, o1, c1, rfl, hn, hq, hg⟩; have N1 := Lib.hid hn; have Q1 := Lib.hid hq; have G1 := Lib.hid hg; clear hn hq hg k0 k1 k2 k3 k4; obtain ⟨k0, k1, k2, k3, k4⟩ := cells5 (HB.out.b.grow G1.out); have fz := (HB.out.b.grow G1.out).frozenAll)
  clear k0 k1 k2 k3 k4 fz
  have B2 : Hid (Blk (((((w1.setCell ⟨w.heap.size, 0, none⟩ (.int .i64 v)).setCell ⟨w.heap.size, 1, none⟩ (.slice (some ⟨q1, o1, none⟩) 16 c1)).setCell ⟨w.heap.size, 2, none⟩ (.int .i64 b)).setCell ⟨w.heap.size, 3, none⟩ (.int .i64 t)).setCell ⟨w.heap.size, 4, none⟩ (.int .i64 1)) w.heap.size 25 [.int .i64 v, .slice (some ⟨q1, o1, none⟩) 16 c1, .int .i64 b, .int .i64 t, .int .i64 1]) := blk_set5 (HB.out.b.grow G1.out)
  have K2 := Lib.hid (kept_set5 w1 w.heap.size (.int .i64 v) (.slice (some ⟨q1, o1, none⟩) 16 c1) (.int .i64 b) (.int .i64 t) (.int .i64 1))
  generalize ((((w1.setCell ⟨w.heap.size, 0, none⟩ (.int .i64 v)).setCell ⟨w.heap.size, 1, none⟩ (.slice (some ⟨q1, o1, none⟩) 16 c1)).setCell ⟨w.heap.size, 2, none⟩ (.int .i64 b)).setCell ⟨w.heap.size, 3, none⟩ (.int .i64 t)).setCell ⟨w.heap.size, 4, none⟩ (.int .i64 1) = w2 at *
  have Z2 := Lib.hid ((HB.out.z.grow G1.out).kept K2.out (by omega))
  have HQ2 : Hid (w.heap.size + 2 ≤ q1) := by have := Q1.out; have := HB.out.s; show _ ≤ _; omega
  have N2 := Lib.hid (N1.out.kept K2.out (by have := HQ2.out; omega))
  have G2 : Hid (Grow w w2) := (HB.out.g.trans G1.out).then K2.out fun k h1 e => by omega
  clear N1 Q1 G1 K2 HB
  obtain ⟨k0, k1, k2, k3, k4⟩ := cells5 B2.out
  go_upto_region 7 with (go_at_call 19; (with_reducible refine (CK.out _ _ _ () N2.out.has).mono ?_); rintro e w3 ⟨rfl, hg⟩; have G3 := Lib.hid hg; clear hg k0 k1 k2 k3 k4; have B3 := Lib.hid (B2.out.grow G3.out); have Z3 := Lib.hid (Z2.out.grow G3.out); have N3 := Lib.hid (N2.out.grow G3.out); obtain ⟨k0, k1, k2, k3, k4⟩ := cells5 B3.out; obtain ⟨j0, j1, j2, j3, j4⟩ := cells5 Z3.out; have fz := Z3.out.frozenAll; have fb := B3.out.frozenAll)
  clear j0 j1 j2 j3 j4 fz k0 k1 k2 k3 k4
  have B4 : Hid (Blk (w3.setCell ⟨w.heap.size, 4, none⟩ (.int .i64 2)) w.heap.size 25 [.int .i64 v, .slice (some ⟨q1, o1, none⟩) 16 c1, .int .i64 b, .int .i64 t, .int .i64 2]) := B3.out.set 4 _
  have K4 := Lib.hid (kept_set w3 w.heap.size 4 (.int .i64 2))
  generalize w3.setCell ⟨w.heap.size, 4, none⟩ (.int .i64 2) = w4 at *
  have Z4 := Lib.hid (Z3.out.kept K4.out (by omega))
  have N4 := Lib.hid (N3.out.kept K4.out (by have := HQ2.out; omega))
  have G4 : Hid (Grow w w4) := (G2.out.trans G3.out).then K4.out fun k h1 e => by omega
  obtain ⟨k0, k1, k2, k3, k4⟩ := cells5 B4.out
  obtain ⟨j0, j1, j2, j3, j4⟩ := cells5 Z4.out
  have fz := Z4.out.frozenAll
  go_wp2
  refine ret_dir2 rfl rfl (blk_set5 Z4.out) rfl ?_
  exact ⟨q1, o1, c1, rfl, N4.out.kept (kept_set5 _ _ _ _ _ _ _) (by have := HQ2.out; omega), by have := HQ2.out; omega, G4.out.then (kept_set5 _ _ _ _ _ _ _) fun k h1 e => by omega⟩
theorem stop_rest (h : Has w A 16 O) (hd : Ok 4 ⟨v, O, -1, 0, 0⟩) : Calls Try.prog 14 #[.agg #[.int .i64 v, .slice A 16 c, .int .i64 (-1), .int .i64 0, .int .i64 0]] w (DrP v O (-1) 0 0 12 w) := by
  have CO := Lib.hid fun (w' : World) (hk : Grow w w') => own_any (v := v) (c := c) (b := -1) (t := 0) (p := 0) (h.grow hk)
  have CK := Lib.hid fun (w' : World) (A : Option Addr) (c : Nat) (X : Unit) (h : Has w' A 16 O) => known_good (c := c) (d := ⟨v, O, -1, 0, 0⟩) h hd
  clear h hd
  go_enter Try.func14, Try.ntmps14
  go_upto_region 1 with (fail)
  have hb := boxes w 25 [.int .i64 v, .slice A 16 c, .int .i64 (-1), .int .i64 0, .int .i64 0] [.int .i64 0, .slice none 0 0, .int .i64 0, .int .i64 0, .int .i64 0]
  generalize (w.alloc (.cells #[.int .i64 v, .slice A 16 c, .int .i64 (-1), .int .i64 0, .int .i64 0] 25)).alloc (.cells #[.int .i64 0, .slice none 0 0, .int .i64 0, .int .i64 0, .int .i64 0] 25) = w0 at *
  have HB := Lib.hid hb
  obtain ⟨k0, k1, k2, k3, k4⟩ := cells5 hb.b
  clear hb
  go_upto_region 2 with (go_at_call 18; (with_reducible refine (CO.out _ HB.out.g).mono ?_); rintro e w1 ⟨q1, o1, c1, rfl, hn, hq, hg⟩; have N1 := Lib.hid hn; have Q1 := Lib.hid hq; have G1 := Lib.hid hg; clear hn hq hg k0 k1 k2 k3 k4; obtain ⟨k0, k1, k2, k3, k4⟩ := cells5 (HB.out.b.grow G1.out); have fz := (HB.out.b.grow G1.out).frozenAll)
  clear k0 k1 k2 k3 k4 fz
  have B2 : Hid (Blk (((((w1.setCell ⟨w.heap.size, 0, none⟩ (.int .i64 v)).setCell ⟨w.heap.size, 1, none⟩ (.slice (some ⟨q1, o1, none⟩) 16 c1)).setCell ⟨w.heap.size, 2, none⟩ (.int .i64 (-1))).setCell ⟨w.heap.size, 3, none⟩ (.int .i64 0)).setCell ⟨w.heap.size, 4, none⟩ (.int .i64 0)) w.heap.size 25 [.int .i64 v, .slice (some ⟨q1, o1, none⟩) 16 c1, .int .i64 (-1), .int .i64 0, .int .i64 0]) := blk_set5 (HB.out.b.grow G1.out)
  have K2 := Lib.hid (kept_set5 w1 w.heap.size (.int .i64 v) (.slice (some ⟨q1, o1, none⟩) 16 c1) (.int .i64 (-1)) (.int .i64 0) (.int .i64 0))
  generalize ((((w1.setCell ⟨w.heap.size, 0, none⟩ (.int .i64 v)).setCell ⟨w.heap.size, 1, none⟩ (.slice (some ⟨q1, o1, none⟩) 16 c1)).setCell ⟨w.heap.size, 2, none⟩ (.int .i64 (-1))).setCell ⟨w.heap.size, 3, none⟩ (.int .i64 0)).setCell ⟨w.heap.size, 4, none⟩ (.int .i64 0) = w2 at *
  have Z2 := Lib.hid ((HB.out.z.grow G1.out).kept K2.out (by omega))
  have HQ2 : Hid (w.heap.size + 2 ≤ q1) := by have := Q1.out; have := HB.out.s; show _ ≤ _; omega
  have N2 := Lib.hid (N1.out.kept K2.out (by have := HQ2.out; omega))
  have G2 : Hid (Grow w w2) := (HB.out.g.trans G1.out).then K2.out fun k h1 e => by omega
  clear N1 Q1 G1 K2 HB
  obtain ⟨k0, k1, k2, k3, k4⟩ := cells5 B2.out
  go_wp2_with (go_at_call 19; (with_reducible refine (CK.out _ _ _ () N2.out.has).mono ?_); rintro e w3 ⟨rfl, hg⟩; have G3 := Lib.hid hg; clear hg k0 k1 k2 k3 k4; have B3 := Lib.hid (B2.out.grow G3.out); have Z3 := Lib.hid (Z2.out.grow G3.out); have N3 := Lib.hid (N2.out.grow G3.out); obtain ⟨k0, k1, k2, k3, k4⟩ := cells5 B3.out; obtain ⟨j0, j1, j2, j3, j4⟩ := cells5 Z3.out; have fz := Z3.out.frozenAll)
  refine ret_dir2 rfl rfl (blk_set5 Z3.out) rfl ?_
  exact ⟨q1, o1, c1, rfl, N3.out.kept (kept_set5 _ _ _ _ _ _ _) (by have := HQ2.out; omega), by have := HQ2.out; omega, (G2.out.trans G3.out).then (kept_set5 _ _ _ _ _ _ _) fun k h1 e => by omega⟩
theorem stop_way (h : Has w A 16 O) (hd : Ok 4 ⟨v, O, b, t, p⟩) (hp : p ≠ 0) : Calls Try.prog 14 #[.agg #[.int .i64 v, .slice A 16 c, .int .i64 b, .int .i64 t, .int .i64 p]] w (DrP v O (-1) 0 0 0 w) := by
  have CO := Lib.hid fun (w' : World) (hk : Grow w w') => own_any (v := v) (c := c) (b := b) (t := t) (p := p) (h.grow hk)
  have CK := Lib.hid fun (w' : World) (A : Option Addr) (c : Nat) (X : Unit) (h : Has w' A 16 O) => known_good (c := c) (d := ⟨v, O, b, t, p⟩) h hd
  have ep : (p == 0) = false := beq_eq_false_iff_ne.2 hp
  clear hp
  clear h hd
  go_enter Try.func14, Try.ntmps14
  go_upto_region 1 with (fail)
  have hb := boxes w 25 [.int .i64 v, .slice A 16 c, .int .i64 b, .int .i64 t, .int .i64 p] [.int .i64 0, .slice none 0 0, .int .i64 0, .int .i64 0, .int .i64 0]
  generalize (w.alloc (.cells #[.int .i64 v, .slice A 16 c, .int .i64 b, .int .i64 t, .int .i64 p] 25)).alloc (.cells #[.int .i64 0, .slice none 0 0, .int .i64 0, .int .i64 0, .int .i64 0] 25) = w0 at *
  have HB := Lib.hid hb
  obtain ⟨k0, k1, k2, k3, k4⟩ := cells5 hb.b
  clear hb
  go_upto_region 2 with (go_at_call 18; (with_reducible refine (CO.out _ HB.out.g).mono ?_); rintro e w1 ⟨q1, o1, c1, rfl, hn, hq, hg⟩; have N1 := Lib.hid hn; have Q1 := Lib.hid hq; have G1 := Lib.hid hg; clear hn hq hg k0 k1 k2 k3 k4; obtain ⟨k0, k1, k2, k3, k4⟩ := cells5 (HB.out.b.grow G1.out); have fz := (HB.out.b.grow G1.out).frozenAll)
  clear k0 k1 k2 k3 k4 fz
  have B2 : Hid (Blk (((((w1.setCell ⟨w.heap.size, 0, none⟩ (.int .i64 v)).setCell ⟨w.heap.size, 1, none⟩ (.slice (some ⟨q1, o1, none⟩) 16 c1)).setCell ⟨w.heap.size, 2, none⟩ (.int .i64 b)).setCell ⟨w.heap.size, 3, none⟩ (.int .i64 t)).setCell ⟨w.heap.size, 4, none⟩ (.int .i64 p)) w.heap.size 25 [.int .i64 v, .slice (some ⟨q1, o1, none⟩) 16 c1, .int .i64 b, .int .i64 t, .int .i64 p]) := blk_set5 (HB.out.b.grow G1.out)
  have K2 := Lib.hid (kept_set5 w1 w.heap.size (.int .i64 v) (.slice (some ⟨q1, o1, none⟩) 16 c1) (.int .i64 b) (.int .i64 t) (.int .i64 p))
  generalize ((((w1.setCell ⟨w.heap.size, 0, none⟩ (.int .i64 v)).setCell ⟨w.heap.size, 1, none⟩ (.slice (some ⟨q1, o1, none⟩) 16 c1)).setCell ⟨w.heap.size, 2, none⟩ (.int .i64 b)).setCell ⟨w.heap.size, 3, none⟩ (.int .i64 t)).setCell ⟨w.heap.size, 4, none⟩ (.int .i64 p) = w2 at *
  have Z2 := Lib.hid ((HB.out.z.grow G1.out).kept K2.out (by omega))
  have HQ2 : Hid (w.heap.size + 2 ≤ q1) := by have := Q1.out; have := HB.out.s; show _ ≤ _; omega
  have N2 := Lib.hid (N1.out.kept K2.out (by have := HQ2.out; omega))
  have G2 : Hid (Grow w w2) := (HB.out.g.trans G1.out).then K2.out fun k h1 e => by omega
  clear N1 Q1 G1 K2 HB
  obtain ⟨k0, k1, k2, k3, k4⟩ := cells5 B2.out
  go_wp2_with (first
    | (go_at_call 19; (with_reducible refine (CK.out _ _ _ () N2.out.has).mono ?_); rintro e w3 ⟨rfl, hg⟩; have G3 := Lib.hid hg; clear hg k0 k1 k2 k3 k4; have B3 := Lib.hid (B2.out.grow G3.out); have Z3 := Lib.hid (Z2.out.grow G3.out); have N3 := Lib.hid (N2.out.grow G3.out); obtain ⟨k0, k1, k2, k3, k4⟩ := cells5 B3.out; obtain ⟨j0, j1, j2, j3, j4⟩ := cells5 Z3.out; have fz := Z3.out.frozenAll)
    | (go_at_call 17; (with_reducible refine still_any.mono ?_); rintro e w4 ⟨rfl, hg⟩; have G4 := Lib.hid hg; clear hg j0 j1 j2 j3 j4 fz k0 k1 k2 k3 k4; have Z4 := Lib.hid (Z3.out.grow G4.out); have N4 := Lib.hid (N3.out.grow G4.out); obtain ⟨j0, j1, j2, j3, j4⟩ := cells5 Z4.out; have fz := Z4.out.frozenAll))
  refine ret_dir2 rfl rfl (blk_set5 Z4.out) rfl ?_
  exact ⟨q1, o1, c1, rfl, N4.out.kept (kept_set5 _ _ _ _ _ _ _) (by have := HQ2.out; omega), by have := HQ2.out; omega, ((G2.out.trans G3.out).trans G4.out).then (kept_set5 _ _ _ _ _ _ _) fun k h1 e => by omega⟩
theorem switch_state (h : Has w A 16 O) (hd : Ok 4 ⟨v, O, b, t, p⟩) (hp : p ≠ 2) : Calls Try.prog 11 #[.agg #[.int .i64 v, .slice A 16 c, .int .i64 b, .int .i64 t, .int .i64 p]] w (DrP v O b t p 12 w) := by
  have CO := Lib.hid fun (w' : World) (hk : Grow w w') => own_any (v := v) (c := c) (b := b) (t := t) (p := p) (h.grow hk)
  have CK := Lib.hid fun (w' : World) (A : Option Addr) (c : Nat) (X : Unit) (h : Has w' A 16 O) => known_good (c := c) (d := ⟨v, O, b, t, p⟩) h hd
  have ep : (p != 2) = true := bne_iff_ne.2 hp
  clear hp
  clear h hd
  go_enter Try.func11, Try.ntmps11
  go_upto_region 1 with (fail)
  have hb := boxes w 25 [.int .i64 v, .slice A 16 c, .int .i64 b, .int .i64 t, .int .i64 p] [.int .i64 0, .slice none 0 0, .int .i64 0, .int .i64 0, .int .i64 0]
  generalize (w.alloc (.cells #[.int .i64 v, .slice A 16 c, .int .i64 b, .int .i64 t, .int .i64 p] 25)).alloc (.cells #[.int .i64 0, .slice none 0 0, .int .i64 0, .int .i64 0, .int .i64 0] 25) = w0 at *
  have HB := Lib.hid hb
  obtain ⟨k0, k1, k2, k3, k4⟩ := cells5 hb.b
  clear hb
  go_upto_region 2 with (go_at_call 18; (with_reducible refine (CO.out _ HB.out.g).mono ?_); rintro e w1 ⟨q1, o1, c1, rfl, hn, hq, hg⟩; have N1 := Lib.hid hn; have Q1 := Lib.hid hq; have G1 := Lib.hid hg; clear hn hq hg k0 k1 k2 k3 k4; obtain ⟨k0, k1, k2, k3, k4⟩ := cells5 (HB.out.b.grow G1.out); have fz := (HB.out.b.grow G1.out).frozenAll)
  clear k0 k1 k2 k3 k4 fz
  have B2 : Hid (Blk (((((w1.setCell ⟨w.heap.size, 0, none⟩ (.int .i64 v)).setCell ⟨w.heap.size, 1, none⟩ (.slice (some ⟨q1, o1, none⟩) 16 c1)).setCell ⟨w.heap.size, 2, none⟩ (.int .i64 b)).setCell ⟨w.heap.size, 3, none⟩ (.int .i64 t)).setCell ⟨w.heap.size, 4, none⟩ (.int .i64 p)) w.heap.size 25 [.int .i64 v, .slice (some ⟨q1, o1, none⟩) 16 c1, .int .i64 b, .int .i64 t, .int .i64 p]) := blk_set5 (HB.out.b.grow G1.out)
  have K2 := Lib.hid (kept_set5 w1 w.heap.size (.int .i64 v) (.slice (some ⟨q1, o1, none⟩) 16 c1) (.int .i64 b) (.int .i64 t) (.int .i64 p))
  generalize ((((w1.setCell ⟨w.heap.size, 0, none⟩ (.int .i64 v)).setCell ⟨w.heap.size, 1, none⟩ (.slice (some ⟨q1, o1, none⟩) 16 c1)).setCell ⟨w.heap.size, 2, none⟩ (.int .i64 b)).setCell ⟨w.heap.size, 3, none⟩ (.int .i64 t)).setCell ⟨w.heap.size, 4, none⟩ (.int .i64 p) = w2 at *
  have Z2 := Lib.hid ((HB.out.z.grow G1.out).kept K2.out (by omega))
  have HQ2 : Hid (w.heap.size + 2 ≤ q1) := by have := Q1.out; have := HB.out.s; show _ ≤ _; omega
  have N2 := Lib.hid (N1.out.kept K2.out (by have := HQ2.out; omega))
  have G2 : Hid (Grow w w2) := (HB.out.g.trans G1.out).then K2.out fun k h1 e => by omega
  clear N1 Q1 G1 K2 HB
  obtain ⟨k0, k1, k2, k3, k4⟩ := cells5 B2.out
  go_wp2_with (go_at_call 19; (with_reducible refine (CK.out _ _ _ () N2.out.has).mono ?_); rintro e w3 ⟨rfl, hg⟩; have G3 := Lib.hid hg; clear hg k0 k1 k2 k3 k4; have B3 := Lib.hid (B2.out.grow G3.out); have Z3 := Lib.hid (Z2.out.grow G3.out); have N3 := Lib.hid (N2.out.grow G3.out); obtain ⟨k0, k1, k2, k3, k4⟩ := cells5 B3.out; obtain ⟨j0, j1, j2, j3, j4⟩ := cells5 Z3.out; have fz := Z3.out.frozenAll)
  refine ret_dir2 rfl rfl (blk_set5 Z3.out) rfl ?_
  exact ⟨q1, o1, c1, rfl, N3.out.kept (kept_set5 _ _ _ _ _ _ _) (by have := HQ2.out; omega), by have := HQ2.out; omega, (G2.out.trans G3.out).then (kept_set5 _ _ _ _ _ _ _) fun k h1 e => by omega⟩
theorem switch_good {B : Nat} (h : Has w A 16 O) (hd : Ok 4 ⟨v, O, (B : Int), t, 2⟩) (hB : B < 16) (hv : v ≠ 1073741824) : Calls Try.prog 11 #[.agg #[.int .i64 v, .slice A 16 c, .int .i64 (B : Int), .int .i64 t, .int .i64 2]] w (DrP (v + 1) (went O B t) (-1) 0 0 0 w) := by
  have CO := Lib.hid fun (w' : World) (hk : Grow w w') => own_any (v := v) (c := c) (b := (B : Int)) (t := t) (p := 2) (h.grow hk)
  have CK := Lib.hid fun (w' : World) (A : Option Addr) (c : Nat) (X : Unit) (h : Has w' A 16 O) => known_good (c := c) (d := ⟨v, O, (B : Int), t, 2⟩) h hd
  have hv1 : 1 ≤ v := hd.v1
  have hv2 : v ≤ 1073741824 := hd.v2
  have HBB := Lib.hid hB
  have hBz : (B : Int) < 16 := by omega
  clear hB
  have ev : (v == 1073741824) = false := beq_eq_false_iff_ne.2 hv
  clear hv
  clear h hd
  go_enter Try.func11, Try.ntmps11
  go_upto_region 1 with (fail)
  have hb := boxes w 25 [.int .i64 v, .slice A 16 c, .int .i64 (B : Int), .int .i64 t, .int .i64 2] [.int .i64 0, .slice none 0 0, .int .i64 0, .int .i64 0, .int .i64 0]
  generalize (w.alloc (.cells #[.int .i64 v, .slice A 16 c, .int .i64 (B : Int), .int .i64 t, .int .i64 2] 25)).alloc (.cells #[.int .i64 0, .slice none 0 0, .int .i64 0, .int .i64 0, .int .i64 0] 25) = w0 at *
  have HB := Lib.hid hb
  obtain ⟨k0, k1, k2, k3, k4⟩ := cells5 hb.b
  clear hb
  go_upto_region 2 with (go_at_call 18; (with_reducible refine (CO.out _ HB.out.g).mono ?_); rintro e w1 ⟨q1, o1, c1, rfl, hn, hq, hg⟩; have N1 := Lib.hid hn; have Q1 := Lib.hid hq; have G1 := Lib.hid hg; clear hn hq hg k0 k1 k2 k3 k4; obtain ⟨k0, k1, k2, k3, k4⟩ := cells5 (HB.out.b.grow G1.out); have fz := (HB.out.b.grow G1.out).frozenAll)
  clear k0 k1 k2 k3 k4 fz
  have B2 : Hid (Blk (((((w1.setCell ⟨w.heap.size, 0, none⟩ (.int .i64 v)).setCell ⟨w.heap.size, 1, none⟩ (.slice (some ⟨q1, o1, none⟩) 16 c1)).setCell ⟨w.heap.size, 2, none⟩ (.int .i64 (B : Int))).setCell ⟨w.heap.size, 3, none⟩ (.int .i64 t)).setCell ⟨w.heap.size, 4, none⟩ (.int .i64 2)) w.heap.size 25 [.int .i64 v, .slice (some ⟨q1, o1, none⟩) 16 c1, .int .i64 (B : Int), .int .i64 t, .int .i64 2]) := blk_set5 (HB.out.b.grow G1.out)
  have K2 := Lib.hid (kept_set5 w1 w.heap.size (.int .i64 v) (.slice (some ⟨q1, o1, none⟩) 16 c1) (.int .i64 (B : Int)) (.int .i64 t) (.int .i64 2))
  generalize ((((w1.setCell ⟨w.heap.size, 0, none⟩ (.int .i64 v)).setCell ⟨w.heap.size, 1, none⟩ (.slice (some ⟨q1, o1, none⟩) 16 c1)).setCell ⟨w.heap.size, 2, none⟩ (.int .i64 (B : Int))).setCell ⟨w.heap.size, 3, none⟩ (.int .i64 t)).setCell ⟨w.heap.size, 4, none⟩ (.int .i64 2) = w2 at *
  have Z2 := Lib.hid ((HB.out.z.grow G1.out).kept K2.out (by omega))
  have HQ2 : Hid (w.heap.size + 2 ≤ q1) := by have := Q1.out; have := HB.out.s; show _ ≤ _; omega
  have N2 := Lib.hid (N1.out.kept K2.out (by have := HQ2.out; omega))
  have G2 : Hid (Grow w w2) := (HB.out.g.trans G1.out).then K2.out fun k h1 e => by omega
  clear N1 Q1 G1 K2 HB
  obtain ⟨k0, k1, k2, k3, k4⟩ := cells5 B2.out
  go_upto_region 8 with (go_at_call 19; (with_reducible refine (CK.out _ _ _ () N2.out.has).mono ?_); rintro e w3 ⟨rfl, hg⟩; have G3 := Lib.hid hg; clear hg k0 k1 k2 k3 k4; have B3 := Lib.hid (B2.out.grow G3.out); have Z3 := Lib.hid (Z2.out.grow G3.out); have N3 := Lib.hid (N2.out.grow G3.out); obtain ⟨k0, k1, k2, k3, k4⟩ := cells5 B3.out; obtain ⟨j0, j1, j2, j3, j4⟩ := cells5 Z3.out; have fz := Z3.out.frozenAll)
  have fn := N3.out.frozen (o1 + B)
  have cn := N3.out.cell HBB.out
  generalize hz : O B = z at cn
  clear hz
  go_upto_region 9 with (fail)
  clear j0 j1 j2 j3 j4 fz k0 k1 k2 k3 k4 fn cn z
  have N4 : Hid (Nm (w3.setCell ⟨q1, o1 + B, none⟩ (.int .i64 t)) q1 o1 16 (went O B t)) := N3.out.set B t fun _ _ => rfl
  have K4 := Lib.hid (kept_set w3 q1 (o1 + B) (.int .i64 t))
  generalize w3.setCell ⟨q1, o1 + B, none⟩ (.int .i64 t) = w4 at *
  have Z4 := Lib.hid (Z3.out.kept K4.out (by have := HQ2.out; omega))
  have B4 := Lib.hid (B3.out.kept K4.out (by have := HQ2.out; omega))
  have G4 : Hid (Grow w w4) := (G2.out.trans G3.out).then K4.out fun k h1 e => by have := HQ2.out; omega
  obtain ⟨k0, k1, k2, k3, k4⟩ := cells5 B4.out
  have fz := B4.out.frozenAll
  go_upto_region 10 with (fail)
  clear k0 k1 k2 k3 k4 fz
  have B5 : Hid (Blk (w4.setCell ⟨w.heap.size, 0, none⟩ (.int .i64 (v + 1))) w.heap.size 25 [.int .i64 (v + 1), .slice (some ⟨q1, o1, none⟩) 16 c1, .int .i64 (B : Int), .int .i64 t, .int .i64 2]) := B4.out.set 0 _
  have K5 := Lib.hid (kept_set w4 w.heap.size 0 (.int .i64 (v + 1)))
  generalize w4.setCell ⟨w.heap.size, 0, none⟩ (.int .i64 (v + 1)) = w5 at *
  have Z5 := Lib.hid (Z4.out.kept K5.out (by omega))
  have N5 := Lib.hid (N4.out.kept K5.out (by have := HQ2.out; omega))
  have G5 : Hid (Grow w w5) := G4.out.then K5.out fun k h1 e => by omega
  obtain ⟨k0, k1, k2, k3, k4⟩ := cells5 B5.out
  go_wp2_with (go_at_call 17; (with_reducible refine still_any.mono ?_); rintro e w6 ⟨rfl, hg⟩; have G6 := Lib.hid hg; clear hg k0 k1 k2 k3 k4; have Z6 := Lib.hid (Z5.out.grow G6.out); have N6 := Lib.hid (N5.out.grow G6.out); obtain ⟨j0, j1, j2, j3, j4⟩ := cells5 Z6.out; have fz := Z6.out.frozenAll)
  refine ret_dir2 rfl rfl (blk_set5 Z6.out) rfl ?_
  exact ⟨q1, o1, c1, rfl, N6.out.kept (kept_set5 _ _ _ _ _ _ _) (by have := HQ2.out; omega), by have := HQ2.out; omega, (G5.out.trans G6.out).then (kept_set5 _ _ _ _ _ _ _) fun k h1 e => by omega⟩
theorem begin_held (h : Has w A 16 O) (hd : Ok 4 ⟨v, O, b, t, p⟩) (hp : p ≠ 0) (x y : Int) : Calls Try.prog 9 #[.agg #[.int .i64 v, .slice A 16 c, .int .i64 b, .int .i64 t, .int .i64 p], .int .i64 x, .int .i64 y] w (DrP v O b t p 13 w) := by
  have CO := Lib.hid fun (w' : World) (hk : Grow w w') => own_any (v := v) (c := c) (b := b) (t := t) (p := p) (h.grow hk)
  have CK := Lib.hid fun (w' : World) (A : Option Addr) (c : Nat) (X : Unit) (h : Has w' A 16 O) => known_good (c := c) (d := ⟨v, O, b, t, p⟩) h hd
  have ep : (p != 0) = true := bne_iff_ne.2 hp
  clear hp
  clear h hd
  go_enter Try.func9, Try.ntmps9
  go_upto_region 1 with (fail)
  have hb := boxes w 25 [.int .i64 v, .slice A 16 c, .int .i64 b, .int .i64 t, .int .i64 p] [.int .i64 0, .slice none 0 0, .int .i64 0, .int .i64 0, .int .i64 0]
  generalize (w.alloc (.cells #[.int .i64 v, .slice A 16 c, .int .i64 b, .int .i64 t, .int .i64 p] 25)).alloc (.cells #[.int .i64 0, .slice none 0 0, .int .i64 0, .int .i64 0, .int .i64 0] 25) = w0 at *
  have HB := Lib.hid hb
  obtain ⟨k0, k1, k2, k3, k4⟩ := cells5 hb.b
  clear hb
  go_upto_region 2 with (go_at_call 18; (with_reducible refine (CO.out _ HB.out.g).mono ?_); rintro e w1 ⟨q1, o1, c1, rfl, hn, hq, hg⟩; have N1 := Lib.hid hn; have Q1 := Lib.hid hq; have G1 := Lib.hid hg; clear hn hq hg k0 k1 k2 k3 k4; obtain ⟨k0, k1, k2, k3, k4⟩ := cells5 (HB.out.b.grow G1.out); have fz := (HB.out.b.grow G1.out).frozenAll)
  clear k0 k1 k2 k3 k4 fz
  have B2 : Hid (Blk (((((w1.setCell ⟨w.heap.size, 0, none⟩ (.int .i64 v)).setCell ⟨w.heap.size, 1, none⟩ (.slice (some ⟨q1, o1, none⟩) 16 c1)).setCell ⟨w.heap.size, 2, none⟩ (.int .i64 b)).setCell ⟨w.heap.size, 3, none⟩ (.int .i64 t)).setCell ⟨w.heap.size, 4, none⟩ (.int .i64 p)) w.heap.size 25 [.int .i64 v, .slice (some ⟨q1, o1, none⟩) 16 c1, .int .i64 b, .int .i64 t, .int .i64 p]) := blk_set5 (HB.out.b.grow G1.out)
  have K2 := Lib.hid (kept_set5 w1 w.heap.size (.int .i64 v) (.slice (some ⟨q1, o1, none⟩) 16 c1) (.int .i64 b) (.int .i64 t) (.int .i64 p))
  generalize ((((w1.setCell ⟨w.heap.size, 0, none⟩ (.int .i64 v)).setCell ⟨w.heap.size, 1, none⟩ (.slice (some ⟨q1, o1, none⟩) 16 c1)).setCell ⟨w.heap.size, 2, none⟩ (.int .i64 b)).setCell ⟨w.heap.size, 3, none⟩ (.int .i64 t)).setCell ⟨w.heap.size, 4, none⟩ (.int .i64 p) = w2 at *
  have Z2 := Lib.hid ((HB.out.z.grow G1.out).kept K2.out (by omega))
  have HQ2 : Hid (w.heap.size + 2 ≤ q1) := by have := Q1.out; have := HB.out.s; show _ ≤ _; omega
  have N2 := Lib.hid (N1.out.kept K2.out (by have := HQ2.out; omega))
  have G2 : Hid (Grow w w2) := (HB.out.g.trans G1.out).then K2.out fun k h1 e => by omega
  clear N1 Q1 G1 K2 HB
  obtain ⟨k0, k1, k2, k3, k4⟩ := cells5 B2.out
  go_upto_region 4 with (fail)
  clear k0 k1 k2 k3 k4
  have E5 := Lib.hid (Blk.new w2 25 [.int .i64 v, .slice (some ⟨q1, o1, none⟩) 16 c1, .int .i64 x, .int .i64 y, .int .i64 1])
  have G4 : Hid (Grow w (w2.alloc (.cells #[.int .i64 v, .slice (some ⟨q1, o1, none⟩) 16 c1, .int .i64 x, .int .i64 y, .int .i64 1] 25))) := G2.out.alloc _
  have B4 := Lib.hid (B2.out.alloc (.cells #[.int .i64 v, .slice (some ⟨q1, o1, none⟩) 16 c1, .int .i64 x, .int .i64 y, .int .i64 1] 25))
  have Z4 := Lib.hid (Z2.out.alloc (.cells #[.int .i64 v, .slice (some ⟨q1, o1, none⟩) 16 c1, .int .i64 x, .int .i64 y, .int .i64 1] 25))
  have N4 := Lib.hid (N2.out.kept ((Kept.refl (fun _ => False) w2).alloc (.cells #[.int .i64 v, .slice (some ⟨q1, o1, none⟩) 16 c1, .int .i64 x, .int .i64 y, .int .i64 1] 25)) id)
  generalize w2.alloc (.cells #[.int .i64 v, .slice (some ⟨q1, o1, none⟩) 16 c1, .int .i64 x, .int .i64 y, .int .i64 1] 25) = w4 at *
  clear B2 Z2 N2 G2
  obtain ⟨k0, k1, k2, k3, k4⟩ := cells5 B4.out
  obtain ⟨m0, m1, m2, m3, m4⟩ := cells5 E5.out
  go_wp2_with (go_at_call 19; (with_reducible refine (CK.out _ _ _ () N4.out.has).mono ?_); rintro e w5 ⟨rfl, hg⟩; have G5 := Lib.hid hg; clear hg k0 k1 k2 k3 k4 m0 m1 m2 m3 m4; have B5 := Lib.hid (B4.out.grow G5.out); have Z5 := Lib.hid (Z4.out.grow G5.out); have N5 := Lib.hid (N4.out.grow G5.out); have E6 := Lib.hid (E5.out.grow G5.out); obtain ⟨k0, k1, k2, k3, k4⟩ := cells5 B5.out; obtain ⟨m0, m1, m2, m3, m4⟩ := cells5 E6.out; obtain ⟨j0, j1, j2, j3, j4⟩ := cells5 Z5.out; have fz := Z5.out.frozenAll)
  refine ret_dir2 rfl rfl (blk_set5 Z5.out) rfl ?_
  exact ⟨q1, o1, c1, rfl, N5.out.kept (kept_set5 _ _ _ _ _ _ _) (by have := HQ2.out; omega), by have := HQ2.out; omega, (G4.out.trans G5.out).then (kept_set5 _ _ _ _ _ _ _) fun k h1 e => by omega⟩
theorem begin_good {B : Nat} (h : Has w A 16 O) (hd : Ok 4 ⟨v, O, -1, 0, 0⟩) (hx : Ok 4 ⟨v, O, (B : Int), t, 1⟩) : Calls Try.prog 9 #[.agg #[.int .i64 v, .slice A 16 c, .int .i64 (-1), .int .i64 0, .int .i64 0], .int .i64 (B : Int), .int .i64 t] w (DrP v O (B : Int) t 1 0 w) := by
  have CO := Lib.hid fun (w' : World) (hk : Grow w w') => own_any (v := v) (c := c) (b := -1) (t := 0) (p := 0) (h.grow hk)
  have CK := Lib.hid fun (w' : World) (A : Option Addr) (c : Nat) (X : Unit) (h : Has w' A 16 O) => known_good (c := c) (d := ⟨v, O, -1, 0, 0⟩) h hd
  have CL := Lib.hid fun (w' : World) (A : Option Addr) (c : Nat) (X : Unit) (h : Has w' A 16 O) => known_good (c := c) (d := ⟨v, O, (B : Int), t, 1⟩) h hx
  clear hx
  clear h hd
  go_enter Try.func9, Try.ntmps9
  go_upto_region 1 with (fail)
  have hb := boxes w 25 [.int .i64 v, .slice A 16 c, .int .i64 (-1), .int .i64 0, .int .i64 0] [.int .i64 0, .slice none 0 0, .int .i64 0, .int .i64 0, .int .i64 0]
  generalize (w.alloc (.cells #[.int .i64 v, .slice A 16 c, .int .i64 (-1), .int .i64 0, .int .i64 0] 25)).alloc (.cells #[.int .i64 0, .slice none 0 0, .int .i64 0, .int .i64 0, .int .i64 0] 25) = w0 at *
  have HB := Lib.hid hb
  obtain ⟨k0, k1, k2, k3, k4⟩ := cells5 hb.b
  clear hb
  go_upto_region 2 with (go_at_call 18; (with_reducible refine (CO.out _ HB.out.g).mono ?_); rintro e w1 ⟨q1, o1, c1, rfl, hn, hq, hg⟩; have N1 := Lib.hid hn; have Q1 := Lib.hid hq; have G1 := Lib.hid hg; clear hn hq hg k0 k1 k2 k3 k4; obtain ⟨k0, k1, k2, k3, k4⟩ := cells5 (HB.out.b.grow G1.out); have fz := (HB.out.b.grow G1.out).frozenAll)
  clear k0 k1 k2 k3 k4 fz
  have B2 : Hid (Blk (((((w1.setCell ⟨w.heap.size, 0, none⟩ (.int .i64 v)).setCell ⟨w.heap.size, 1, none⟩ (.slice (some ⟨q1, o1, none⟩) 16 c1)).setCell ⟨w.heap.size, 2, none⟩ (.int .i64 (-1))).setCell ⟨w.heap.size, 3, none⟩ (.int .i64 0)).setCell ⟨w.heap.size, 4, none⟩ (.int .i64 0)) w.heap.size 25 [.int .i64 v, .slice (some ⟨q1, o1, none⟩) 16 c1, .int .i64 (-1), .int .i64 0, .int .i64 0]) := blk_set5 (HB.out.b.grow G1.out)
  have K2 := Lib.hid (kept_set5 w1 w.heap.size (.int .i64 v) (.slice (some ⟨q1, o1, none⟩) 16 c1) (.int .i64 (-1)) (.int .i64 0) (.int .i64 0))
  generalize ((((w1.setCell ⟨w.heap.size, 0, none⟩ (.int .i64 v)).setCell ⟨w.heap.size, 1, none⟩ (.slice (some ⟨q1, o1, none⟩) 16 c1)).setCell ⟨w.heap.size, 2, none⟩ (.int .i64 (-1))).setCell ⟨w.heap.size, 3, none⟩ (.int .i64 0)).setCell ⟨w.heap.size, 4, none⟩ (.int .i64 0) = w2 at *
  have Z2 := Lib.hid ((HB.out.z.grow G1.out).kept K2.out (by omega))
  have HQ2 : Hid (w.heap.size + 2 ≤ q1) := by have := Q1.out; have := HB.out.s; show _ ≤ _; omega
  have N2 := Lib.hid (N1.out.kept K2.out (by have := HQ2.out; omega))
  have G2 : Hid (Grow w w2) := (HB.out.g.trans G1.out).then K2.out fun k h1 e => by omega
  clear N1 Q1 G1 K2 HB
  obtain ⟨k0, k1, k2, k3, k4⟩ := cells5 B2.out
  go_upto_region 4 with (fail)
  clear k0 k1 k2 k3 k4
  have E5 := Lib.hid (Blk.new w2 25 [.int .i64 v, .slice (some ⟨q1, o1, none⟩) 16 c1, .int .i64 (B : Int), .int .i64 t, .int .i64 1])
  have G4 : Hid (Grow w (w2.alloc (.cells #[.int .i64 v, .slice (some ⟨q1, o1, none⟩) 16 c1, .int .i64 (B : Int), .int .i64 t, .int .i64 1] 25))) := G2.out.alloc _
  have B4 := Lib.hid (B2.out.alloc (.cells #[.int .i64 v, .slice (some ⟨q1, o1, none⟩) 16 c1, .int .i64 (B : Int), .int .i64 t, .int .i64 1] 25))
  have Z4 := Lib.hid (Z2.out.alloc (.cells #[.int .i64 v, .slice (some ⟨q1, o1, none⟩) 16 c1, .int .i64 (B : Int), .int .i64 t, .int .i64 1] 25))
  have N4 := Lib.hid (N2.out.kept ((Kept.refl (fun _ => False) w2).alloc (.cells #[.int .i64 v, .slice (some ⟨q1, o1, none⟩) 16 c1, .int .i64 (B : Int), .int .i64 t, .int .i64 1] 25)) id)
  generalize w2.alloc (.cells #[.int .i64 v, .slice (some ⟨q1, o1, none⟩) 16 c1, .int .i64 (B : Int), .int .i64 t, .int .i64 1] 25) = w4 at *
  clear B2 Z2 N2 G2
  obtain ⟨k0, k1, k2, k3, k4⟩ := cells5 B4.out
  obtain ⟨m0, m1, m2, m3, m4⟩ := cells5 E5.out
  go_wp2_with (first
    | (go_at_call 19; (with_reducible refine (CK.out _ _ _ () N4.out.has).mono ?_); rintro e w5 ⟨rfl, hg⟩; have G5 := Lib.hid hg; clear hg k0 k1 k2 k3 k4 m0 m1 m2 m3 m4; have B5 := Lib.hid (B4.out.grow G5.out); have Z5 := Lib.hid (Z4.out.grow G5.out); have N5 := Lib.hid (N4.out.grow G5.out); have E6 := Lib.hid (E5.out.grow G5.out); obtain ⟨k0, k1, k2, k3, k4⟩ := cells5 B5.out; obtain ⟨m0, m1, m2, m3, m4⟩ := cells5 E6.out; obtain ⟨j0, j1, j2, j3, j4⟩ := cells5 Z5.out; have fz := Z5.out.frozenAll)
    | (go_at_call 19; (with_reducible refine (CL.out _ _ _ () N5.out.has).mono ?_); rintro e w6 ⟨rfl, hg⟩; have G6 := Lib.hid hg; clear hg k0 k1 k2 k3 k4 m0 m1 m2 m3 m4 j0 j1 j2 j3 j4 fz; have B6 := Lib.hid (B5.out.grow G6.out); have Z6 := Lib.hid (Z5.out.grow G6.out); have N6 := Lib.hid (N5.out.grow G6.out); have E7 := Lib.hid (E6.out.grow G6.out); obtain ⟨k0, k1, k2, k3, k4⟩ := cells5 B6.out; obtain ⟨m0, m1, m2, m3, m4⟩ := cells5 E7.out; obtain ⟨j0, j1, j2, j3, j4⟩ := cells5 Z6.out; have fz := Z6.out.frozenAll))
  refine ret_dir2 rfl rfl (blk_set5 Z6.out) rfl ?_
  exact ⟨q1, o1, c1, rfl, N6.out.kept (kept_set5 _ _ _ _ _ _ _) (by have := HQ2.out; omega), by have := HQ2.out; omega, ((G4.out.trans G5.out).trans G6.out).then (kept_set5 _ _ _ _ _ _ _) fun k h1 e => by omega⟩
theorem begin_same {B : Nat} (h : Has w A 16 O) (hd : Ok 4 ⟨v, O, -1, 0, 0⟩) (hB : B < 16) (ht : t = O B) : Calls Try.prog 9 #[.agg #[.int .i64 v, .slice A 16 c, .int .i64 (-1), .int .i64 0, .int .i64 0], .int .i64 (B : Int), .int .i64 t] w (DrP v O (-1) 0 0 1 w) := by
  have CO := Lib.hid fun (w' : World) (hk : Grow w w') => own_any (v := v) (c := c) (b := -1) (t := 0) (p := 0) (h.grow hk)
  have CK := Lib.hid fun (w' : World) (A : Option Addr) (c : Nat) (X : Unit) (h : Has w' A 16 O) => known_good (c := c) (d := ⟨v, O, -1, 0, 0⟩) h hd
  have CL := Lib.hid fun (w' : World) (A : Option Addr) (c : Nat) (X : Unit) (h : Has w' A 16 O) => known_not (c := c) (v := v) (p := 1) h hd.own hd.v1 hd.v2 hB (.inl rfl) ht
  clear hB ht
  clear h hd
  go_enter Try.func9, Try.ntmps9
  go_upto_region 1 with (fail)
  have hb := boxes w 25 [.int .i64 v, .slice A 16 c, .int .i64 (-1), .int .i64 0, .int .i64 0] [.int .i64 0, .slice none 0 0, .int .i64 0, .int .i64 0, .int .i64 0]
  generalize (w.alloc (.cells #[.int .i64 v, .slice A 16 c, .int .i64 (-1), .int .i64 0, .int .i64 0] 25)).alloc (.cells #[.int .i64 0, .slice none 0 0, .int .i64 0, .int .i64 0, .int .i64 0] 25) = w0 at *
  have HB := Lib.hid hb
  obtain ⟨k0, k1, k2, k3, k4⟩ := cells5 hb.b
  clear hb
  go_upto_region 2 with (go_at_call 18; (with_reducible refine (CO.out _ HB.out.g).mono ?_); rintro e w1 ⟨q1, o1, c1, rfl, hn, hq, hg⟩; have N1 := Lib.hid hn; have Q1 := Lib.hid hq; have G1 := Lib.hid hg; clear hn hq hg k0 k1 k2 k3 k4; obtain ⟨k0, k1, k2, k3, k4⟩ := cells5 (HB.out.b.grow G1.out); have fz := (HB.out.b.grow G1.out).frozenAll)
  clear k0 k1 k2 k3 k4 fz
  have B2 : Hid (Blk (((((w1.setCell ⟨w.heap.size, 0, none⟩ (.int .i64 v)).setCell ⟨w.heap.size, 1, none⟩ (.slice (some ⟨q1, o1, none⟩) 16 c1)).setCell ⟨w.heap.size, 2, none⟩ (.int .i64 (-1))).setCell ⟨w.heap.size, 3, none⟩ (.int .i64 0)).setCell ⟨w.heap.size, 4, none⟩ (.int .i64 0)) w.heap.size 25 [.int .i64 v, .slice (some ⟨q1, o1, none⟩) 16 c1, .int .i64 (-1), .int .i64 0, .int .i64 0]) := blk_set5 (HB.out.b.grow G1.out)
  have K2 := Lib.hid (kept_set5 w1 w.heap.size (.int .i64 v) (.slice (some ⟨q1, o1, none⟩) 16 c1) (.int .i64 (-1)) (.int .i64 0) (.int .i64 0))
  generalize ((((w1.setCell ⟨w.heap.size, 0, none⟩ (.int .i64 v)).setCell ⟨w.heap.size, 1, none⟩ (.slice (some ⟨q1, o1, none⟩) 16 c1)).setCell ⟨w.heap.size, 2, none⟩ (.int .i64 (-1))).setCell ⟨w.heap.size, 3, none⟩ (.int .i64 0)).setCell ⟨w.heap.size, 4, none⟩ (.int .i64 0) = w2 at *
  have Z2 := Lib.hid ((HB.out.z.grow G1.out).kept K2.out (by omega))
  have HQ2 : Hid (w.heap.size + 2 ≤ q1) := by have := Q1.out; have := HB.out.s; show _ ≤ _; omega
  have N2 := Lib.hid (N1.out.kept K2.out (by have := HQ2.out; omega))
  have G2 : Hid (Grow w w2) := (HB.out.g.trans G1.out).then K2.out fun k h1 e => by omega
  clear N1 Q1 G1 K2 HB
  obtain ⟨k0, k1, k2, k3, k4⟩ := cells5 B2.out
  go_upto_region 4 with (fail)
  clear k0 k1 k2 k3 k4
  have E5 := Lib.hid (Blk.new w2 25 [.int .i64 v, .slice (some ⟨q1, o1, none⟩) 16 c1, .int .i64 (B : Int), .int .i64 t, .int .i64 1])
  have G4 : Hid (Grow w (w2.alloc (.cells #[.int .i64 v, .slice (some ⟨q1, o1, none⟩) 16 c1, .int .i64 (B : Int), .int .i64 t, .int .i64 1] 25))) := G2.out.alloc _
  have B4 := Lib.hid (B2.out.alloc (.cells #[.int .i64 v, .slice (some ⟨q1, o1, none⟩) 16 c1, .int .i64 (B : Int), .int .i64 t, .int .i64 1] 25))
  have Z4 := Lib.hid (Z2.out.alloc (.cells #[.int .i64 v, .slice (some ⟨q1, o1, none⟩) 16 c1, .int .i64 (B : Int), .int .i64 t, .int .i64 1] 25))
  have N4 := Lib.hid (N2.out.kept ((Kept.refl (fun _ => False) w2).alloc (.cells #[.int .i64 v, .slice (some ⟨q1, o1, none⟩) 16 c1, .int .i64 (B : Int), .int .i64 t, .int .i64 1] 25)) id)
  generalize w2.alloc (.cells #[.int .i64 v, .slice (some ⟨q1, o1, none⟩) 16 c1, .int .i64 (B : Int), .int .i64 t, .int .i64 1] 25) = w4 at *
  clear B2 Z2 N2 G2
  obtain ⟨k0, k1, k2, k3, k4⟩ := cells5 B4.out
  obtain ⟨m0, m1, m2, m3, m4⟩ := cells5 E5.out
  go_wp2_with (first
    | (go_at_call 19; (with_reducible refine (CK.out _ _ _ () N4.out.has).mono ?_); rintro e w5 ⟨rfl, hg⟩; have G5 := Lib.hid hg; clear hg k0 k1 k2 k3 k4 m0 m1 m2 m3 m4; have B5 := Lib.hid (B4.out.grow G5.out); have Z5 := Lib.hid (Z4.out.grow G5.out); have N5 := Lib.hid (N4.out.grow G5.out); have E6 := Lib.hid (E5.out.grow G5.out); obtain ⟨k0, k1, k2, k3, k4⟩ := cells5 B5.out; obtain ⟨m0, m1, m2, m3, m4⟩ := cells5 E6.out; obtain ⟨j0, j1, j2, j3, j4⟩ := cells5 Z5.out; have fz := Z5.out.frozenAll)
    | (go_at_call 19; (with_reducible refine (CL.out _ _ _ () N5.out.has).mono ?_); rintro e w6 ⟨rfl, hg⟩; have G6 := Lib.hid hg; clear hg k0 k1 k2 k3 k4 m0 m1 m2 m3 m4 j0 j1 j2 j3 j4 fz; have B6 := Lib.hid (B5.out.grow G6.out); have Z6 := Lib.hid (Z5.out.grow G6.out); have N6 := Lib.hid (N5.out.grow G6.out); have E7 := Lib.hid (E6.out.grow G6.out); obtain ⟨k0, k1, k2, k3, k4⟩ := cells5 B6.out; obtain ⟨m0, m1, m2, m3, m4⟩ := cells5 E7.out; obtain ⟨j0, j1, j2, j3, j4⟩ := cells5 Z6.out; have fz := Z6.out.frozenAll))
  refine ret_dir2 rfl rfl (blk_set5 Z6.out) rfl ?_
  exact ⟨q1, o1, c1, rfl, N6.out.kept (kept_set5 _ _ _ _ _ _ _) (by have := HQ2.out; omega), by have := HQ2.out; omega, ((G4.out.trans G5.out).trans G6.out).then (kept_set5 _ _ _ _ _ _ _) fun k h1 e => by omega⟩
end
end Go.Proofs.Ytfmlbpnilblkjaa.DrD
