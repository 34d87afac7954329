/-
  Package dir (chapter 19): Bucket, is, still, own, owned, moves, Same, May, known, Shard.
-/
import Derived.Test.YtfmlbpnilblkjaaHas
import Derived.Test.YtfmlbpnilblkjaaTrees
import Derived.Laws.ResultCell
namespace Go.Proofs.Ytfmlbpnilblkjaa.DrC
open Go.ChangeShapes Go.WideShapes Go.ChangeAt Go.RowKit
open Go.Proofs.Ytfmlbpnilblkjaa.Mem Go.Proofs.Ytfmlbpnilblkjaa.Blk Go.Proofs.Ytfmlbpnilblkjaa.Cells Go.Proofs.Ytfmlbpnilblkjaa.GsC Go.Proofs.Ytfmlbpnilblkjaa.HasC Go.Proofs.Ytfmlbpnilblkjaa.Stages Go.Proofs.Ytfmlbpnilblkjaa.Trees

/-- A directory: its version, the owner of each bucket, the bucket that moves, where to, how far. -/
structure Dr where
  v : Int
  O : Nat → Int
  b : Int
  t : Int
  p : Int
/-- There may be such a directory of n shards. -/
structure Ok (n : Int) (d : Dr) : Prop where
  own : ∀ j, j < 16 → 0 ≤ d.O j ∧ d.O j < n
  v1 : 1 ≤ d.v
  v2 : d.v ≤ 1073741824
  st : (d.b = -1 ∧ d.t = 0 ∧ d.p = 0) ∨ ∃ B : Nat, B < 16 ∧ d.b = (B : Int) ∧ 0 ≤ d.t ∧ d.t < n ∧ d.t ≠ d.O B ∧ (d.p = 1 ∨ d.p = 2)
/-- The bucket of a page. -/
def bkt (p : Nat) : Nat := (7 * (p % 16) + p / 16 % 16) % 16
theorem bkt_lt (p : Nat) : bkt p < 16 := Nat.mod_lt _ (by omega)

section
variable {w w' : World} {A : Option Addr} {c g : Nat} {v b t p x y n : Int} {O : Nat → Int} {d : Dr} {F : Nat → Prop}
theorem Ok.more {m : Int} (h : Ok n d) (hm : n ≤ m) : Ok m d :=
  ⟨fun j hj => by have := h.own j hj; omega, h.v1, h.v2, h.st.imp id fun ⟨B, h1, h2, h3, h4, h5, h6⟩ => ⟨B, h1, h2, h3, by omega, h5, h6⟩⟩
theorem Has.kept {m : Nat} (h : Has w A m O) (hk : Kept F w w') (hF : ∀ a, A = some a → ¬ F a.block) : Has w' A m O := fun hn => by
  obtain ⟨b, o, rfl, hc⟩ := h hn
  exact ⟨b, o, rfl, fun j hj => hk.cellN (hc j hj) (hF ⟨b, o, none⟩ rfl)⟩

/-- The cells of a block of five. -/
theorem cells5 {x0 x1 x2 x3 x4 : Value} {ty : TypeId} (h : Blk w g ty [x0, x1, x2, x3, x4]) : w.cell? ⟨g, 0, none⟩ = some x0 ∧ w.cell? ⟨g, 1, none⟩ = some x1 ∧ w.cell? ⟨g, 2, none⟩ = some x2 ∧ w.cell? ⟨g, 3, none⟩ = some x3 ∧ w.cell? ⟨g, 4, none⟩ = some x4 :=
  ⟨h.cell 0, h.cell 1, h.cell 2, h.cell 3, h.cell 4⟩
/-- Five stores. -/
def set5 (w : World) (g : Nat) (x0 x1 x2 x3 x4 : Value) : World := ((((w.setCell ⟨g, 0, none⟩ x0).setCell ⟨g, 1, none⟩ x1).setCell ⟨g, 2, none⟩ x2).setCell ⟨g, 3, none⟩ x3).setCell ⟨g, 4, none⟩ x4
theorem blk_set5 {y0 y1 y2 y3 y4 x0 x1 x2 x3 x4 : Value} {ty : TypeId} (h : Blk w g ty [y0, y1, y2, y3, y4]) :
    Blk (((((w.setCell ⟨g, 0, none⟩ x0).setCell ⟨g, 1, none⟩ x1).setCell ⟨g, 2, none⟩ x2).setCell ⟨g, 3, none⟩ x3).setCell ⟨g, 4, none⟩ x4) g ty [x0, x1, x2, x3, x4] := ((((h.set 0 _).set 1 _).set 2 _).set 3 _).set 4 _
theorem kept_set5 (w : World) (g : Nat) (x0 x1 x2 x3 x4 : Value) :
    Kept (fun k => k = g) w (((((w.setCell ⟨g, 0, none⟩ x0).setCell ⟨g, 1, none⟩ x1).setCell ⟨g, 2, none⟩ x2).setCell ⟨g, 3, none⟩ x3).setCell ⟨g, 4, none⟩ x4) :=
  ((((kept_set _ _ _ _).trans (kept_set _ _ _ _)).trans (kept_set _ _ _ _)).trans (kept_set _ _ _ _)).trans (kept_set _ _ _ _)

theorem dir_size : (Try.prog.info? 25).map (·.size) = some 5 := by kernel_rfl
theorem load_dir {ty : TypeId} {x0 x1 x2 x3 x4 : Value} (hg : Blk w g ty [x0, x1, x2, x3, x4]) : (loadVar 25 ⟨g, 0, none⟩).run Try.prog w = .ok (.agg #[x0, x1, x2, x3, x4]) w :=
  run_loadVar_row w g ty 25 #[x0, x1, x2, x3, x4] (0, 0) _ hg Try.underlying25 rfl dir_size
theorem ret_dir {fn : Func} {R : Ending → World → Prop} {a : Act} {ty : TypeId} {q : Nat} {x0 x1 x2 x3 x4 : Value} (h : fn.results = #[.cell q 25]) (hp : a.tmps.getD q undef = .pointer (some ⟨g, 0, none⟩)) (hg : Blk w g ty [x0, x1, x2, x3, x4]) (hd : a.defers = []) (hR : R (.returned (.agg #[x0, x1, x2, x3, x4])) w) : bodyPost Try.prog fn R .ret a w := by
  refine bodyPost_ret ?_ hd hR
  have hp' : a.tmps[q]?.getD undef = .pointer (some ⟨g, 0, none⟩) := by simpa using hp
  simp [results, h, hp', asAddr, load_dir hg]
theorem ret_dir2 {fn : Func} {R : Ending → World → Prop} {a : Act} {ty : TypeId} {q u : Nat} {x0 x1 x2 x3 x4 : Value} (h : fn.results = #[.cell q 25, .tmp u]) (hp : a.tmps.getD q undef = .pointer (some ⟨g, 0, none⟩)) (hg : Blk w g ty [x0, x1, x2, x3, x4]) (hd : a.defers = []) (hR : R (.returned (.tuple #[.agg #[x0, x1, x2, x3, x4], a.tmps.getD u undef])) w) : bodyPost Try.prog fn R .ret a w := by
  refine bodyPost_ret ?_ hd hR
  have hp' : a.tmps[q]?.getD undef = .pointer (some ⟨g, 0, none⟩) := by simpa using hp
  simp [results, h, hp', asAddr, load_dir hg]

/-- A box, and one of zeros behind it. -/
structure Boxes (w w0 : World) (ty : TypeId) (X Z : List Value) : Prop where
  b : Blk w0 w.heap.size ty X
  z : Blk w0 (w.heap.size + 1) ty Z
  g : Grow w w0
  s : w0.heap.size = w.heap.size + 2
theorem boxes (w : World) (ty : TypeId) (X Z : List Value) : Boxes w ((w.alloc (.cells X.toArray ty)).alloc (.cells Z.toArray ty)) ty X Z := by
  have e1 : (w.alloc (.cells X.toArray ty)).heap.size = w.heap.size + 1 := by simp
  refine ⟨(Blk.new w ty X).alloc _, ?_, ((Kept.refl _ _).alloc _).alloc _, by simp⟩
  have := Blk.new (w.alloc (.cells X.toArray ty)) ty Z
  rwa [e1] at this

theorem bucket_good (m : Nat) (hm : (m : Int) ≤ 9223372036854775807) : Calls Try.prog 15 #[.int .i64 (m : Int)] w fun e w' => e = .returned (.int .i64 (bkt m : Int)) ∧ w = w' := by
  have h0 : 0 ≤ (m : Int) := by omega
  have e : (bkt m : Int) = (7 * ((m : Int) % 16) + (m : Int) / 16 % 16) % 16 := by unfold bkt; omega
  rw [e]
  clear e
  go_enter Try.func15, Try.ntmps15
  go_wp2
  go_ret
  exact ⟨rfl, rfl⟩
theorem bucket_none (hx : x < 0) : Calls Try.prog 15 #[.int .i64 x] w fun e w' => e = .returned (.int .i64 (-1)) ∧ w = w' := by
  go_enter Try.func15, Try.ntmps15
  go_wp2
  go_ret
  exact ⟨rfl, rfl⟩
theorem is_any (x y : Int) : Calls Try.prog 24 #[.int .i64 x, .int .i64 y] w fun e w' => e = .returned (.bool (decide (0 ≤ x ∧ x < y))) ∧ w = w' := by
  by_cases h0 : 0 ≤ x
  · by_cases h1 : x < y
    · rw [show decide (0 ≤ x ∧ x < y) = true from decide_eq_true ⟨h0, h1⟩]
      go_enter Try.func24, Try.ntmps24
      go_wp2
      go_ret
      exact ⟨rfl, rfl⟩
    · rw [show decide (0 ≤ x ∧ x < y) = false from decide_eq_false fun h => h1 h.2]
      have h2 : decide (x < y) = false := decide_eq_false h1
      go_enter Try.func24, Try.ntmps24
      go_wp2
      go_ret
      exact ⟨rfl, rfl⟩
  · rw [show decide (0 ≤ x ∧ x < y) = false from decide_eq_false fun h => h0 h.1]
    have h2 : x < 0 := by omega
    clear h0
    go_enter Try.func24, Try.ntmps24
    go_wp2
    go_ret
    exact ⟨rfl, rfl⟩
theorem is_yes (h0 : 0 ≤ x) (h1 : x < y) : Calls Try.prog 24 #[.int .i64 x, .int .i64 y] w fun e w' => e = .returned (.bool true) ∧ w = w' := by
  have := is_any (w := w) x y
  rwa [show decide (0 ≤ x ∧ x < y) = true from decide_eq_true ⟨h0, h1⟩] at this

theorem still_any {m : Nat} : Calls Try.prog 17 #[.agg #[.int .i64 v, .slice A m c, .int .i64 b, .int .i64 t, .int .i64 p]] w fun e w' => e = .returned (.agg #[.int .i64 v, .slice A m c, .int .i64 (-1), .int .i64 0, .int .i64 0]) ∧ Grow w w' := by
  go_enter Try.func17, Try.ntmps17
  go_upto_region 1 with (fail)
  have hb := boxes w 25 [.int .i64 v, .slice A m c, .int .i64 b, .int .i64 t, .int .i64 p] [.int .i64 0, .slice none 0 0, .int .i64 0, .int .i64 0, .int .i64 0]
  generalize (w.alloc (.cells #[.int .i64 v, .slice A m c, .int .i64 b, .int .i64 t, .int .i64 p] 25)).alloc (.cells #[.int .i64 0, .slice none 0 0, .int .i64 0, .int .i64 0, .int .i64 0] 25) = w0 at *
  have HB := Lib.hid hb
  obtain ⟨k0, k1, k2, k3, k4⟩ := cells5 hb.b
  have fz := hb.b.frozenAll
  clear hb
  go_upto_region 2 with (fail)
  clear k0 k1 k2 k3 k4 fz
  have B1 : Hid (Blk (((w0.setCell ⟨w.heap.size, 2, none⟩ (.int .i64 (-1))).setCell ⟨w.heap.size, 3, none⟩ (.int .i64 0)).setCell ⟨w.heap.size, 4, none⟩ (.int .i64 0)) w.heap.size 25 [.int .i64 v, .slice A m c, .int .i64 (-1), .int .i64 0, .int .i64 0]) := ((HB.out.b.set 2 _).set 3 _).set 4 _
  have K1 := Lib.hid (((kept_set w0 w.heap.size 2 (.int .i64 (-1))).trans (kept_set _ w.heap.size 3 (.int .i64 0))).trans (kept_set _ w.heap.size 4 (.int .i64 0)))
  generalize ((w0.setCell ⟨w.heap.size, 2, none⟩ (.int .i64 (-1))).setCell ⟨w.heap.size, 3, none⟩ (.int .i64 0)).setCell ⟨w.heap.size, 4, none⟩ (.int .i64 0) = w1 at *
  have Z1 := Lib.hid (HB.out.z.kept K1.out (by omega))
  have G1 : Hid (Grow w w1) := HB.out.g.then K1.out fun k h1 e => by omega
  obtain ⟨k0, k1, k2, k3, k4⟩ := cells5 B1.out
  obtain ⟨j0, j1, j2, j3, j4⟩ := cells5 Z1.out
  have fz := Z1.out.frozenAll
  go_wp2
  refine ret_dir rfl rfl (blk_set5 Z1.out) rfl ?_
  exact ⟨rfl, G1.out.then (kept_set5 _ _ _ _ _ _ _) fun k h1 e => by omega⟩

/-- The directory with a list of its own. -/
def OwnP (v : Int) (O : Nat → Int) (b t p : Int) (w : World) (e : Ending) (w' : World) : Prop :=
  ∃ q o c, e = .returned (.agg #[.int .i64 v, .slice (some ⟨q, o, none⟩) 16 c, .int .i64 b, .int .i64 t, .int .i64 p]) ∧ Nm w' q o 16 O ∧ w.heap.size ≤ q ∧ Grow w w'
theorem own_any (h : Has w A 16 O) : Calls Try.prog 18 #[.agg #[.int .i64 v, .slice A 16 c, .int .i64 b, .int .i64 t, .int .i64 p]] w (OwnP v O b t p w) := by
  have HC := Lib.hid fun (w' : World) (hk : Grow w w') => clone_has (c := c) (h.grow hk) (by omega) (by omega)
  clear h
  go_enter Try.func18, Try.ntmps18
  go_upto_region 1 with (fail)
  have hb := boxes w 25 [.int .i64 v, .slice A 16 c, .int .i64 b, .int .i64 t, .int .i64 p] [.int .i64 0, .slice none 0 0, .int .i64 0, .int .i64 0, .int .i64 0]
  generalize (w.alloc (.cells #[.int .i64 v, .slice A 16 c, .int .i64 b, .int .i64 t, .int .i64 p] 25)).alloc (.cells #[.int .i64 0, .slice none 0 0, .int .i64 0, .int .i64 0, .int .i64 0] 25) = w0 at *
  have HB := Lib.hid hb
  obtain ⟨k0, k1, k2, k3, k4⟩ := cells5 hb.b
  clear hb
  go_upto_region 2 with (go_at_call 23; (with_reducible refine (HC.out _ HB.out.g).mono ?_); rintro e w1 ⟨q1, o1, c1, rfl, hn, hq, hg⟩; have N1 := Lib.hid hn; have Q1 := Lib.hid hq; have G1 := Lib.hid hg; clear hn hq hg k0 k1 k2 k3 k4; obtain ⟨k0, k1, k2, k3, k4⟩ := cells5 (HB.out.b.grow G1.out); have fz := (HB.out.b.grow G1.out).frozenAll)
  clear k0 k1 k2 k3 k4 fz
  have B1 : Hid (Blk (w1.setCell ⟨w.heap.size, 1, none⟩ (.slice (some ⟨q1, o1, none⟩) 16 c1)) w.heap.size 25 [.int .i64 v, .slice (some ⟨q1, o1, none⟩) 16 c1, .int .i64 b, .int .i64 t, .int .i64 p]) := (HB.out.b.grow G1.out).set 1 _
  have K1 := Lib.hid (kept_set w1 w.heap.size 1 (.slice (some ⟨q1, o1, none⟩) 16 c1))
  generalize w1.setCell ⟨w.heap.size, 1, none⟩ (.slice (some ⟨q1, o1, none⟩) 16 c1) = w2 at *
  have Z1 := Lib.hid ((HB.out.z.grow G1.out).kept K1.out (by omega))
  have N2 := Lib.hid (N1.out.kept K1.out (by have := Q1.out; have := HB.out.s; omega))
  have G2 : Hid (Grow w w2) := (HB.out.g.trans G1.out).then K1.out fun k h1 e => by omega
  obtain ⟨k0, k1, k2, k3, k4⟩ := cells5 B1.out
  obtain ⟨j0, j1, j2, j3, j4⟩ := cells5 Z1.out
  have fz := Z1.out.frozenAll
  go_wp2
  refine ret_dir rfl rfl (blk_set5 Z1.out) rfl ?_
  have hs := HB.out.s
  have hq := Q1.out
  exact ⟨q1, o1, c1, rfl, N2.out.kept (kept_set5 _ _ _ _ _ _ _) (by omega), by omega, G2.out.then (kept_set5 _ _ _ _ _ _ _) fun k h1 e => by omega⟩
end
end Go.Proofs.Ytfmlbpnilblkjaa.DrC
