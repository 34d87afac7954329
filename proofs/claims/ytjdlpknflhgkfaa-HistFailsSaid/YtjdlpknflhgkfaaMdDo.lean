/-
  The document's state (lavaboref13.S): Do.
-/
import Derived.Test.YtjdlpknflhgkfaaMdRef
import Derived.Test.YtjdlpknflhgkfaaTrees
import Derived.Lib.ConvBytes
namespace Go.Proofs.Ytjdlpknflhgkfaa.MdD
open Go.ChangeShapes Go.WideShapes Go.ChangeAt Go.RowKit
open Go.Proofs.Ytjdlpknflhgkfaa.Mem Go.Proofs.Ytjdlpknflhgkfaa.Blk Go.Proofs.Ytjdlpknflhgkfaa.Cells Go.Proofs.Ytjdlpknflhgkfaa.Orow Go.Proofs.Ytjdlpknflhgkfaa.GrC Go.Proofs.Ytjdlpknflhgkfaa.Txt Go.Proofs.Ytjdlpknflhgkfaa.MdM Go.Proofs.Ytjdlpknflhgkfaa.MdC Go.Proofs.Ytjdlpknflhgkfaa.MdR Go.Proofs.Ytjdlpknflhgkfaa.Stages Go.Proofs.Ytjdlpknflhgkfaa.Trees
open Go.Proofs.Ytjdlpknflhgkfaa.HdM (lst hnd cnt sum lst_eq hnd_at hnd_none hnd_cases cnt_yes cnt_no cnt_le sum_le)

/-- The value v is the call o; its data lie below block b. -/
def OpV (w : World) (b : Nat) (v : Value) (o : MdOp) : Prop := ∃ D dl dc, v = .agg #[.int .i64 o.k, .int .i64 o.p, .int .i64 o.h, .int .i64 o.o, .int .i64 o.n, .slice D dl dc] ∧ Sl w b .u8 D dl o.d ∧ Bytes o.d ∧ dl ≤ dc ∧ dc ≤ maxLen
/-- What a call answers, and what it makes of the state. -/
def DoPost (G : Nat → Prop) (v : Value) (w : World) (x : Re × Md) (e : Ending) (w' : World) : Prop := (∃ rv, e = .returned rv ∧ ReV w' w.heap.size rv x.1) ∧ SAt w' G v x.2 ∧ Kept G w w'
section
variable {w w0 w1 : World} {G F X : Nat → Prop} {v : Value} {gT cT gB cB gH cH s : Nat} {q cp : Nat → Nat} {a a' : Md} {o : MdOp} {D : Option Addr} {dl dc : Nat}
theorem smKeep (h : SM w G gT cT gB cB gH cH q cp a) (hk : Kept F w w1) (h1 : ¬ F gT) (h2 : ¬ F gB) (h3 : ¬ F gH) (h4 : ∀ i, i < a.N → ¬ F (q i)) : SM w1 G gT cT gB cB gH cH q cp a :=
  ⟨h.tb.kept hk h1, h.bb.kept hk h2, h.hb.kept hk h3, fun i hi => (h.rb i hi).kept hk (h4 i hi), h.inj, h.ne, h.nq, h.inG, h.qG⟩
/-- The three boxes of the call. -/
structure Bx (w w0 : World) (G : Nat → Prop) (gT cT gB cB gH cH : Nat) (q cp : Nat → Nat) (a : Md) (s : Nat) (o : MdOp) (D : Option Addr) (dl dc : Nat) : Prop where
  s0 : w0.cell? ⟨s, 0, none⟩ = some (.slice (some ⟨gT, 0, none⟩) a.n cT)
  s1 : w0.cell? ⟨s, 1, none⟩ = some (.slice (some ⟨gB, 0, none⟩) a.n cB)
  s2 : w0.cell? ⟨s, 2, none⟩ = some (.slice (some ⟨gH, 0, none⟩) a.N cH)
  sb : Blk w0 s 44 [.slice (some ⟨gT, 0, none⟩) a.n cT, .slice (some ⟨gB, 0, none⟩) a.n cB, .slice (some ⟨gH, 0, none⟩) a.N cH]
  ob : Blk w0 (s + 1) 25 [.int .i64 o.k, .int .i64 o.p, .int .i64 o.h, .int .i64 o.o, .int .i64 o.n, .slice D dl dc]
  rb : Blk w0 (s + 1 + 1) 27 [.int .i64 0, .int .i64 0, .int .i64 0, .slice none 0 0]
  sm : SM w0 G gT cT gB cB gH cH q cp a
  gr : Grow w w0
  sz : s = w.heap.size
  lt : ∀ k, G k → k < s
  da : Sl w0 s .u8 D dl o.d
abbrev put4 (w : World) (g : Nat) (x y z d : Value) : World := (((w.setCell ⟨g, 0, none⟩ x).setCell ⟨g, 1, none⟩ y).setCell ⟨g, 2, none⟩ z).setCell ⟨g, 3, none⟩ d
theorem put4_blk {g : Nat} {t : TypeId} {x y z d x' y' z' d' : Value} (h : Blk w g t [x', y', z', d']) : Blk (put4 w g x y z d) g t [x, y, z, d] := (((h.set 0 x).set 1 y).set 2 z).set 3 d
theorem put4_kept (w : World) (g : Nat) (x y z d : Value) : Kept (· = g) w (put4 w g x y z d) := (((kept_set w g 0 x).trans (kept_set _ g 1 y)).trans (kept_set _ g 2 z)).trans (kept_set _ g 3 d)
theorem Bx.fin (H : Bx w w0 G gT cT gB cB gH cH q cp a s o D dl dc) (hs : SM w1 G gT cT gB cB gH cH q cp a') (hg : MdM.Good a') (hn : a'.n = a.n) (hN : a'.N = a.N) (hk : Kept G w0 w1) (c p h : Int) :
    Blk (put4 w1 (s + 1 + 1) (.int .i64 c) (.int .i64 p) (.int .i64 h) (.slice none 0 0)) (s + 1 + 1) 27 [.int .i64 c, .int .i64 p, .int .i64 h, .slice none 0 0] ∧
    DoPost G (sval gT cT gB cB gH cH a) w (⟨c, p, h, []⟩, a') (.returned (.agg #[.int .i64 c, .int .i64 p, .int .i64 h, .slice none 0 0])) (put4 w1 (s + 1 + 1) (.int .i64 c) (.int .i64 p) (.int .i64 h) (.slice none 0 0)) := by
  have hlt := H.lt
  have h2 : ∀ k, G k → ¬ k = s + 1 + 1 := fun k hk e => by have := hlt k hk; omega
  have hsz := H.sz
  refine ⟨put4_blk (H.rb.kept hk fun x => h2 _ x rfl), ⟨_, rfl, rev_none _ _ _ _ _⟩, ⟨hg, gT, cT, gB, cB, gH, cH, q, cp, ?_, smKeep hs (put4_kept w1 (s + 1 + 1) _ _ _ _) (h2 _ hs.inG.1) (h2 _ hs.inG.2.1) (h2 _ hs.inG.2.2) fun i hi => h2 _ (hs.qG i hi)⟩, ?_⟩
  · unfold sval; rw [hn, hN]
  · exact (H.gr.kept.trans hk).then (put4_kept w1 (s + 1 + 1) _ _ _ _) fun k hk e => by have e : k = s + 1 + 1 := e; omega
/-- An error. -/
theorem Bx.bad (H : Bx w w0 G gT cT gB cB gH cH q cp a s o D dl dc) (hg : MdM.Good a) (hk : Grow w0 w1) (c : Int) :
    Blk (put4 w1 (s + 1 + 1) (.int .i64 c) (.int .i64 0) (.int .i64 0) (.slice none 0 0)) (s + 1 + 1) 27 [.int .i64 c, .int .i64 0, .int .i64 0, .slice none 0 0] ∧
    DoPost G (sval gT cT gB cB gH cH a) w (err c, a) (.returned (.agg #[.int .i64 c, .int .i64 0, .int .i64 0, .slice none 0 0])) (put4 w1 (s + 1 + 1) (.int .i64 c) (.int .i64 0) (.int .i64 0) (.slice none 0 0)) :=
  H.fin (H.sm.kept hk fun _ _ x => x) hg rfl rfl hk.kept c 0 0
theorem bx_new (hm : SM w G gT cT gB cB gH cH q cp a) (hlt : ∀ k, G k → k < w.heap.size) (hd : Sl w w.heap.size .u8 D dl o.d) :
    Bx w (((w.alloc (.cells #[.slice (some ⟨gT, 0, none⟩) a.n cT, .slice (some ⟨gB, 0, none⟩) a.n cB, .slice (some ⟨gH, 0, none⟩) a.N cH] 44)).alloc (.cells #[.int .i64 o.k, .int .i64 o.p, .int .i64 o.h, .int .i64 o.o, .int .i64 o.n, .slice D dl dc] 25)).alloc (.cells #[.int .i64 0, .int .i64 0, .int .i64 0, .slice none 0 0] 27)) G gT cT gB cB gH cH q cp a w.heap.size o D dl dc := by
  have b1 := Blk.new w 44 [.slice (some ⟨gT, 0, none⟩) a.n cT, .slice (some ⟨gB, 0, none⟩) a.n cB, .slice (some ⟨gH, 0, none⟩) a.N cH]
  have g1 : Grow w (w.alloc (.cells #[.slice (some ⟨gT, 0, none⟩) a.n cT, .slice (some ⟨gB, 0, none⟩) a.n cB, .slice (some ⟨gH, 0, none⟩) a.N cH] 44)) := (Kept.refl _ _).alloc _
  have z1 : (w.alloc (.cells #[.slice (some ⟨gT, 0, none⟩) a.n cT, .slice (some ⟨gB, 0, none⟩) a.n cB, .slice (some ⟨gH, 0, none⟩) a.N cH] 44)).heap.size = w.heap.size + 1 := by simp
  generalize w.alloc (.cells #[.slice (some ⟨gT, 0, none⟩) a.n cT, .slice (some ⟨gB, 0, none⟩) a.n cB, .slice (some ⟨gH, 0, none⟩) a.N cH] 44) = u1 at *
  have b2 := Blk.new u1 25 [.int .i64 o.k, .int .i64 o.p, .int .i64 o.h, .int .i64 o.o, .int .i64 o.n, .slice D dl dc]
  have g2 : Grow u1 (u1.alloc (.cells #[.int .i64 o.k, .int .i64 o.p, .int .i64 o.h, .int .i64 o.o, .int .i64 o.n, .slice D dl dc] 25)) := (Kept.refl _ _).alloc _
  have z2 : (u1.alloc (.cells #[.int .i64 o.k, .int .i64 o.p, .int .i64 o.h, .int .i64 o.o, .int .i64 o.n, .slice D dl dc] 25)).heap.size = w.heap.size + 1 + 1 := by simp [z1]
  rw [z1] at b2
  generalize u1.alloc (.cells #[.int .i64 o.k, .int .i64 o.p, .int .i64 o.h, .int .i64 o.o, .int .i64 o.n, .slice D dl dc] 25) = u2 at *
  have b3 := Blk.new u2 27 [.int .i64 0, .int .i64 0, .int .i64 0, .slice none 0 0]
  have g3 : Grow u2 (u2.alloc (.cells #[.int .i64 0, .int .i64 0, .int .i64 0, .slice none 0 0] 27)) := (Kept.refl _ _).alloc _
  rw [z2] at b3
  have bs := (b1.grow g2).grow g3
  exact ⟨bs.cell 0, bs.cell 1, bs.cell 2, bs, b2.grow g3, b3, hm.kept ((g1.trans g2).trans g3) fun _ _ x => x, (g1.trans g2).trans g3, rfl, hlt, Blk.Sl.kept hd ((g1.trans g2).trans g3) (Nat.le_refl _) fun _ _ x => x⟩
section
variable (H : Bx w w0 G gT cT gB cB gH cH q cp a s o D dl dc)
include H
theorem Bx.o0 : w0.cell? ⟨s + 1, 0, none⟩ = some (.int .i64 o.k) := H.ob.cell 0
theorem Bx.o1 : w0.cell? ⟨s + 1, 1, none⟩ = some (.int .i64 o.p) := H.ob.cell 1
theorem Bx.o2 : w0.cell? ⟨s + 1, 2, none⟩ = some (.int .i64 o.h) := H.ob.cell 2
theorem Bx.o3 : w0.cell? ⟨s + 1, 3, none⟩ = some (.int .i64 o.o) := H.ob.cell 3
theorem Bx.o4 : w0.cell? ⟨s + 1, 4, none⟩ = some (.int .i64 o.n) := H.ob.cell 4
theorem Bx.o5 : w0.cell? ⟨s + 1, 5, none⟩ = some (.slice D dl dc) := H.ob.cell 5
theorem Bx.s0K (hk : Kept G w0 w1) : w1.cell? ⟨s, 0, none⟩ = some (.slice (some ⟨gT, 0, none⟩) a.n cT) := hk.cellN H.s0 fun (x : G s) => absurd (H.lt s x) (Nat.lt_irrefl s)
theorem Bx.s1K (hk : Kept G w0 w1) : w1.cell? ⟨s, 1, none⟩ = some (.slice (some ⟨gB, 0, none⟩) a.n cB) := hk.cellN H.s1 fun (x : G s) => absurd (H.lt s x) (Nat.lt_irrefl s)
theorem Bx.s2K (hk : Kept G w0 w1) : w1.cell? ⟨s, 2, none⟩ = some (.slice (some ⟨gH, 0, none⟩) a.N cH) := hk.cellN H.s2 fun (x : G s) => absurd (H.lt s x) (Nat.lt_irrefl s)
theorem Bx.resK (hk : Kept G w0 w1) : w1.cell? ⟨s + 1 + 1, 0, none⟩ = some (.int .i64 0) ∧ w1.cell? ⟨s + 1 + 1, 1, none⟩ = some (.int .i64 0) ∧ w1.cell? ⟨s + 1 + 1, 2, none⟩ = some (.int .i64 0) ∧ w1.cell? ⟨s + 1 + 1, 3, none⟩ = some (.slice none 0 0) ∧ ∀ j, w1.frozen? ⟨s + 1 + 1, j, none⟩ = false := by
  have hb := H.rb.kept hk fun x => by have := H.lt _ x; omega
  exact ⟨hb.cell 0, hb.cell 1, hb.cell 2, hb.cell 3, hb.frozen⟩
theorem Bx.res (hk : Grow w0 w1) : w1.cell? ⟨s + 1 + 1, 0, none⟩ = some (.int .i64 0) ∧ w1.cell? ⟨s + 1 + 1, 1, none⟩ = some (.int .i64 0) ∧ w1.cell? ⟨s + 1 + 1, 2, none⟩ = some (.int .i64 0) ∧ w1.cell? ⟨s + 1 + 1, 3, none⟩ = some (.slice none 0 0) ∧ ∀ j, w1.frozen? ⟨s + 1 + 1, j, none⟩ = false := H.resK hk.kept
theorem Bx.sat (hg : MdM.Good a) : SAt w0 G (sval gT cT gB cB gH cH a) a := ⟨hg, gT, cT, gB, cB, gH, cH, q, cp, rfl, H.sm⟩
theorem Bx.finD (hg : MdM.Good a) (hk : Grow w0 w1) {A : Option Addr} {n cap : Nat} {zs : List Int} (hz : Sl w1 w1.heap.size .u8 A n zs) (hA : 0 < n → ∀ x, A = some x → w.heap.size ≤ x.block ∧ x.block ≠ s + 1 + 1) :
    Blk (put4 w1 (s + 1 + 1) (.int .i64 0) (.int .i64 0) (.int .i64 0) (.slice A n cap)) (s + 1 + 1) 27 [.int .i64 0, .int .i64 0, .int .i64 0, .slice A n cap] ∧
    DoPost G (sval gT cT gB cB gH cH a) w (⟨0, 0, 0, zs⟩, a) (.returned (.agg #[.int .i64 0, .int .i64 0, .int .i64 0, .slice A n cap])) (put4 w1 (s + 1 + 1) (.int .i64 0) (.int .i64 0) (.int .i64 0) (.slice A n cap)) := by
  have hlt := H.lt
  have h2 : ∀ k, G k → ¬ k = s + 1 + 1 := fun k hk e => by have := hlt k hk; omega
  have hsz := H.sz
  have hs : SAt w1 G (sval gT cT gB cB gH cH a) a := ⟨hg, gT, cT, gB, cB, gH, cH, q, cp, rfl, H.sm.kept hk fun _ _ x => x⟩
  refine ⟨put4_blk (H.rb.kept hk id), ⟨_, rfl, A, n, cap, rfl, ⟨hz.1, fun hn => ?_⟩, fun hn x e => (hA hn x e).1⟩, hs.kept (put4_kept w1 (s + 1 + 1) _ _ _ _) h2, ?_⟩
  · obtain ⟨b, off, e, hb, hc⟩ := hz.2 hn
    exact ⟨b, off, e, Nat.lt_of_lt_of_le hb (put4_kept w1 (s + 1 + 1) _ _ _ _).size, fun j hj => (put4_kept w1 (s + 1 + 1) _ _ _ _).cellN (hc j hj) (hA hn _ e).2⟩
  · exact (Grow.kept (H.gr.trans hk)).then (put4_kept w1 (s + 1 + 1) _ _ _ _) fun k hk e => by have e : k = s + 1 + 1 := e; omega
theorem Bx.finS (hs : SAt w1 G (sval gT cT gB cB gH cH a) a') (_hn : a'.n = a.n) (_hN : a'.N = a.N) (hk : Kept G w0 w1) (c p h : Int) :
    Blk (put4 w1 (s + 1 + 1) (.int .i64 c) (.int .i64 p) (.int .i64 h) (.slice none 0 0)) (s + 1 + 1) 27 [.int .i64 c, .int .i64 p, .int .i64 h, .slice none 0 0] ∧
    DoPost G (sval gT cT gB cB gH cH a) w (⟨c, p, h, []⟩, a') (.returned (.agg #[.int .i64 c, .int .i64 p, .int .i64 h, .slice none 0 0])) (put4 w1 (s + 1 + 1) (.int .i64 c) (.int .i64 p) (.int .i64 h) (.slice none 0 0)) := by
  have hlt := H.lt
  have h2 : ∀ k, G k → ¬ k = s + 1 + 1 := fun k hk e => by have := hlt k hk; omega
  have hsz := H.sz
  refine ⟨put4_blk (H.rb.kept hk fun x => h2 _ x rfl), ⟨_, rfl, rev_none _ _ _ _ _⟩, hs.kept (put4_kept w1 (s + 1 + 1) _ _ _ _) h2, ?_⟩
  exact (H.gr.kept.trans hk).then (put4_kept w1 (s + 1 + 1) _ _ _ _) fun k hk e => by have e : k = s + 1 + 1 := e; omega
end
/-! ### The least page that is not there -/
theorem gap_le (a : Md) : a.gap ≤ a.n := HdM.lst_le _ _
theorem gap_there {p : Nat} (h : p < a.gap) : a.T p = true := by
  have := HdM.lst_free _ _ p h
  cases e : a.T p with
  | true => rfl
  | false => rw [e] at this; exact absurd rfl this
theorem gap_free {p : Nat} (h : a.gap = p) (hp : p < a.n) : a.T p = false := by
  have := HdM.lst_at (fun i => if a.T i then 0 else -1) a.n (by show a.gap < a.n; omega)
  have e : lst (fun i => if a.T i then 0 else -1) a.n = p := h
  rw [e] at this
  cases e2 : a.T p with
  | false => rfl
  | true => rw [e2] at this; simp at this
/-! ### '[]byte(s)' -/
theorem bytes_grow (w : World) (e : TypeId) (s : ByteArray) : Grow w (Lib.bytesWorld w e s) :=
  ⟨rfl, rfl, rfl, by rw [Lib.bytesWorld_size]; omega, fun k hk _ => Lib.bytesWorld_at_old w e s k hk⟩
theorem bytes_sl (w : World) (e : TypeId) {zs : List Int} (hz : Bytes zs) : Sl (Lib.bytesWorld w e (strOfNums zs)) (Lib.bytesWorld w e (strOfNums zs)).heap.size .u8 (some ⟨w.heap.size, 0, none⟩) zs.length zs := by
  refine ⟨rfl, fun _ => ⟨w.heap.size, 0, rfl, by rw [Lib.bytesWorld_size]; omega, fun j hj => ?_⟩⟩
  rw [Nat.zero_add, Lib.bytesWorld_cell w e _ j (by rw [str_size]; exact hj), strOfNums_data]
  have hb := hz (zs.getD j 0) (by rw [List.getD_eq_getElem?_getD, List.getElem?_eq_getElem hj]; exact List.getElem_mem hj)
  rw [List.getD_eq_getElem?_getD, List.getElem?_map, List.getElem?_eq_getElem hj]
  rw [List.getD_eq_getElem?_getD, List.getElem?_eq_getElem hj] at hb ⊢
  simp only [Option.map_some, Option.getD_some] at hb ⊢
  have : (UInt8.ofNat zs[j].toNat).toNat = zs[j].toNat := by simp; omega
  rw [this, Int.toNat_of_nonneg hb.1]
theorem str_mid (zs : List Int) (o n : Nat) (_h : o + n ≤ zs.length) : (strOfNums zs).extract o (o + n) = strOfNums ((zs.drop o).take n) := by
  apply ByteArray.ext
  rw [ByteArray.data_extract]
  apply Array.ext'
  simp [strOfNums, List.map_drop, List.map_take]
end
end Go.Proofs.Ytjdlpknflhgkfaa.MdD
