/-
  Events in memory (api.Event): fourteen cells each; a slice of them, as it comes in.
-/
import Derived.Test.YtjdlpknflhgkfaaHsMath
import Derived.Test.YtjdlpknflhgkfaaMdDo
import Derived.Test.YtjdlpknflhgkfaaMdCalls
namespace Go.Proofs.Ytjdlpknflhgkfaa.HsE
open Go.ChangeShapes Go.WideShapes Go.ChangeAt Go.RowKit Go.Deep
open Go.Proofs.Ytjdlpknflhgkfaa.Mem Go.Proofs.Ytjdlpknflhgkfaa.Blk Go.Proofs.Ytjdlpknflhgkfaa.Cells Go.Proofs.Ytjdlpknflhgkfaa.MdM Go.Proofs.Ytjdlpknflhgkfaa.HsM Go.Proofs.Ytjdlpknflhgkfaa.MdD Go.Proofs.Ytjdlpknflhgkfaa.Calls13

/-- The cells of an event; its two slices stand where they are told. -/
abbrev evl (x : Ev) (D : Option Addr) (dl dc : Nat) (A : Option Addr) (al ac : Nat) : List Value :=
  [.int .i64 x.c, .int .i64 x.o.k, .int .i64 x.o.p, .int .i64 x.o.h, .int .i64 x.o.o, .int .i64 x.o.n, .slice D dl dc, .int .i64 x.r.c, .int .i64 x.r.p, .int .i64 x.r.h, .slice A al ac, .int .i64 x.b, .int .i64 x.s, .int .i64 x.e]
def I64 (z : Int) : Prop := -9223372036854775808 ≤ z ∧ z ≤ 9223372036854775807
/-- What the numbers of an event can be. -/
def Rng (x : Ev) : Prop := I64 x.o.o ∧ I64 x.b ∧ I64 x.s ∧ I64 x.e
/-- The two slices of an event. -/
structure EvD (w : World) (X : Nat → Prop) (x : Ev) (D : Option Addr) (dl dc : Nat) (A : Option Addr) (al ac : Nat) : Prop where
  d : Sl w w.heap.size .u8 D dl x.o.d
  db : Bytes x.o.d
  dc : dl ≤ dc ∧ dc ≤ maxLen
  a : Sl w w.heap.size .u8 A al x.r.d
  ab : Bytes x.r.d
  ac : al ≤ maxLen
  rng : Rng x
  dX : 0 < dl → ∀ y, D = some y → X y.block
  aX : 0 < al → ∀ y, A = some y → X y.block
/-- From offset q of block b on stands the event x; its data lies in blocks of X. -/
def EvAt (w : World) (X : Nat → Prop) (b q : Nat) (x : Ev) : Prop := ∃ D dl dc A al ac, (∀ j v, (evl x D dl dc A al ac)[j]? = some v → w.cell? ⟨b, q + j, none⟩ = some v) ∧ EvD w X x D dl dc A al ac
/-- A slice of events. -/
def EvsAt (w : World) (X : Nat → Prop) (A : Option Addr) (n : Nat) (L : Nat → Ev) : Prop := 0 < n → ∃ b off, A = some ⟨b, off, none⟩ ∧ ∀ i, i < n → EvAt w X b (off + i * 14) (L i)
section
variable {w w' : World} {X Y F : Nat → Prop} {b q n : Nat} {x y : Ev} {D A : Option Addr} {dl dc al ac : Nat} {L M : Nat → Ev}
theorem EvD.kept (h : EvD w X x D dl dc A al ac) (hk : Kept F w w') (hX : ∀ k, k < w.heap.size → X k → ¬ F k) : EvD w' X x D dl dc A al ac := by
  have go : ∀ {A : Option Addr} {n : Nat} {zs : List Int}, Sl w w.heap.size .u8 A n zs → (0 < n → ∀ y, A = some y → X y.block) → Sl w' w'.heap.size .u8 A n zs := fun {A n zs} h hx => by
    refine ⟨h.1, fun hn => ?_⟩
    obtain ⟨b, off, e, hb, hc⟩ := h.2 hn
    exact ⟨b, off, e, Nat.lt_of_lt_of_le hb hk.size, fun j hj => hk.cellN (hc j hj) (hX b hb (hx hn _ e))⟩
  exact ⟨go h.d h.dX, h.db, h.dc, go h.a h.aX, h.ab, h.ac, h.rng, h.dX, h.aX⟩
theorem EvD.mono (h : EvD w X x D dl dc A al ac) (hY : ∀ k, k < w.heap.size → X k → Y k) : EvD w Y x D dl dc A al ac := by
  refine ⟨h.d, h.db, h.dc, h.a, h.ab, h.ac, h.rng, fun h0 y e => ?_, fun h0 y e => ?_⟩
  · obtain ⟨b, off, e', hb, _⟩ := h.d.at_ h0
    rw [e] at e'
    injection e' with e'
    rw [e']
    exact hY b hb (by have := h.dX h0 y e; rw [e'] at this; exact this)
  · obtain ⟨b, off, e', hb, _⟩ := h.a.at_ h0
    rw [e] at e'
    injection e' with e'
    rw [e']
    exact hY b hb (by have := h.aX h0 y e; rw [e'] at this; exact this)
theorem EvAt.kept (h : EvAt w X b q x) (hk : Kept F w w') (hb : ¬ F b) (hX : ∀ k, k < w.heap.size → X k → ¬ F k) : EvAt w' X b q x := by
  obtain ⟨D, dl, dc, A, al, ac, hc, hd⟩ := h
  exact ⟨D, dl, dc, A, al, ac, fun j v hj => hk.cellN (hc j v hj) hb, hd.kept hk hX⟩
theorem EvAt.mono (h : EvAt w X b q x) (hY : ∀ k, k < w.heap.size → X k → Y k) : EvAt w Y b q x := by
  obtain ⟨D, dl, dc, A, al, ac, hc, hd⟩ := h
  exact ⟨D, dl, dc, A, al, ac, hc, hd.mono hY⟩
theorem EvAt.lt (h : EvAt w X b q x) : b < w.heap.size := by
  obtain ⟨D, dl, dc, A, al, ac, hc, _⟩ := h
  exact block_lt_of_cell (hc 0 _ rfl)
theorem EvAt.rng (h : EvAt w X b q x) : Rng x := by
  obtain ⟨D, dl, dc, A, al, ac, _, hd⟩ := h
  exact hd.rng
theorem EvsAt.grow (h : EvsAt w X A n L) (hk : Grow w w') : EvsAt w' X A n L := fun hn => by
  obtain ⟨b, off, e, hi⟩ := h hn
  exact ⟨b, off, e, fun i hi' => (hi i hi').kept hk id fun _ _ _ => id⟩
theorem EvsAt.mono (h : EvsAt w X A n L) (hY : ∀ k, k < w.heap.size → X k → Y k) : EvsAt w Y A n L := fun hn => by
  obtain ⟨b, off, e, hi⟩ := h hn
  exact ⟨b, off, e, fun i hi' => (hi i hi').mono hY⟩
theorem EvsAt.rng (h : EvsAt w X A n L) {i : Nat} (hi : i < n) : Rng (L i) := by
  obtain ⟨b, off, e, h⟩ := h (by omega)
  exact (h i hi).rng
theorem EvsAt.form (h : EvsAt w X A n L) : ∃ b off, (0 < n → A = some ⟨b, off, none⟩) ∧ ∀ i, i < n → EvAt w X b (off + i * 14) (L i) := by
  by_cases h0 : 0 < n
  · obtain ⟨b, off, e, h⟩ := h h0
    exact ⟨b, off, fun _ => e, h⟩
  · exact ⟨0, 0, fun x => absurd x h0, fun i hi => by omega⟩
/-- The call of an event, as a value. -/
theorem EvD.op (h : EvD w X x D dl dc A al ac) : OpV w w.heap.size (.agg #[.int .i64 x.o.k, .int .i64 x.o.p, .int .i64 x.o.h, .int .i64 x.o.o, .int .i64 x.o.n, .slice D dl dc]) x.o := ⟨D, dl, dc, rfl, h.d, h.db, h.dc.1, h.dc.2⟩
end

/-! ### As it comes in -/
def Any (_ : Nat) : Prop := True
/-- A history as it comes in. -/
def HistAt (w : World) (A : Option Addr) (len cap : Nat) : Prop := len ≤ cap ∧ cap ≤ maxLen ∧ ∃ L, EvsAt w Any A len L
section
variable {H : Type} {enc : TypeId × Value → H} {w : World} {base : Nat} {spare : Nat → Bool} {held : Bool}
set_option maxRecDepth 4000 in
theorem op_cells {cs : List Value} {fuel : Nat} {x : DataW H × List MemPlace} (hl : cs.length = 6) (h : DataW.trod enc Try.prog w base spare held fuel 25 cs = some x) :
    ∃ k p hh o n A len cap, cs = [.int .i64 k, .int .i64 p, .int .i64 hh, .int .i64 o, .int .i64 n, .slice A len cap] ∧ BytesAt w A len cap ∧ I64 o := by
  obtain ⟨zs, n'', _, _, _, hzl, hg⟩ := DataW.trod_struct Try.underlying25 h
  have ci : Try.prog.cellsOf 3 = 1 := by kernel_rfl
  have cb : Try.prog.cellsOf 23 = 1 := by kernel_rfl
  match cs, hl, zs, hzl with
  | [v1, v2, v3, v4, v5, v6], _, [u1, u2, u3, u4, u5, u6], _ =>
    have p1 : DataW.trod enc Try.prog w base spare held n'' 3 (([v1, v2, v3, v4, v5, v6].drop 0).take (Try.prog.cellsOf 3)) = some u1 := hg 0 _ rfl
    have p2 : DataW.trod enc Try.prog w base spare held n'' 3 (([v1, v2, v3, v4, v5, v6].drop 1).take (Try.prog.cellsOf 3)) = some u2 := hg 1 _ rfl
    have p3 : DataW.trod enc Try.prog w base spare held n'' 3 (([v1, v2, v3, v4, v5, v6].drop 2).take (Try.prog.cellsOf 3)) = some u3 := hg 2 _ rfl
    have p4 : DataW.trod enc Try.prog w base spare held n'' 3 (([v1, v2, v3, v4, v5, v6].drop 3).take (Try.prog.cellsOf 3)) = some u4 := hg 3 _ rfl
    have p5 : DataW.trod enc Try.prog w base spare held n'' 3 (([v1, v2, v3, v4, v5, v6].drop 4).take (Try.prog.cellsOf 3)) = some u5 := hg 4 _ rfl
    have p6 : DataW.trod enc Try.prog w base spare held n'' 23 (([v1, v2, v3, v4, v5, v6].drop 5).take (Try.prog.cellsOf 23)) = some u6 := hg 5 _ rfl
    rw [ci] at p1 p2 p3 p4 p5
    rw [cb] at p6
    simp only [List.drop_zero, List.drop_succ_cons, List.take_succ_cons, List.take_zero] at p1 p2 p3 p4 p5 p6
    obtain ⟨z1, e1, _, w1⟩ := DataW.trod_int Try.underlying3 p1
    obtain ⟨z2, e2, _, w2⟩ := DataW.trod_int Try.underlying3 p2
    obtain ⟨z3, e3, _, w3⟩ := DataW.trod_int Try.underlying3 p3
    obtain ⟨z4, e4, _, w4⟩ := DataW.trod_int Try.underlying3 p4
    obtain ⟨z5, e5, _, w5⟩ := DataW.trod_int Try.underlying3 p5
    have b4 := bounds_i64 w4
    have hsl : ∃ A' l' c', v6 = .slice A' l' c' := by
      rcases open_slice Try.underlying23 p6 with ⟨h0, _⟩ | ⟨a, l, c, m, n, D, Pl, hcs, _⟩
      · simp at h0; exact ⟨_, _, _, h0⟩
      · simp at hcs; exact ⟨_, _, _, hcs⟩
    obtain ⟨A', l', c', rfl⟩ := hsl
    have hda := bytes_open p6
    simp at e1 e2 e3 e4 e5
    subst e1 e2 e3 e4 e5
    exact ⟨z1, z2, z3, z4, z5, A', l', c', rfl, hda, by unfold I64; omega⟩
set_option maxRecDepth 4000 in
theorem res_cells {cs : List Value} {fuel : Nat} {x : DataW H × List MemPlace} (hl : cs.length = 4) (h : DataW.trod enc Try.prog w base spare held fuel 27 cs = some x) :
    ∃ c p hh A len cap, cs = [.int .i64 c, .int .i64 p, .int .i64 hh, .slice A len cap] ∧ BytesAt w A len cap := by
  obtain ⟨zs, n'', _, _, _, hzl, hg⟩ := DataW.trod_struct Try.underlying27 h
  have ci : Try.prog.cellsOf 3 = 1 := by kernel_rfl
  have cb : Try.prog.cellsOf 23 = 1 := by kernel_rfl
  match cs, hl, zs, hzl with
  | [v1, v2, v3, v6], _, [u1, u2, u3, u6], _ =>
    have p1 : DataW.trod enc Try.prog w base spare held n'' 3 (([v1, v2, v3, v6].drop 0).take (Try.prog.cellsOf 3)) = some u1 := hg 0 _ rfl
    have p2 : DataW.trod enc Try.prog w base spare held n'' 3 (([v1, v2, v3, v6].drop 1).take (Try.prog.cellsOf 3)) = some u2 := hg 1 _ rfl
    have p3 : DataW.trod enc Try.prog w base spare held n'' 3 (([v1, v2, v3, v6].drop 2).take (Try.prog.cellsOf 3)) = some u3 := hg 2 _ rfl
    have p6 : DataW.trod enc Try.prog w base spare held n'' 23 (([v1, v2, v3, v6].drop 3).take (Try.prog.cellsOf 23)) = some u6 := hg 3 _ rfl
    rw [ci] at p1 p2 p3
    rw [cb] at p6
    simp only [List.drop_zero, List.drop_succ_cons, List.take_succ_cons, List.take_zero] at p1 p2 p3 p6
    obtain ⟨z1, e1, _, w1⟩ := DataW.trod_int Try.underlying3 p1
    obtain ⟨z2, e2, _, w2⟩ := DataW.trod_int Try.underlying3 p2
    obtain ⟨z3, e3, _, w3⟩ := DataW.trod_int Try.underlying3 p3
    have hsl : ∃ A' l' c', v6 = .slice A' l' c' := by
      rcases open_slice Try.underlying23 p6 with ⟨h0, _⟩ | ⟨a, l, c, m, n, D, Pl, hcs, _⟩
      · simp at h0; exact ⟨_, _, _, h0⟩
      · simp at hcs; exact ⟨_, _, _, hcs⟩
    obtain ⟨A', l', c', rfl⟩ := hsl
    have hda := bytes_open p6
    simp at e1 e2 e3
    subst e1 e2 e3
    exact ⟨z1, z2, z3, A', l', c', rfl, hda⟩
set_option maxRecDepth 4000 in
/-- The cells of one event. -/
theorem ev_cells {cs : List Value} {fuel : Nat} {x : DataW H × List MemPlace} (hl : cs.length = 14) (h : DataW.trod enc Try.prog w base spare held fuel 29 cs = some x) :
    ∃ (x : Ev) (D : Option Addr) (dl dc : Nat) (A : Option Addr) (al ac : Nat), cs = evl x D dl dc A al ac ∧ EvD w Any x D dl dc A al ac := by
  obtain ⟨ys, n', _, _, _, hyl, hf⟩ := DataW.trod_struct Try.underlying29 h
  have ci : Try.prog.cellsOf 3 = 1 := by kernel_rfl
  have co : Try.prog.cellsOf 25 = 6 := by kernel_rfl
  have cr : Try.prog.cellsOf 27 = 4 := by kernel_rfl
  obtain ⟨y0, y1, y2, y3, y4, y5, rfl⟩ : ∃ y0 y1 y2 y3 y4 y5, ys = [y0, y1, y2, y3, y4, y5] := by
    match ys, hyl with
    | [y0, y1, y2, y3, y4, y5], _ => exact ⟨_, _, _, _, _, _, rfl⟩
  have q0 : DataW.trod enc Try.prog w base spare held n' 3 ((cs.drop 0).take (Try.prog.cellsOf 3)) = some y0 := hf 0 _ rfl
  have q1 : DataW.trod enc Try.prog w base spare held n' 25 ((cs.drop 1).take (Try.prog.cellsOf 25)) = some y1 := hf 1 _ rfl
  have q2 : DataW.trod enc Try.prog w base spare held n' 27 ((cs.drop 7).take (Try.prog.cellsOf 27)) = some y2 := hf 2 _ rfl
  have q3 : DataW.trod enc Try.prog w base spare held n' 3 ((cs.drop 11).take (Try.prog.cellsOf 3)) = some y3 := hf 3 _ rfl
  have q4 : DataW.trod enc Try.prog w base spare held n' 3 ((cs.drop 12).take (Try.prog.cellsOf 3)) = some y4 := hf 4 _ rfl
  have q5 : DataW.trod enc Try.prog w base spare held n' 3 ((cs.drop 13).take (Try.prog.cellsOf 3)) = some y5 := hf 5 _ rfl
  rw [ci] at q0 q3 q4 q5
  rw [co] at q1
  rw [cr] at q2
  have l1 : ((cs.drop 1).take 6).length = 6 := by simp [hl]
  have l2 : ((cs.drop 7).take 4).length = 4 := by simp [hl]
  obtain ⟨k, p, hh, o, n, D, dl, dc, ho, ⟨dd, hd, hdb, hd1, hd2⟩, hoi⟩ := op_cells l1 q1
  obtain ⟨rc, rp, rh, A, al, ac, hr, ⟨ad, ha, hab, ha1, ha2⟩⟩ := res_cells l2 q2
  obtain ⟨z0, e0, _, w0⟩ := DataW.trod_int Try.underlying3 q0
  obtain ⟨z3, e3, _, w3⟩ := DataW.trod_int Try.underlying3 q3
  obtain ⟨z4, e4, _, w4⟩ := DataW.trod_int Try.underlying3 q4
  obtain ⟨z5, e5, _, w5⟩ := DataW.trod_int Try.underlying3 q5
  have b3 := bounds_i64 w3
  have b4 := bounds_i64 w4
  have b5 := bounds_i64 w5
  refine ⟨⟨z0, ⟨k, p, hh, o, n, dd⟩, ⟨rc, rp, rh, ad⟩, z3, z4, z5⟩, D, dl, dc, A, al, ac, ?_, hd, hdb, ⟨hd1, hd2⟩, ha, hab, Nat.le_trans ha1 ha2, ⟨hoi, by unfold I64; omega, by unfold I64; omega, by unfold I64; omega⟩, fun _ _ _ => trivial, fun _ _ _ => trivial⟩
  have split : cs = (cs.drop 0).take 1 ++ ((cs.drop 1).take 6 ++ ((cs.drop 7).take 4 ++ ((cs.drop 11).take 1 ++ ((cs.drop 12).take 1 ++ (cs.drop 13).take 1)))) := by
    match cs, hl with
    | [_, _, _, _, _, _, _, _, _, _, _, _, _, _], _ => rfl
  rw [split, e0, ho, hr, e3, e4, e5]
  rfl
set_option maxRecDepth 4000 in
theorem hist_open {A : Option Addr} {len cap fuel : Nat} {x : DataW H × List MemPlace} (h : DataW.trod enc Try.prog w base spare held fuel 30 [.slice A len cap] = some x) : HistAt w A len cap := by
  rcases open_slice Try.underlying30 h with ⟨h0, _⟩ | ⟨a, l, c, m, n, D, Pl, hcs, _, hl, hm, hmm, _, hi⟩
  · simp at h0
    obtain ⟨rfl, rfl, rfl⟩ := h0
    exact ⟨Nat.le_refl _, Nat.zero_le _, fun _ => ⟨0, ⟨0, 0, 0, 0, 0, []⟩, ⟨0, 0, 0, []⟩, 0, 0, 0⟩, fun h => absurd h (by omega)⟩
  · simp at hcs
    obtain ⟨rfl, rfl, rfl⟩ := hcs
    have hlm : len ≤ m := by rw [hmm]; split <;> omega
    have hc5 : Try.prog.cellsOf 29 = 14 := by kernel_rfl
    by_cases h0 : 0 < len
    · obtain ⟨b, off, spot⟩ := a
      have hspot : spot = none := by
        obtain ⟨cs', hc, _⟩ := hi 0 (by omega)
        rw [hc5] at hc
        obtain ⟨_, hcl, hat⟩ := World.cells?_some hc
        have a0 := hat 0 (by omega)
        rw [List.getElem?_eq_getElem (by omega)] at a0
        simpa [Addr.add] using World.cell?_spot a0
      subst hspot
      have ea : ∀ q, (⟨b, off, none⟩ : Addr).add q = ⟨b, off + q, none⟩ := fun q => by unfold Addr.add; split <;> simp_all
      have key : ∀ i, i < len → ∃ x, EvAt w Any b (off + i * 14) x := by
        intro i hil
        obtain ⟨cs', hc, ht⟩ := hi i (by omega)
        rw [hc5] at hc
        obtain ⟨_, hcl, hat⟩ := World.cells?_some hc
        obtain ⟨x, D, dl, dc, A, al, ac, e, hd⟩ := ev_cells hcl ht
        refine ⟨x, D, dl, dc, A, al, ac, fun j v hj => ?_, hd⟩
        have hj14 : j < 14 := by
          have := (List.getElem?_eq_some_iff.1 hj).1
          exact this
        have := hat j hj14
        rw [e, hj, add_add, ea] at this
        rw [Nat.add_assoc]
        exact this
      refine ⟨hl, hm, fun i => if hi : i < len then (key i hi).choose else ⟨0, ⟨0, 0, 0, 0, 0, []⟩, ⟨0, 0, 0, []⟩, 0, 0, 0⟩, fun _ => ⟨b, off, rfl, fun i hil => ?_⟩⟩
      dsimp only
      rw [dif_pos hil]
      exact (key i hil).choose_spec
    · exact ⟨hl, hm, fun _ => ⟨0, ⟨0, 0, 0, 0, 0, []⟩, ⟨0, 0, 0, []⟩, 0, 0, 0⟩, fun h => absurd h h0⟩
end
#print axioms hist_open
end Go.Proofs.Ytjdlpknflhgkfaa.HsE
