/-
  Steps in memory (api.Step): eleven cells each; a row of them of the call's own, in the making; a slice of them, to be read.
-/
import Derived.Test.YtigcjcgdakoonaaScOp
namespace Go.Proofs.Ytigcjcgdakoonaa.ScR
open Go.ChangeShapes Go.WideShapes Go.ChangeAt Go.RowKit
open Go.Proofs.Ytigcjcgdakoonaa.Mem Go.Proofs.Ytigcjcgdakoonaa.Blk Go.Proofs.Ytigcjcgdakoonaa.Cells Go.Proofs.Ytigcjcgdakoonaa.Orow Go.Proofs.Ytigcjcgdakoonaa.MdM Go.Proofs.Ytigcjcgdakoonaa.ScM Go.Proofs.Ytigcjcgdakoonaa.ScC Go.Proofs.Ytigcjcgdakoonaa.ScO Go.Proofs.Ytigcjcgdakoonaa.Stages

/-- Where a step's two slices stand: its call's data, its bits. -/
structure Ad where
  D : Option Addr
  dl : Nat
  dc : Nat
  A : Option Addr
  al : Nat
  ac : Nat
def zad : Ad := ⟨none, 0, 0, none, 0, 0⟩
/-- The cells of a step. -/
abbrev stl (s : Stp) (d : Ad) : List Value := [.int .i64 s.k, .int .i64 s.c, .int .i64 s.n, .int .i64 s.t, .int .i64 s.o.k, .int .i64 s.o.p, .int .i64 s.o.h, .int .i64 s.o.o, .int .i64 s.o.n, .slice d.D d.dl d.dc, .slice d.A d.al d.ac]
/-- Bytes that stand in blocks of X, or none. -/
structure Byt (w : World) (X : Nat → Prop) (A : Option Addr) (n : Nat) (zs : List Int) : Prop where
  sl : Sl w w.heap.size .u8 A n zs
  byt : Bytes zs
  few : n ≤ 15
  inX : 0 < n → ∀ y, A = some y → X y.block
/-- The two slices of a step. -/
structure StD (w : World) (X : Nat → Prop) (s : Stp) (d : Ad) : Prop where
  data : Byt w X d.D d.dl s.o.d
  bits : Byt w X d.A d.al s.b
section
variable {w w' : World} {X Y F : Nat → Prop} {A : Option Addr} {n B : Nat} {zs : List Int} {s : Stp} {d : Ad}
theorem Byt.nil (w : World) (X : Nat → Prop) (A : Option Addr) : Byt w X A 0 [] := ⟨Sl.nil _ _ _ _, (fun _ h => by cases h), Nat.zero_le _, fun h => absurd h (Nat.lt_irrefl 0)⟩
theorem Byt.of (h : Dat w B A n zs) (hX : ∀ k, k < w.heap.size → B ≤ k → X k) : Byt w X A n zs := by
  refine ⟨h.sl, h.byt, h.few, fun hn y e => ?_⟩
  obtain ⟨b, off, e2, hb, hc⟩ := h.sl.2 hn
  rw [e] at e2
  injection e2 with e2
  rw [e2]
  have := h.new hn y e
  rw [e2] at this
  exact hX b hb this
theorem Byt.kept (h : Byt w X A n zs) (hk : Kept F w w') (hF : ∀ k, k < w.heap.size → X k → ¬ F k) : Byt w' X A n zs := by
  refine ⟨⟨h.sl.1, fun hn => ?_⟩, h.byt, h.few, h.inX⟩
  obtain ⟨b, off, e, hb, hc⟩ := h.sl.2 hn
  exact ⟨b, off, e, Nat.lt_of_lt_of_le hb hk.size, fun j hj => hk.cellN (hc j hj) (hF b hb (h.inX hn _ e))⟩
theorem Byt.mono (h : Byt w X A n zs) (hY : ∀ k, k < w.heap.size → X k → Y k) : Byt w Y A n zs := by
  refine ⟨h.sl, h.byt, h.few, fun hn y e => ?_⟩
  obtain ⟨b, off, e2, hb, _⟩ := h.sl.2 hn
  rw [e] at e2
  injection e2 with e2
  rw [e2]
  have := h.inX hn y e
  rw [e2] at this
  exact hY b hb this
theorem StD.kept (h : StD w X s d) (hk : Kept F w w') (hF : ∀ k, k < w.heap.size → X k → ¬ F k) : StD w' X s d := ⟨h.data.kept hk hF, h.bits.kept hk hF⟩
theorem StD.mono (h : StD w X s d) (hY : ∀ k, k < w.heap.size → X k → Y k) : StD w Y s d := ⟨h.data.mono hY, h.bits.mono hY⟩
theorem StD.grow (h : StD w X s d) (hk : Grow w w') : StD w' X s d := h.kept hk fun _ _ _ => id
end

theorem st_size : (Try.prog.info? 33).map (·.size) = some 11 := by kernel_rfl
theorem st_inforows : (Try.prog.info? 33).map (fun i => (i.zero, i.size, i.bytes)) = some (some (.agg #[.int .i64 0, .int .i64 0, .int .i64 0, .int .i64 0, .int .i64 0, .int .i64 0, .int .i64 0, .int .i64 0, .int .i64 0, .slice none 0 0, .slice none 0 0]), 11, 120) := by kernel_rfl
section
variable {w w' : World} {g : Nat} {t : TypeId} {s : Stp} {d : Ad}
theorem load_stp (hg : Blk w g t (stl s d)) : (loadVar 33 ⟨g, 0, none⟩).run Try.prog w = .ok (.agg (stl s d).toArray) w :=
  run_loadVar_row w g t 33 (stl s d).toArray (0, 0) _ hg Try.underlying33 rfl st_size
theorem ret_stp {fn : Func} {R : Ending → World → Prop} {act : Act} {p : Nat} (h : fn.results = #[.cell p 33]) (hp : act.tmps.getD p undef = .pointer (some ⟨g, 0, none⟩)) (hg : Blk w g t (stl s d)) (hd : act.defers = []) (hR : R (.returned (.agg (stl s d).toArray)) w) : bodyPost Try.prog fn R .ret act w := by
  refine bodyPost_ret ?_ hd hR
  have hp' : act.tmps[p]?.getD undef = .pointer (some ⟨g, 0, none⟩) := by simpa using hp
  simp [results, h, hp', asAddr, load_stp hg]
end
/-! ### A row of steps in the making -/
def stf (L : Nat → Stp) (Q : Nat → Ad) (j : Nat) : Value := (stl (L (j / 11)) (Q (j / 11))).getD (j % 11) (.int .i64 0)
theorem stf_at (L : Nat → Stp) (Q : Nat → Ad) (i j : Nat) (hj : j < 11) : stf L Q (i * 11 + j) = (stl (L i) (Q i)).getD j (.int .i64 0) := by
  unfold stf
  rw [show (i * 11 + j) / 11 = i by omega, show (i * 11 + j) % 11 = j by omega]
/-- The block g has room for cap steps; n there are, L; their slices lie in blocks from B on, and not in the row's own. -/
structure SRow (w : World) (B g cap n : Nat) (L : Nat → Stp) (Q : Nat → Ad) : Prop where
  row : OR w g 33 11 cap n (stf L Q)
  dat : ∀ i, i < n → StD w (fun k => k ≠ g ∧ B ≤ k) (L i) (Q i)
  low : B ≤ g
def updS (L : Nat → Stp) (n : Nat) (x : Stp) (i : Nat) : Stp := if i = n then x else L i
def updA (Q : Nat → Ad) (n : Nat) (d : Ad) (i : Nat) : Ad := if i = n then d else Q i
/-- A row of steps of the call's own: nil, or a block from B on. -/
def SV (w : World) (B : Nat) (v : Value) (n : Nat) (L : Nat → Stp) (Q : Nat → Ad) : Prop := (v = .slice none 0 0 ∧ n = 0) ∨ ∃ g cap, v = .slice (some ⟨g, 0, none⟩) n cap ∧ SRow w B g cap n L Q
section
variable {w w' : World} {B g cap n : Nat} {L : Nat → Stp} {Q : Nat → Ad} {F : Nat → Prop} {v : Value}
theorem updS_lt {i : Nat} {x : Stp} (h : i < n) : updS L n x i = L i := if_neg (Nat.ne_of_lt h)
theorem updS_at (L : Nat → Stp) (n : Nat) (x : Stp) : updS L n x n = x := if_pos rfl
theorem updA_lt {i : Nat} {d : Ad} (h : i < n) : updA Q n d i = Q i := if_neg (Nat.ne_of_lt h)
theorem updA_at (Q : Nat → Ad) (n : Nat) (d : Ad) : updA Q n d n = d := if_pos rfl
theorem SRow.kept (h : SRow w B g cap n L Q) (hk : Kept F w w') (hg : ¬ F g) (hF : ∀ k, k < w.heap.size → k ≠ g → B ≤ k → ¬ F k) : SRow w' B g cap n L Q :=
  ⟨h.row.kept hk hg, fun i hi => (h.dat i hi).kept hk fun k hk' hx => hF k hk' hx.1 hx.2, h.low⟩
theorem SRow.grow (h : SRow w B g cap n L Q) (hk : Grow w w') : SRow w' B g cap n L Q := h.kept hk id fun _ _ _ _ => id
theorem SV.grow (h : SV w B v n L Q) (hk : Grow w w') : SV w' B v n L Q := by
  rcases h with h | ⟨g, cap, e, h⟩
  · exact .inl h
  · exact .inr ⟨g, cap, e, h.grow hk⟩
theorem SV.nil (w : World) (B : Nat) (L : Nat → Stp) (Q : Nat → Ad) : SV w B (.slice none 0 0) 0 L Q := .inl ⟨rfl, rfl⟩
theorem SV.slice (h : SV w B v n L Q) : ∃ A c, v = .slice A n c := by
  rcases h with ⟨rfl, rfl⟩ | ⟨g, cap, rfl, h⟩
  · exact ⟨_, _, rfl⟩
  · exact ⟨_, _, rfl⟩
theorem SV.os (h : SV w B v n L Q) : OS w (B ≤ ·) v 33 11 n (stf L Q) := by
  rcases h with ⟨rfl, rfl⟩ | ⟨g, cap, rfl, h⟩
  · exact .inl ⟨rfl, rfl⟩
  · exact .inr ⟨g, cap, rfl, h.row, h.low⟩
theorem SV.own (h : SV w B v n L Q) {k : Nat} (hk : v.ownBlock = some k) : B ≤ k ∧ k < w.heap.size := by
  obtain ⟨_, h2⟩ := h.os.own
  exact h2 k hk
theorem SV.dat (h : SV w B v n L Q) {i : Nat} (hi : i < n) : StD w (fun k => v.ownBlock ≠ some k ∧ B ≤ k) (L i) (Q i) := by
  rcases h with ⟨rfl, rfl⟩ | ⟨g, cap, rfl, h⟩
  · omega
  · refine (h.dat i hi).mono fun k _ hx => ⟨fun e => ?_, hx.2⟩
    injection e with e
    exact hx.1 e.symm
set_option maxRecDepth 10000 in
/-- 'append(l, x)', x a step that lies in a block of its own. -/
theorem SV.push (ty : TypeId) (h : SV w B v n L Q) (hn : n ≤ 100000) (vb c : Nat) {x : Stp} {d : Ad} (hx : ∀ j u, (stl x d)[j]? = some u → w.cell? ⟨vb, j, none⟩ = some u) (hd : StD w (fun k => v.ownBlock ≠ some k ∧ B ≤ k) x d) (hB : B ≤ w.heap.size) :
    ∃ g cap w', (Builtin.append_ #[26, 26] ty #[v, .slice (some ⟨vb, 0, none⟩) 1 c]).run Try.prog w = .ok (.slice (some ⟨g, 0, none⟩) (n + 1) cap) w' ∧ SRow w' B g cap (n + 1) (updS L n x) (updA Q n d) ∧ Kept (fun k => v.ownBlock = some k) w w' ∧ (v.ownBlock = some g ∨ g = w.heap.size) := by
  obtain ⟨i, hi, hz, hsz, hby⟩ := info_parts st_inforows
  have hcell : ∀ j, j < 11 → (stl x d)[j]? = some ((stl x d).getD j (.int .i64 0)) := fun j hj => by
    rw [List.getD_eq_getElem?_getD, List.getElem?_eq_getElem (by exact hj)]; rfl
  obtain ⟨g, cap, w', hr, ho, hk, hg⟩ := append_or (P := Try.prog) 26 ty i _ 120 Try.underlying26 hi hz hsz hby rfl (by decide) h.os hn (by decide) vb c (u := fun j => (stl x d).getD j (.int .i64 0)) (fun j hj => hx j _ (hcell j hj)) (fun j hj => by
    rcases (by omega : j = 0 ∨ j = 1 ∨ j = 2 ∨ j = 3 ∨ j = 4 ∨ j = 5 ∨ j = 6 ∨ j = 7 ∨ j = 8 ∨ j = 9 ∨ j = 10) with e | e | e | e | e | e | e | e | e | e | e <;> subst e <;> rfl)
  have mono : ∀ (y : Stp) (q : Ad), StD w (fun k => v.ownBlock ≠ some k ∧ B ≤ k) y q → StD w' (fun k => k ≠ g ∧ B ≤ k) y q := fun y q hq => by
    refine StD.kept (StD.mono (Y := fun k => (v.ownBlock ≠ some k ∧ k ≠ g) ∧ B ≤ k) hq fun k hk' hx => ⟨⟨hx.1, fun e => ?_⟩, hx.2⟩) hk (fun k _ hx e => hx.1.1 e) |>.mono fun k _ hx => ⟨hx.1.2, hx.2⟩
    rcases hg with e2 | e2
    · rw [← e] at e2
      exact hx.1 e2
    · omega
  refine ⟨g, cap, w', hr, ⟨ho.congr fun j hj => ?_, fun j hj => ?_, ?_⟩, hk, hg⟩
  · unfold joined
    by_cases hjn : j < n * 11
    · rw [if_pos hjn]
      unfold stf
      rw [updS_lt (by omega), updA_lt (by omega)]
    · rw [if_neg hjn]
      unfold stf
      rw [show j / 11 = n by omega, updS_at, updA_at, show j % 11 = j - n * 11 by omega]
  · by_cases e : j = n
    · subst e
      rw [updS_at, updA_at]
      exact mono _ _ hd
    · rw [updS_lt (by omega), updA_lt (by omega)]
      exact mono _ _ (h.dat (by omega))
  · rcases hg with e | e
    · exact (h.own e).1
    · omega
end
/-! ### To be read -/
/-- From offset q of block b on stands the step x. -/
def StAt (w : World) (b q : Nat) (x : Stp) : Prop := ∃ d, (∀ j u, (stl x d)[j]? = some u → w.cell? ⟨b, q + j, none⟩ = some u) ∧ StD w (fun _ => True) x d
/-- A slice of steps. -/
def StsAt (w : World) (A : Option Addr) (n : Nat) (L : Nat → Stp) : Prop := 0 < n → ∃ b off, A = some ⟨b, off, none⟩ ∧ ∀ i, i < n → StAt w b (off + i * 11) (L i)
section
variable {w w' : World} {B n c : Nat} {L : Nat → Stp} {Q : Nat → Ad} {v : Value} {A : Option Addr} {b q : Nat} {x : Stp}
theorem StAt.grow (h : StAt w b q x) (hk : Grow w w') : StAt w' b q x := by
  obtain ⟨d, hc, hd⟩ := h
  exact ⟨d, fun j u hj => hk.cellN (hc j u hj) id, hd.grow hk⟩
theorem StsAt.grow (h : StsAt w A n L) (hk : Grow w w') : StsAt w' A n L := fun hn => by
  obtain ⟨b, off, e, hi⟩ := h hn
  exact ⟨b, off, e, fun i hi' => (hi i hi').grow hk⟩
theorem StsAt.form (h : StsAt w A n L) : ∃ b off, (0 < n → A = some ⟨b, off, none⟩) ∧ ∀ i, i < n → StAt w b (off + i * 11) (L i) := by
  by_cases h0 : 0 < n
  · obtain ⟨b, off, e, h⟩ := h h0
    exact ⟨b, off, fun _ => e, h⟩
  · exact ⟨0, 0, fun x => absurd x h0, fun i hi => by omega⟩
theorem StsAt.congr {M : Nat → Stp} (h : StsAt w A n L) (e : ∀ i, i < n → L i = M i) : StsAt w A n M := fun hn => by
  obtain ⟨b, off, e2, hi⟩ := h hn
  exact ⟨b, off, e2, fun i hi' => by rw [← e i hi']; exact hi i hi'⟩
theorem SV.at_ (h : SV w B v n L Q) (e : v = .slice A n c) : StsAt w A n L := fun hn => by
  rcases h with ⟨_, rfl⟩ | ⟨g, cap, e2, h⟩
  · omega
  · rw [e2] at e
    injection e with e _ _
    subst e
    refine ⟨g, 0, rfl, fun i hi => ⟨Q i, fun j u hj => ?_, (h.dat i hi).mono fun _ _ _ => trivial⟩⟩
    have hj11 : j < 11 := (List.getElem?_eq_some_iff.1 hj).1
    rw [Nat.zero_add, h.row.cell (i := i * 11 + j) (by omega), stf_at _ _ _ _ hj11, List.getD_eq_getElem?_getD, hj]
    rfl
end
#print axioms SV.push
end Go.Proofs.Ytigcjcgdakoonaa.ScR
