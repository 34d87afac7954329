/-
  Words for memory, more: 'Kept F w w'' (blocks that were there are as they were, but those of F), 'Grow' (all of them), a block known whole ('Blk'); no program is named here.
-/
import Derived.Test.YtabmefffeafifaaMem
import Derived.Test.YtabmefffeafifaaStages
import Derived.Laws.NewBlocks
import Derived.Laws.CopyOwn
import Derived.Lib.SlBytesConst
import Derived.Deep.OwnRows
import Derived.IntWalk
namespace Go.Proofs.Ytabmefffeafifaa.Blk
open Go.RowKit Go.Proofs.Ytabmefffeafifaa.Mem Go.Proofs.Ytabmefffeafifaa.Stages

/-- Blocks that were there are as they were, but those of F; nothing else has turned but the count of draws. -/
structure Kept (F : Nat → Prop) (w w' : World) : Prop where
  os : w'.os = w.os
  tape : w'.tape = w.tape
  output : w'.output = w.output
  size : w.heap.size ≤ w'.heap.size
  block : ∀ k, k < w.heap.size → ¬ F k → w'.heap[k]? = w.heap[k]?

abbrev Grow : World → World → Prop := Kept fun _ => False

section
variable {F G : Nat → Prop} {a b c w w' : World}
theorem Kept.refl (F : Nat → Prop) (w : World) : Kept F w w := ⟨rfl, rfl, rfl, Nat.le_refl _, fun _ _ _ => rfl⟩
theorem Kept.trans (h : Kept F a b) (k : Kept F b c) : Kept F a c :=
  ⟨k.os.trans h.os, k.tape.trans h.tape, k.output.trans h.output, Nat.le_trans h.size k.size, fun i hi hf => (k.block i (Nat.lt_of_lt_of_le hi h.size) hf).trans (h.block i hi hf)⟩
theorem Kept.mono (h : Kept F a b) (hf : ∀ k, k < a.heap.size → F k → G k) : Kept G a b := ⟨h.os, h.tape, h.output, h.size, fun k hk hg => h.block k hk fun x => hg (hf k hk x)⟩
theorem Kept.then (h : Kept F a b) (k : Kept G b c) (hf : ∀ k, k < a.heap.size → G k → F k) : Kept F a c :=
  ⟨k.os.trans h.os, k.tape.trans h.tape, k.output.trans h.output, Nat.le_trans h.size k.size, fun i hi hi' => (k.block i (Nat.lt_of_lt_of_le hi h.size) fun x => hi' (hf i hi x)).trans (h.block i hi hi')⟩
theorem Kept.drew (h : Kept F a w) : Kept F a w.drew := ⟨h.os, h.tape, h.output, h.size, h.block⟩
theorem Kept.drew' (w : World) : Kept F w w.drew := (Kept.refl F w).drew
theorem Kept.drewN (h : Kept F a w) (n : Nat) : Kept F a (w.drewN n) := ⟨h.os, h.tape, h.output, h.size, h.block⟩
theorem Kept.alloc (h : Kept F a w) (o : Obj) : Kept F a (w.alloc o) :=
  h.trans ⟨rfl, rfl, rfl, by simp, fun k hk _ => Below.heap_alloc _ _ _ (by omega)⟩
/-- A store into a block that is new, or one of F. -/
theorem Kept.setCell (h : Kept F a w) {p : Addr} (hp : p.block < a.heap.size → F p.block) (u : Value) : Kept F a (w.setCell p u) :=
  ⟨h.os, h.tape, h.output, by simpa [World.setCell] using h.size, fun k hk hf => by
    rw [Below.heap_setCell _ _ _ _ (fun e => hf (by subst e; exact hp hk))]; exact h.block k hk hf⟩
theorem Kept.grown (h : Kept F a w) {row : Option Nat} (hg : w.grownBy w' row) (hr : ∀ k, row = some k → k < a.heap.size → F k) : Kept F a w' :=
  ⟨hg.os.trans h.os, hg.tape.trans h.tape, hg.output.trans h.output, Nat.le_trans h.size hg.size, fun k hk hf => by
    rw [hg.block k (Nat.lt_of_lt_of_le hk h.size) (fun e => hf (hr k e.symm hk))]; exact h.block k hk hf⟩
theorem Kept.cell (h : Kept F w w') {p : Addr} (hp : p.block < w.heap.size) (hf : ¬ F p.block) : w'.cell? p = w.cell? p := World.cell?_of_block (w := w) (h.block p.block hp hf)
theorem Kept.cellN (h : Kept F w w') {p : Addr} {v : Value} (hc : w.cell? p = some v) (hf : ¬ F p.block) : w'.cell? p = some v := (h.cell (block_lt_of_cell hc) hf).trans hc
theorem Kept.frozen (h : Kept F w w') {p : Addr} (hp : p.block < w.heap.size) (hf : ¬ F p.block) : w'.frozen? p = w.frozen? p := World.frozen?_of_block (w := w) (h.block p.block hp hf)
theorem Kept.of_below (h : Below w.heap.size w w') : Kept F w w' := ⟨h.os, h.tape, h.output, h.size, fun k hk _ => h.block k hk⟩
theorem Kept.below {B : Nat} (h : Kept F w w') (hF : ∀ k, F k → B ≤ k) (hB : B ≤ w.heap.size) : Below B w w' := ⟨h.os, h.tape, h.output, h.size, fun k hk => h.block k (by omega) fun x => by have := hF k x; omega⟩
theorem Grow.below (h : Grow w w') : Below w.heap.size w w' := Kept.below h (fun _ x => x.elim) (Nat.le_refl _)
theorem Grow.kept (h : Grow w w') : Kept F w w' := h.mono fun _ _ x => x.elim
/-- What a call leaves as it was: all blocks that were there when the frame began, if the call's own blocks are newer. -/
theorem Below.ofKept {B : Nat} (h : Below B a w) (k : Kept F w w') (hB : B ≤ w.heap.size) (hF : ∀ k, k < B → ¬ F k) : Below B a w' :=
  h.trans ⟨k.os, k.tape, k.output, k.size, fun i hi => k.block i (by omega) (hF i hi)⟩
theorem Sl.kept {B n : Nat} {k : IntKind} {A : Option Addr} {zs : List Int} (h : Sl w B k A n zs) (hk : Kept F w w') (hB : B ≤ w.heap.size) (hF : ∀ b, b < B → ¬ F b) : Sl w' B k A n zs :=
  h.keep fun b o hb => hk.cell (p := ⟨b, o, none⟩) (by show b < _; omega) (hF b hb)
end

/-- The relation of a region's stages. -/
theorem kept_refl (F : Nat → Prop) : ∀ a, Kept F a a := Kept.refl F
theorem kept_trans (F : Nat → Prop) : ∀ a b c, Kept F a b → Kept F b c → Kept F a c := fun _ _ _ h k => h.trans k

instance upInhabited (F : Nat → Prop) (w : World) : Inhabited (Up (Kept F) w) := ⟨⟨w, Kept.refl F w⟩⟩

/-- A cell, in whatever world may follow. -/
theorem up_cell {F : Nat → Prop} {w : World} {p : Addr} {v : Value} (h : w.cell? p = some v) (hf : ¬ F p.block) (u : Up (Kept F) w) : u.u.cell? p = some v := u.h.cellN h hf

/-- 'string(b)' and the like, in whatever world may follow. -/
theorem up_run {F : Nat → Prop} {P : Program} {α : Type} {m : Sem α} {x : α} {w : World} (h : ∀ w', Kept F w w' → m.run P w' = .ok x w') (u : Up (Kept F) w) : m.run P u.u = .ok x u.u := h _ u.h

/-- The block g holds just these cells, and may be written. -/
def Blk (w : World) (g : Nat) (t : TypeId) (cs : List Value) : Prop := w.heap[g]? = some (.cells cs.toArray t (0, 0))

section
variable {w w' : World} {g : Nat} {t : TypeId} {cs : List Value} {F : Nat → Prop}
theorem Blk.lt (h : Blk w g t cs) : g < w.heap.size := (Array.getElem?_eq_some_iff.1 h).1
theorem Blk.cell (h : Blk w g t cs) (j : Nat) : w.cell? ⟨g, j, none⟩ = cs[j]? := by rw [cell_of_row w g j _ t _ h]; simp
theorem Blk.cellD (h : Blk w g t cs) {j : Nat} (hj : j < cs.length) (d : Value) : w.cell? ⟨g, j, none⟩ = some (cs.getD j d) := by
  rw [h.cell, List.getD_eq_getElem?_getD, List.getElem?_eq_getElem hj]; rfl
theorem Blk.frozen (h : Blk w g t cs) (j : Nat) : w.frozen? ⟨g, j, none⟩ = false := frozen_of_row w g j _ t h
theorem Blk.frozenAll (h : Blk w g t cs) : ∀ j, w.frozen? ⟨g, j, none⟩ = false := h.frozen
theorem Blk.new (w : World) (t : TypeId) (cs : List Value) : Blk (w.alloc (.cells cs.toArray t)) w.heap.size t cs := heap_alloc_new w _
theorem Blk.drew (h : Blk w g t cs) : Blk w.drew g t cs := h
theorem Blk.drewN (h : Blk w g t cs) (n : Nat) : Blk (w.drewN n) g t cs := h
theorem Blk.alloc (h : Blk w g t cs) (o : Obj) : Blk (w.alloc o) g t cs := by
  unfold Blk; rw [Below.heap_alloc w o g h.lt]; exact h
theorem Blk.set (h : Blk w g t cs) (i : Nat) (v : Value) : Blk (w.setCell ⟨g, i, none⟩ v) g t (cs.set i v) := by
  have := heap_setCell_same w g i _ t v h
  unfold Blk
  rw [this]
  simp
theorem Blk.other (h : Blk w g t cs) {p : Addr} (hp : g ≠ p.block) (v : Value) : Blk (w.setCell p v) g t cs := by
  unfold Blk; rw [heap_setCell_other w p g v hp]; exact h
theorem Blk.kept (h : Blk w g t cs) (hk : Kept F w w') (hf : ¬ F g) : Blk w' g t cs := by
  unfold Blk; rw [hk.block g h.lt hf]; exact h
theorem Blk.grow (h : Blk w g t cs) (hk : Grow w w') : Blk w' g t cs := h.kept hk id
theorem Blk.below {B : Nat} (h : Blk w g t cs) (hb : Below B w w') (hg : g < B) : Blk w' g t cs := by
  unfold Blk; rw [hb.block g hg]; exact h
theorem Blk.unique {t' : TypeId} {ds : List Value} (h : Blk w g t cs) (h' : Blk w g t' ds) : t = t' ∧ cs = ds := by
  have e := h.symm.trans h'
  injection e with e
  injection e with e1 e2 e3
  exact ⟨e2, by simpa using e1⟩

/-- A block of numbers. -/
abbrev NBlk (w : World) (g : Nat) (t : TypeId) (k : IntKind) (zs : List Int) : Prop := Blk w g t (zs.map (Value.int k))
theorem NBlk.at_ {k : IntKind} {zs : List Int} (h : NBlk w g t k zs) {j : Nat} (hj : j < zs.length) : w.cell? ⟨g, j, none⟩ = some (.int k (zs.getD j 0)) := by
  rw [Blk.cell h]
  simp [List.getD_eq_getElem?_getD, List.getElem?_eq_getElem hj]
theorem NBlk.set {k : IntKind} {zs : List Int} (h : NBlk w g t k zs) (i : Nat) (v : Int) : NBlk (w.setCell ⟨g, i, none⟩ (.int k v)) g t k (zs.set i v) := by
  have := Blk.set h i (.int k v)
  rwa [← List.map_set] at this
theorem NBlk.new (w : World) (t : TypeId) (k : IntKind) (zs : List Int) : NBlk (w.alloc (.cells (zs.map (Value.int k)).toArray t)) w.heap.size t k zs := Blk.new w t _
theorem NBlk.unique {k : IntKind} {t' : TypeId} {zs ys : List Int} (h : NBlk w g t k zs) (h' : NBlk w g t' k ys) : zs = ys := by
  have := (Blk.unique h h').2
  exact (List.map_inj_right (fun a b e => by injection e)).1 this

/-- A block of numbers, read as a slice from an offset on. -/
theorem Sl.of_blk {k : IntKind} {zs : List Int} {B : Nat} (h : NBlk w g t k zs) (off n : Nat) (hn : off + n ≤ zs.length) (hB : g < B) : Sl w B k (some ⟨g, off, none⟩) n ((zs.drop off).take n) := by
  refine ⟨by rw [List.length_take, List.length_drop]; omega, fun hpos => ⟨g, off, rfl, hB, fun j hj => ?_⟩⟩
  rw [NBlk.at_ h (by omega)]
  simp [List.getD_eq_getElem?_getD, hj]
theorem Sl.of_blk0 {k : IntKind} {zs : List Int} {B n : Nat} (h : NBlk w g t k zs) (hn : zs.length = n) (hB : g < B) : Sl w B k (some ⟨g, 0, none⟩) n zs := by
  have := Sl.of_blk (B := B) h 0 n (by omega) hB
  rwa [List.drop_zero, List.take_of_length_le (by omega)] at this
end

theorem rep_map (n : Nat) (k : IntKind) : (List.replicate n (0 : Int)).map (Value.int k) = List.replicate n (Value.int k 0) := by simp

theorem made_rep (k : IntKind) (n : Nat) : madeCells #[Value.int k 0] n = ((List.replicate n (0 : Int)).map (Value.int k)).toArray := by
  apply Array.ext'
  rw [toList_madeCells_one]
  simp
theorem NBlk.made (w : World) (t : TypeId) (k : IntKind) (n : Nat) : NBlk (w.alloc (.cells (madeCells #[Value.int k 0] n) t)) w.heap.size t k (List.replicate n 0) := by
  rw [made_rep]; exact NBlk.new w t k _

/-- 'copy' into a block that is known whole, as a run equation. -/
theorem run_copy {P : Program} {w : World} (dT sT ty elem : TypeId) (hu : P.underlying dT = some (.slice elem)) (hs : (P.info? elem).map (·.size) = some 1)
    {g : Nat} {t : TypeId} {k : IntKind} {cur : List Int} (hg : NBlk w g t k cur) (off dLen dCap : Nat) {A : Option Addr} {sLen B : Nat} {src : List Int} (sCap : Nat) (hsl : Sl w B k A sLen src) (m : Nat) (hm : Nat.min sLen dLen = m) (hfit : off + m ≤ cur.length) :
    ∃ w', (Builtin.copy_ #[dT, sT] ty #[.slice (some ⟨g, off, none⟩) dLen dCap, .slice A sLen sCap]).run P w = .ok (.int .i64 (m : Int)) w' ∧ NBlk w' g t k (cur.take off ++ (src.take m ++ cur.drop (off + m))) ∧ Kept (· = g) w w' := by
  by_cases h0 : m = 0
  · subst h0
    refine ⟨w, run_copy_none (P := P) w dT sT ty elem _ _ _ _ _ _ hu hs hm, ?_, Kept.refl _ _⟩
    simpa using hg
  · have hml : m ≤ sLen := by rw [← hm]; exact Nat.min_le_left _ _
    obtain ⟨b, o, rfl, _, hc⟩ := hsl.at_ (by omega)
    have hlen : ((src.take m).map (Value.int k)).length = m := by rw [List.length_map, List.length_take, hsl.len]; omega
    have hr := run_copy_row (P := P) w dT sT ty elem g off dLen dCap ⟨b, o, none⟩ sLen sCap _ t ((src.take m).map (Value.int k)) hu hs hg (by rw [hlen, hm]) (fun j v hv => by
      have hj : j < m := by
        rcases Nat.lt_or_ge j m with h | h
        · exact h
        · rw [List.getElem?_eq_none (by omega)] at hv; cases hv
      have e : (⟨b, o, none⟩ : Addr).add j = ⟨b, o + j, none⟩ := by unfold Addr.add; split <;> simp_all
      rw [e, hc j (by omega), ← hv]
      simp [List.getD_eq_getElem?_getD, hj, List.getElem?_eq_getElem (show j < src.length by rw [hsl.len]; omega)]) (by rw [hlen]; simpa using hfit) (ints_oneCell _ _)
    rw [hlen] at hr
    refine ⟨_, hr, ?_, ⟨rfl, rfl, rfl, by simp, fun i hi hf => setRow_other w g i _ hf⟩⟩
    have := setRow_heap w g _ (((cur.map (Value.int k)).toArray.toList.take off ++ (src.take m).map (Value.int k) ++ (cur.map (Value.int k)).toArray.toList.drop (off + m)).toArray) t _ hg
    unfold NBlk Blk
    rw [this]
    simp [List.map_take, List.map_drop]

theorem cell_new1 (w : World) (x : Value) (t : TypeId) : (w.alloc (.cells #[x] t)).cell? ⟨w.heap.size, 0, none⟩ = some x := by
  rw [cell_of_row _ _ 0 _ t _ (heap_alloc_new w _)]; rfl

/-- 'append(out, x)', out a slice of the call's own, x in a block of one cell: at the list of a plain region's operations. -/
theorem wpList_append_one {P : Program} {w : World} {ops : Array Oper} {rest : List Oper} {o : Oper} {a : Act} {Q : Exit → Act → World → Prop} (hgd : o.guard = none) (s x : Operand) (t : TypeId)
    (ho : o.op = .call { callee := .builtin .append, args := #[s, x], argTypes := #[t, t] }) (base : Nat) (e : TypeId) (z : Value) (bytes : Nat) (ht : P.underlying t = some (.slice e))
    (hinfo : (P.info? e).map (fun i => (i.zero, i.size, i.bytes)) = some (some z, 1, bytes)) (hzs : z.cells.size = 1)
    (v : Value) (n : Nat) (xs : List Value) (hs : a.eval s = v) (hown : w.ownsRow base e 1 v n xs) (b : Nat) (u : Value) (hx : a.eval x = .slice (some ⟨b, 0, none⟩) 1 1) (hb : w.cell? ⟨b, 0, none⟩ = some u) (hu : u.oneCell' = true)
    (h63 : n + 1 ≤ maxLen) (hbytes : (n + 1) * bytes ≤ 140737488355328) (hbase : base ≤ w.heap.size)
    (h : ∀ g cap w', w'.ownsRow base e 1 (.slice (some ⟨g, 0, none⟩) (n + 1) cap) (n + 1) (xs ++ [u]) → Below base w w' → wpList P ops Q rest (a.put o.dst (.slice (some ⟨g, 0, none⟩) (n + 1) cap)) w') : wpList P ops Q (o :: rest) a w := by
  obtain ⟨i, hi, hz, hsz, hby⟩ := info_parts hinfo
  refine wpList_append_lies w hgd s x t ho base e i z 1 bytes ht hi hz hsz hby hzs (by omega) v n xs hs hown ⟨b, 0, none⟩ 1 1 [u] hx rfl ?_ ?_ (by omega) h63 hbytes hbase _ rfl ?_
  · intro j x hj
    cases j with
    | zero => simp at hj; subst hj; simpa [Addr.add] using hb
    | succ j => simp at hj
  · intro y hy
    simp at hy
    subst hy
    exact hu
  · intro g cap w' h1 h2 h3 h4
    refine h g cap w' h1 ((Below.refl _ _).grown h2 hbase fun k hk => (hown.lt k hk).1)

/-- A row of the call's own, of numbers, read as a slice. -/
theorem Sl.of_row1 {w : World} {base e n : Nat} {k : IntKind} {v : Value} {zs : List Int} (h : w.ownsRow base e 1 v n (zs.map (Value.int k))) : ∃ A c, v = .slice A n c ∧ Sl w w.heap.size k A n zs := by
  by_cases hn : 0 < n
  · obtain ⟨g, cap, rfl, _, _⟩ := h.form hn
    exact ⟨_, _, rfl, Sl.of_own h⟩
  · have h0 : n = 0 := by omega
    subst h0
    have hz : zs = [] := by
      have := h.1
      simpa using this
    subst hz
    rcases h.2 with ⟨hv, _⟩ | ⟨g, cap, cur, hv, _⟩
    · exact ⟨none, 0, hv, Sl.nil _ _ _ _⟩
    · exact ⟨_, _, hv, Sl.nil _ _ _ _⟩

/-- 'int(uint(a) % n)' is a number below n. -/
theorem tmod_nat (a : Int) (n : Nat) (hn : 0 < n) : ∃ K : Nat, (IntKind.u64.wrap a).tmod (n : Int) = (K : Int) ∧ K < n := by
  have hu := wrap_u64_nonneg a
  obtain ⟨K, hK⟩ : ∃ K : Nat, (IntKind.u64.wrap a).tmod (n : Int) = (K : Int) := Int.eq_ofNat_of_zero_le (by rw [IntWalk.rem_in _ _ hu]; exact Int.emod_nonneg _ (by omega))
  refine ⟨K, hK, ?_⟩
  have := Int.emod_lt_of_pos (IntKind.u64.wrap a) (show (0 : Int) < (n : Int) by omega)
  rw [IntWalk.rem_in _ _ hu] at hK
  omega

#print axioms Sl.of_blk0
end Go.Proofs.Ytabmefffeafifaa.Blk
