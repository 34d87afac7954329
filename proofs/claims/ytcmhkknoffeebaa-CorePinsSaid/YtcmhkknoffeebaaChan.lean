/-
  A communication inside a frame that is walked by 'Code.wp': a region whose operations are carried out one by one ('InReg'), of which one may be a send into a buffer with room, or a select of one receive with a default. No program is named here.
-/
import Derived.Test.YtcmhkknoffeebaaBlk
import Derived.Conc.LoneSelect
namespace Go.Proofs.Ytcmhkknoffeebaa.Chan
open Go.RowKit Go.Conc
open Go.Proofs.Ytcmhkknoffeebaa.Mem Go.Proofs.Ytcmhkknoffeebaa.Blk

/-- Within a region, the operations l (by their places) still to be carried out. -/
def InReg (P : Program) (ops : Array Oper) (Q : Exit → Act → World → Prop) (l : List Nat) (a : Act) (w : World) : Prop :=
  ∀ (b : Frame) (k : List Item) (cs : List Frame), ∃ e a' w', Q e a' w' ∧ Arrives P (lone (b.at a (.inRegion ops l :: k)) cs w) b k cs e a' w'

/-- What is asked of an operation that yields a value, or nothing. -/
def uponV (o : Oper) (a : Act) (K : Act → World → Prop) : Result Next → Prop
  | .ok (.value v) w' => K (a.put o.dst v) w'
  | .ok .skip w' => K (a.put o.dst undef) w'
  | _ => False

section
variable {P : Program} {ops : Array Oper} {Q : Exit → Act → World → Prop} {a : Act} {w w' : World} {i : Nat} {rest : List Nat} {o : Oper}
@[simp] theorem uponV_value (K : Act → World → Prop) (v : Value) : uponV o a K (.ok (.value v) w') = K (a.put o.dst v) w' := rfl
@[simp] theorem uponV_skip (K : Act → World → Prop) : uponV o a K (.ok .skip w') = K (a.put o.dst undef) w' := rfl

theorem wp_inReg {id : Nat} (h : InReg P ops Q (List.range ops.size) a w) : (Code.region id ops false).wp P Q a w := fun b k cs => by
  obtain ⟨e, a', w', q, r⟩ := h b k cs
  exact ⟨e, a', w', q, .of_steps (.one step_region) r⟩
theorem InReg.nil (h : Q .normal a w) : InReg P ops Q [] a w := fun _ _ _ => ⟨.normal, a, w, h, .one step_region_end⟩

/-- One step of the machine's that ends the operation. -/
theorem InReg.of_step {v : Value} (ho : ops[i]? = some o) (hs : ∀ (b : Frame) (k : List Item) (cs : List Frame), step P (lone (b.at a (.inRegion ops (i :: rest) :: k)) cs w) = .next (lone ((b.at a (.inRegion ops (i :: rest) :: k)).finish v) cs w'))
    (h : InReg P ops Q rest (a.put o.dst v) w') : InReg P ops Q (i :: rest) a w := fun b k cs => by
  obtain ⟨e, a', w2, q, r⟩ := h b k cs
  have h1 := hs b k cs
  rw [Frame.finish_at, ho] at h1
  exact ⟨e, a', w2, q, .of_steps (.one h1) r⟩
theorem InReg.op (ho : ops[i]? = some o) (hw : Region.wanted o (yielded ops a.tmps) = true)
    (h : ∀ K : Act → World → Prop, (∀ a w, InReg P ops Q rest a w → K a w) → uponV o a K ((execOp a.eval o).run P w)) : InReg P ops Q (i :: rest) a w := by
  have h := h _ fun _ _ h => h
  generalize hr : (execOp a.eval o).run P w = r at h
  match r, h with
  | .ok (.value v) w1, h =>
    refine InReg.of_step ho (fun b k cs => step_lone_go ?_) h
    rw [stepG_op ho hw]
    simp [stepG.apply, hr]
  | .ok .skip w1, h =>
    refine InReg.of_step ho (fun b k cs => step_lone_go ?_) h
    rw [stepG_op ho hw]
    simp [stepG.apply, hr]

/-- An operation that is a communication is handed up to the machine, whatever the frame's kind. -/
theorem comm_up {cases : Array CommCase} {blocking : Bool} {shape : CommShape} {b : Frame} {k : List Item} {cs : List Frame} (ho : ops[i]? = some o) (hw : Region.wanted o (yielded ops a.tmps) = true) (hr : (execOp a.eval o).run P w = .ok (.comm cases blocking shape) w') :
    ∃ es, stepG P true (G (b.at a (.inRegion ops (i :: rest) :: k)) cs) w = .comm (G (b.at a (.inRegion ops (i :: rest) :: k)) cs) cases blocking shape w' es := by
  by_cases hk : b.kind = .early
  · refine ⟨seen P b.fn #[], ?_⟩
    rw [stepG_oper ho hw]
    simp [stepG.apply, hr, G, Frame.at, hk, GStep.after]
  · exact ⟨_, stepG_comm ho hw hk hr⟩

variable {c cap s r : Nat} {buf : Array Value} {z v : Value} {tm closed : Bool}
/-- A send into a buffer with room. -/
theorem InReg.send (ho : ops[i]? = some o) (hw : Region.wanted o (yielded ops a.tmps) = true) (hr : (execOp a.eval o).run P w = .ok (.comm #[scase c v z] true .send) w')
    (hc : w'.heap[c]? = some (.chan cap buf false s r tm)) (hroom : buf.size < cap) (h : InReg P ops Q rest (a.put o.dst undef) (w'.setChan c cap (buf.push v) false (s + 1) r tm)) : InReg P ops Q (i :: rest) a w :=
  InReg.of_step ho (fun b k cs => by
    obtain ⟨es, he⟩ := comm_up (b := b) (k := k) (cs := cs) (rest := rest) ho hw hr
    rw [lone_eq_solo, lone_eq_solo]
    exact step_lone_send_room he hc hroom) h
/-- A select of one receive with a default: the buffer holds something; it holds nothing; there is no channel. -/
theorem InReg.taken (ho : ops[i]? = some o) (hw : Region.wanted o (yielded ops a.tmps) = true) (hr : (execOp a.eval o).run P w = .ok (.comm #[rcase c z] false .select) w')
    (hc : w'.heap[c]? = some (.chan cap buf closed s r tm)) (hsome : 0 < buf.size) (h : InReg P ops Q rest (a.put o.dst (.tuple #[goInt 0, .bool true, buf.getD 0 undef])) (w'.setChan c cap (buf.extract 1 buf.size) closed s (r + 1) tm)) : InReg P ops Q (i :: rest) a w :=
  InReg.of_step ho (fun b k cs => by
    obtain ⟨es, he⟩ := comm_up (b := b) (k := k) (cs := cs) (rest := rest) ho hw hr
    rw [lone_eq_solo, lone_eq_solo]
    exact step_lone_select_recv_buf he hc hsome) h
/-- A select of one send with a default: there is room; there is none. -/
theorem InReg.sent (ho : ops[i]? = some o) (hw : Region.wanted o (yielded ops a.tmps) = true) (hr : (execOp a.eval o).run P w = .ok (.comm #[scase c v z] false .select) w')
    (hc : w'.heap[c]? = some (.chan cap buf false s r tm)) (hroom : buf.size < cap) (h : InReg P ops Q rest (a.put o.dst (.tuple #[goInt 0, .bool false])) (w'.setChan c cap (buf.push v) false (s + 1) r tm)) : InReg P ops Q (i :: rest) a w :=
  InReg.of_step ho (fun b k cs => by
    obtain ⟨es, he⟩ := comm_up (b := b) (k := k) (cs := cs) (rest := rest) ho hw hr
    rw [lone_eq_solo, lone_eq_solo]
    exact step_lone_select_send_room he hc hroom) h
theorem InReg.full (ho : ops[i]? = some o) (hw : Region.wanted o (yielded ops a.tmps) = true) (hr : (execOp a.eval o).run P w = .ok (.comm #[scase c v z] false .select) w')
    (hc : w'.heap[c]? = some (.chan cap buf false s r tm)) (hfull : cap ≤ buf.size) (h : InReg P ops Q rest (a.put o.dst (.tuple #[goInt (-1), .bool false])) w') : InReg P ops Q (i :: rest) a w :=
  InReg.of_step ho (fun b k cs => by
    obtain ⟨es, he⟩ := comm_up (b := b) (k := k) (cs := cs) (rest := rest) ho hw hr
    rw [lone_eq_solo, lone_eq_solo]
    exact step_lone_select_send_full he hc hfull) h
theorem InReg.empty (ho : ops[i]? = some o) (hw : Region.wanted o (yielded ops a.tmps) = true) (hr : (execOp a.eval o).run P w = .ok (.comm #[rcase c z] false .select) w')
    (hc : w'.heap[c]? = some (.chan cap #[] false s r tm)) (h : InReg P ops Q rest (a.put o.dst (.tuple #[goInt (-1), .bool false, z])) w') : InReg P ops Q (i :: rest) a w :=
  InReg.of_step ho (fun b k cs => by
    obtain ⟨es, he⟩ := comm_up (b := b) (k := k) (cs := cs) (rest := rest) ho hw hr
    rw [lone_eq_solo, lone_eq_solo]
    exact step_lone_select_default he hc) h
theorem InReg.never (ho : ops[i]? = some o) (hw : Region.wanted o (yielded ops a.tmps) = true) (hr : (execOp a.eval o).run P w = .ok (.comm #[rcaseNil z] false .select) w')
    (h : InReg P ops Q rest (a.put o.dst (.tuple #[goInt (-1), .bool false, z])) w') : InReg P ops Q (i :: rest) a w :=
  InReg.of_step ho (fun b k cs => by
    obtain ⟨es, he⟩ := comm_up (b := b) (k := k) (cs := cs) (rest := rest) ho hw hr
    rw [lone_eq_solo, lone_eq_solo]
    exact step_lone_select_recv_nil he) h
end

/-! ### Channels in memory -/
/-- There is a channel at block k. -/
def IsChan (w : World) (k : Nat) : Prop := ∃ cap buf cl s r tm, w.heap[k]? = some (.chan cap buf cl s r tm)
theorem notChan_cell {w : World} {p : Addr} {v : Value} (h : w.cell? p = some v) : ¬ IsChan w p.block := fun ⟨_, _, _, _, _, _, e⟩ => by
  simp [World.cell?, e] at h
theorem notChan_cells {w : World} {k : Nat} {cur : Array Value} {t : TypeId} {fz : Nat × Nat} (h : w.heap[k]? = some (.cells cur t fz)) : ¬ IsChan w k := fun ⟨_, _, _, _, _, _, e⟩ => by
  rw [h] at e; cases e
section
variable {F : Nat → Prop} {a w : World} {c cap : Nat} {buf : Array Value} {cl : Bool} {s r : Nat} {tm : Bool}
theorem heap_setChan_other {k : Nat} (h : k ≠ c) : (w.setChan c cap buf cl s r tm).heap[k]? = w.heap[k]? := by
  simp only [World.setChan]; rw [Array.getElem?_setIfInBounds_ne (fun e => h e.symm)]
theorem kept_setChan (h : Kept F a w) (hc : c < a.heap.size → F c) : Kept F a (w.setChan c cap buf cl s r tm) :=
  ⟨h.os, h.tape, h.output, by simpa [World.setChan] using h.size, fun k hk hf => by
    rw [heap_setChan_other (fun e => hf (by subst e; exact hc hk))]; exact h.block k hk hf⟩
theorem blk_setChan {k : Nat} {t : TypeId} {vs : List Value} (h : Blk w k t vs) (hk : k ≠ c) : Blk (w.setChan c cap buf cl s r tm) k t vs := by
  unfold Blk; rw [heap_setChan_other hk]; exact h
theorem cell_setChan {p : Addr} {v : Value} (h : w.cell? p = some v) (hk : IsChan w c) : (w.setChan c cap buf cl s r tm).cell? p = some v := by
  rw [← h]
  exact World.cell?_of_block (heap_setChan_other fun e => notChan_cell h (by rw [e]; exact hk))
end
end Go.Proofs.Ytcmhkknoffeebaa.Chan
