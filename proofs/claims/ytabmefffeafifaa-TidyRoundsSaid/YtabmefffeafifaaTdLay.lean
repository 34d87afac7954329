/-
  What TidyRounds needs of its twelve frames.
-/
import Derived.Test.YtabmefffeafifaaTdPick
import Derived.Test.YtabmefffeafifaaTdDue
namespace Go.Proofs.Ytabmefffeafifaa.TdL
open Go.ChangeShapes Go.WideShapes Go.ChangeAt Go.RowKit
open Go.Proofs.Ytabmefffeafifaa.Mem Go.Proofs.Ytabmefffeafifaa.Blk Go.Proofs.Ytabmefffeafifaa.Cells Go.Proofs.Ytabmefffeafifaa.GsC Go.Proofs.Ytabmefffeafifaa.Orow Go.Proofs.Ytabmefffeafifaa.FrmC Go.Proofs.Ytabmefffeafifaa.TdM Go.Proofs.Ytabmefffeafifaa.TdC Go.Proofs.Ytabmefffeafifaa.Stages

/-- The frames of the law: which of them are dirty. -/
def fr (g : Nat → Bool) (q : Nat) : Fm := ⟨1, (q : Int), 0, 0, g q⟩
/-- One frame more. -/
def put (g : Nat → Bool) (j : Nat) (b : Bool) (q : Nat) : Bool := if q = j then b else g q
section
variable {w wr : World} {g : Nat → Bool} {j n a k : Nat} {b : Bool}
theorem put_cnt : cnt (put g j b) (j + 1) = cnt g j + if b = true then 1 else 0 := by
  show cnt (put g j b) j + (if put g j b j = true then 1 else 0) = _
  rw [cnt_same (g := g) (g' := put g j b) fun q hq => if_neg (Nat.ne_of_lt hq), show put g j b j = b from if_pos rfl]
theorem put_fr (q : Nat) (_ : q < j + 1) : fr (put g j b) q = upd (fr g) j ⟨1, (j : Int), 0, 0, b⟩ q := by
  unfold fr put upd
  by_cases e : q = j
  · subst e; simp
  · simp [e]
theorem off_fr {x : Nat} (q : Nat) (_ : q < n) : fr (off g x) q = upd (fr g) x { fr g x with dirty := false } q := by
  unfold fr off upd
  by_cases e : q = x
  · subst e; simp
  · simp [e]
/-- 'l = append(l, frame)'. -/
theorem push_fr {v : Value} (h : Fo wr (w.heap.size ≤ ·) v j (fr g)) (hg : Grow w wr) (hj : j ≤ 1000) (b : Bool) :
    ∃ p cap w2, (∀ ty, (Builtin.append_ #[22, 22] ty #[v, .slice (some ⟨wr.heap.size, 0, none⟩) 1 1]).run Try.prog (wr.alloc (.cells #[.int .i64 1, .int .i64 (j : Int), .int .i64 0, .int .i64 0, .bool b] 25)) = .ok (.slice (some ⟨p, 0, none⟩) (j + 1) cap) w2) ∧ Fw w2 p cap (j + 1) (fr (put g j b)) ∧ w.heap.size ≤ p ∧ Grow w w2 := by
  have hb : Blk (wr.alloc (.cells #[.int .i64 1, .int .i64 (j : Int), .int .i64 0, .int .i64 0, .bool b] 25)) wr.heap.size 25 [.int .i64 1, .int .i64 (j : Int), .int .i64 0, .int .i64 0, .bool b] := Blk.new wr _ _
  have hgr : Grow wr (wr.alloc (.cells #[.int .i64 1, .int .i64 (j : Int), .int .i64 0, .int .i64 0, .bool b] 25)) := (Kept.refl _ wr).alloc _
  have h1 := OS.kept h hgr fun _ _ => id
  obtain ⟨_, ho⟩ := OS.own h
  obtain ⟨p, cap, w2, hr, hf, hk, hp⟩ := Fo.push (x := ⟨1, (j : Int), 0, 0, b⟩) 0 h1 (by omega) wr.heap.size 1 fun i u hi => by rw [hb.cell]; exact hi
  have hs := hg.size
  refine ⟨p, cap, w2, fun ty => hr, Fw.same hf put_fr, ?_, ?_⟩
  · rcases hp with e | rfl
    · exact (ho p e).1
    · simp; omega
  · exact (hg.trans hgr).then hk fun k hk1 hk2 => by have := (ho k hk2).1; omega
/-- What is picked of dirty ones. -/
theorem picked (h0 : 0 < cnt g n) (hk : 0 < k) : (∀ q, q < (pick (fr g) n a k n).length → (pick (fr g) n a k n).getD q 0 < n ∧ g ((pick (fr g) n a k n).getD q 0) = true) ∧
    (∀ p q, p < q → q < (pick (fr g) n a k n).length → (pick (fr g) n a k n).getD p 0 ≠ (pick (fr g) n a k n).getD q 0) ∧ 0 < (pick (fr g) n a k n).length ∧ (pick (fr g) n a k n).length ≤ n := by
  have hm : ∀ q, may (fr g q) = g q := fun q => by unfold may fr; cases g q <;> rfl
  have hn := pk_nodup (g := fun q => may (fr g q)) (a := a) (k := k) (j := n) (n := n) (Nat.le_refl _)
  refine ⟨fun q hq => ?_, fun p q hpq hq => ?_, ?_, pk_len.2⟩
  · have hx : (pick (fr g) n a k n).getD q 0 ∈ pick (fr g) n a k n := by rw [List.getD_eq_getElem?_getD, List.getElem?_eq_getElem hq]; exact List.getElem_mem _
    obtain ⟨h1, i, hi, e⟩ := pk_mem hx
    rw [hm] at h1
    exact ⟨by rw [e]; exact Nat.mod_lt _ (by omega), h1⟩
  · rw [List.getD_eq_getElem?_getD, List.getD_eq_getElem?_getD, List.getElem?_eq_getElem hq, List.getElem?_eq_getElem (by omega : p < _)]
    exact (List.pairwise_iff_getElem.1 hn) p q _ hq hpq
  · rcases Nat.eq_zero_or_pos (pick (fr g) n a k n).length with e | e
    · have e2 := List.eq_nil_of_length_eq_zero e
      have : cnt g n = 0 := cnt_none fun q hq => by
        have := pk_nil (g := fun q => may (fr g q)) hk e2 hq
        rwa [hm] at this
      omega
    · exact e
/-- Nothing is dirty. -/
theorem clean_all (h0 : cnt g n = 0) : pick (fr g) n a k n = [] ∧ dueT (fr g) n = false := by
  have hz := cnt_zero h0
  constructor
  · cases hp : pick (fr g) n a k n with
    | nil => rfl
    | cons x r =>
      have hx : x ∈ pick (fr g) n a k n := by rw [hp]; exact List.mem_cons_self
      obtain ⟨h1, i, hi, e⟩ := pk_mem hx
      have hm : may (fr g x) = g x := by unfold may fr; cases g x <;> rfl
      rw [hm, hz x (by rw [e]; exact Nat.mod_lt _ (by omega))] at h1
      cases h1
  · unfold dueT
    rw [cnt_none (g := fun q => soiled (fr g q)) fun q hq => by
      show soiled (fr g q) = false
      unfold soiled fr
      rw [hz q hq]; rfl]
    simp
end
end Go.Proofs.Ytabmefffeafifaa.TdL
