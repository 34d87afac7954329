/-
  The state of LatchFair: a latch, who holds it, the queue; what its steps make of it.
-/
import Derived.Test.YtpdmncdbimdfaaaHold
namespace Go.Proofs.Ytpdmncdbimdfaaa.FairC
open Go.ChangeShapes Go.WideShapes Go.ChangeAt Go.RowKit
open Go.Proofs.Ytpdmncdbimdfaaa.Mem Go.Proofs.Ytpdmncdbimdfaaa.Blk Go.Proofs.Ytpdmncdbimdfaaa.Cells Go.Proofs.Ytpdmncdbimdfaaa.GsC Go.Proofs.Ytpdmncdbimdfaaa.LatM Go.Proofs.Ytpdmncdbimdfaaa.LatC Go.Proofs.Ytpdmncdbimdfaaa.LatA Go.Proofs.Ytpdmncdbimdfaaa.LatL Go.Proofs.Ytpdmncdbimdfaaa.LatF Go.Proofs.Ytpdmncdbimdfaaa.Told6 Go.Proofs.Ytpdmncdbimdfaaa.HoldC Go.Proofs.Ytpdmncdbimdfaaa.Stages

theorem and3 (n : Int) : bits .and .i64 n 3 = n % 4 := by
  have h3 : (BitVec.ofInt 64 3).toNat = 2 ^ 2 - 1 := by decide
  have key : (BitVec.ofInt 64 n &&& BitVec.ofInt 64 3).toNat = (n % ((2 ^ 64 : Nat) : Int)).toNat % 2 ^ 2 := by
    rw [BitVec.toNat_and, BitVec.toNat_ofInt, h3, Nat.and_two_pow_sub_one_eq_mod]
  show IntKind.i64.wrap ((BitVec.ofInt 64 n &&& BitVec.ofInt 64 3).toNat : Nat) = n % 4
  rw [key, IntKind.wrap_i64]
  omega

/-- How a task stands: 1: it writes; 2: it reads; 0: neither. -/
def code (L : La) (q : Nat) : Int := if L.W = (q : Int) then 1 else if (q : Int) ∈ L.R then 2 else 0
/-- Only the tasks 0 to 7 hold it, or wait. -/
structure Eight (L : La) : Prop where
  h : ∀ t, 0 ≤ t → (L.W = t ∨ t ∈ L.R) → t < 8
  q : ∀ x ∈ L.Q, who x < 8
theorem code_free (q : Nat) : code free q = 0 := by
  unfold code free
  dsimp only
  rw [if_neg (by omega), if_neg (by simp)]
theorem eight_free : Eight free := by
  refine ⟨fun t h0 h => ?_, fun x hx => by cases hx⟩
  unfold free at h
  dsimp only at h
  rcases h with h | h
  · omega
  · cases h
section
variable {L : La} {q T : Nat} {x : Int}
theorem code_one (h : L.W = (q : Int)) : code L q = 1 := if_pos h
theorem code_two (h1 : L.W ≠ (q : Int)) (h2 : (q : Int) ∈ L.R) : code L q = 2 := by unfold code; rw [if_neg h1, if_pos h2]
theorem code_not (h1 : L.W ≠ (q : Int)) (h2 : (q : Int) ∉ L.R) : code L q = 0 := by unfold code; rw [if_neg h1, if_neg h2]
theorem code_range : 0 ≤ code L q ∧ code L q ≤ 2 := by
  unfold code
  split
  · omega
  · split <;> omega
theorem code_has (h : LatM.Good L) : L.has (q : Int) = decide (0 < code L q) := by
  rw [Bool.eq_iff_iff, has_iff h.pre, decide_eq_true_eq]
  unfold code
  constructor
  · rintro ⟨_, h | h⟩
    · rw [if_pos h]; decide
    · by_cases e : L.W = (q : Int)
      · rw [if_pos e]; decide
      · rw [if_neg e, if_pos h]; decide
  · intro hc
    refine ⟨by omega, ?_⟩
    by_cases e : L.W = (q : Int)
    · exact .inl e
    · rw [if_neg e] at hc
      by_cases e2 : (q : Int) ∈ L.R
      · exact .inr e2
      · rw [if_neg e2] at hc
        omega
theorem code_none (h : LatM.Good L) (hc : ¬ 0 < code L q) : ¬ (L.W = (q : Int) ∨ (q : Int) ∈ L.R) := fun hh => by
  have := (has_iff h.pre).2 ⟨by omega, hh⟩
  rw [code_has h, decide_eq_true_eq] at this
  exact hc this

/-- What asking makes. -/
theorem latch_asked (hg : LatM.Good L) (he : Eight L) (hT : T < 8) (hn : ¬ 0 < code L T) (hw : (T : Int) ∉ L.Q.map who) (hx : x = (T : Int) ∨ x = -2 - (T : Int)) :
    ∃ (L' : La) (b : Bool), goIn L.W L.R (L.Q ++ [x]) = (L', if b then [(T : Int)] else []) ∧ LatM.Good L' ∧ Eight L' ∧
      (b = true → L.Q = [] ∧ L'.Q = [] ∧ ∀ q : Nat, code L' q = if q = T then (if x = (T : Int) then 1 else 2) else code L q) ∧
      (b = false → L'.Q.map who = L.Q.map who ++ [(T : Int)] ∧ ∀ q : Nat, code L' q = code L q) := by
  have ht : task (T : Int) = true := task_iff.2 (by omega)
  have hh : L.has (T : Int) = false := by rw [code_has hg]; exact decide_eq_false hn
  have hww : L.waits (T : Int) = false := by
    cases e : L.waits (T : Int) with
    | false => rfl
    | true => exact absurd ((waits_mem ht).1 e) hw
  have hpre := ask_pre (x := x) hg ht hh hww hx
  have hgood := (goIn_spec hpre).1
  have hwx : who x = (T : Int) := by
    rcases hx with rfl | rfl
    · exact who_task ht
    · exact who_read ht
  have hno : goIn L.W L.R (L.Q ++ [x]) = (⟨L.W, L.R, L.Q ++ [x]⟩, []) → _ := fun e => by
    rw [e] at hgood
    exact (⟨⟨L.W, L.R, L.Q ++ [x]⟩, false, e, hgood, ⟨he.h, fun y hy => by
      rcases List.mem_append.1 hy with hy | hy
      · exact he.q y hy
      · have : y = x := by simpa using hy
        subst this
        rw [hwx]; omega⟩, fun h => (by cases h), fun _ => ⟨by simp [hwx], fun q => rfl⟩⟩ : ∃ (L' : La) (b : Bool), goIn L.W L.R (L.Q ++ [x]) = (L', if b then [(T : Int)] else []) ∧ LatM.Good L' ∧ Eight L' ∧
      (b = true → L.Q = [] ∧ L'.Q = [] ∧ ∀ q : Nat, code L' q = if q = T then (if x = (T : Int) then 1 else 2) else code L q) ∧
      (b = false → L'.Q.map who = L.Q.map who ++ [(T : Int)] ∧ ∀ q : Nat, code L' q = code L q))
  by_cases hQ : L.Q = []
  · cases hgv : gives L.W L.R x with
    | false => exact hno (by rw [hQ, List.nil_append]; exact goIn_not hgv)
    | true =>
      obtain ⟨hW, hR⟩ := gives_iff.1 hgv
      rcases hx with hx | hx
      · have hR0 := hR (hwx ▸ hx)
        have e : goIn L.W L.R (L.Q ++ [x]) = (⟨(T : Int), [], []⟩, [(T : Int)]) := by
          rw [hQ, List.nil_append, goIn_write hgv (hwx ▸ hx), goIn_nil, hwx, hR0]
        rw [e] at hgood
        refine ⟨_, true, e, hgood, ⟨fun t _ h => ?_, fun y hy => by cases hy⟩, fun _ => ⟨hQ, rfl, fun q => ?_⟩, fun h => by cases h⟩
        · rcases h with h | h
          · have h : (T : Int) = t := h; omega
          · cases h
        · by_cases eq : q = T
          · subst eq; rw [code_one rfl, if_pos rfl, if_pos hx]
          · have h1 : (T : Int) ≠ (q : Int) := by omega
            have h2 : L.W ≠ (q : Int) := by omega
            rw [if_neg eq, code_not h1 (by simp), code_not h2 (by rw [hR0]; simp)]
      · have hne : x ≠ who x := by rw [hwx, hx]; omega
        have e : goIn L.W L.R (L.Q ++ [x]) = (⟨L.W, ins L.R (T : Int), []⟩, [(T : Int)]) := by
          rw [hQ, List.nil_append, goIn_read hgv hne, goIn_nil, hwx]
        rw [e] at hgood
        refine ⟨_, true, e, hgood, ⟨fun t h0 h => ?_, fun y hy => by cases hy⟩, fun _ => ⟨hQ, rfl, fun q => ?_⟩, fun h => by cases h⟩
        · rcases h with h | h
          · exact he.h t h0 (.inl h)
          · rcases mem_ins.1 h with h | h
            · omega
            · exact he.h t h0 (.inr h)
        · have h2 : L.W ≠ (q : Int) := by omega
          by_cases eq : q = T
          · subst eq
            have h3 : x ≠ (q : Int) := by omega
            rw [if_pos rfl, if_neg h3]
            exact code_two (L := ⟨L.W, ins L.R (q : Int), []⟩) h2 (mem_ins.2 (.inl rfl))
          · rw [if_neg eq]
            have hiff : (q : Int) ∈ ins L.R (T : Int) ↔ (q : Int) ∈ L.R := by
              rw [mem_ins]
              constructor
              · rintro (h | h)
                · omega
                · exact h
              · exact .inr
            by_cases em : (q : Int) ∈ L.R
            · rw [code_two h2 em]
              exact code_two (L := ⟨L.W, ins L.R (T : Int), []⟩) h2 (hiff.2 em)
            · rw [code_not h2 em]
              exact code_not (L := ⟨L.W, ins L.R (T : Int), []⟩) h2 fun h => em (hiff.1 h)
  · exact hno (ask_behind hg hQ)

/-- Who holds a latch, holds it when others have been let in. -/
theorem goIn_more : ∀ {Q : List Int} {W : Int} {R : List Int} {t : Int}, 0 ≤ t → (W = t → (goIn W R Q).1.W = t) ∧ (t ∈ R → t ∈ (goIn W R Q).1.R)
  | [], W, R, t, _ => ⟨id, id⟩
  | q :: Q, W, R, t, h0 => by
    by_cases g : gives W R q = true
    · obtain ⟨hW, hR⟩ := gives_iff.1 g
      by_cases e : q = who q
      · rw [goIn_write g e]
        exact ⟨fun h => by omega, fun h => by rw [hR e] at h; cases h⟩
      · rw [goIn_read g e]
        have := goIn_more (Q := Q) (W := W) (R := ins R (who q)) h0
        exact ⟨this.1, fun h => this.2 (mem_ins.2 (.inr h))⟩
    · have g' : gives W R q = false := by simpa using g
      rw [goIn_not g']
      exact ⟨id, id⟩
/-- How a task stands behind a Free by T that lets in those of i, when they are in. -/
def freed (L L' : La) (T : Nat) (i : List Int) (q : Nat) : Int := if (q : Int) ∈ i then (if L'.W = (q : Int) then 1 else 2) else if q = T then 0 else code L q
theorem latch_freed (hg : LatM.Good L) (he : Eight L) (hc : 0 < code L T) :
    ∃ (L' : La) (k : Nat), goIn (if L.W = (T : Int) then -1 else L.W) (if L.W = (T : Int) then L.R else L.R.filter (fun x => !decide (x = (T : Int)))) L.Q = (L', (L.Q.take k).map who) ∧ k ≤ L.Q.length ∧ L'.Q = L.Q.drop k ∧ LatM.Good L' ∧ Eight L' ∧ ∀ q : Nat, code L' q = freed L L' T ((L.Q.take k).map who) q := by
  have hT : L.has (T : Int) = true := by rw [code_has hg]; exact decide_eq_true hc
  have hpre := free_pre hg hT
  obtain ⟨h1, ⟨k, hk, h2, h3⟩, h4⟩ := goIn_spec hpre
  have h5 := fun (t : Int) (h0 : 0 ≤ t) => goIn_more (Q := L.Q) (W := if L.W = (T : Int) then -1 else L.W) (R := if L.W = (T : Int) then L.R else L.R.filter (fun x => !decide (x = (T : Int)))) h0
  generalize hr : goIn (if L.W = (T : Int) then -1 else L.W) (if L.W = (T : Int) then L.R else L.R.filter (fun x => !decide (x = (T : Int)))) L.Q = r at *
  have held : ∀ q : Nat, ((if L.W = (T : Int) then -1 else L.W) = (q : Int) ∨ (q : Int) ∈ (if L.W = (T : Int) then L.R else L.R.filter (fun x => !decide (x = (T : Int))))) ↔ (q ≠ T ∧ (L.W = (q : Int) ∨ (q : Int) ∈ L.R)) := fun q => by
    by_cases e : L.W = (T : Int)
    · rw [if_pos e, if_pos e]
      have hR : L.R = [] := by
        rcases hg.pre.w with h | ⟨_, h⟩
        · omega
        · exact h
      rw [hR]
      constructor
      · rintro (h | h)
        · omega
        · cases h
      · rintro ⟨h, h' | h'⟩
        · omega
        · cases h'
    · rw [if_neg e, if_neg e, List.mem_filter]
      constructor
      · rintro (h | ⟨h, h'⟩)
        · exact ⟨fun eq => e (eq ▸ h), .inl h⟩
        · refine ⟨fun eq => ?_, .inr h⟩
          subst eq
          simp at h'
      · rintro ⟨h, h' | h'⟩
        · exact .inl h'
        · refine .inr ⟨h', ?_⟩
          simp
          omega
  have hin : ∀ t ∈ (L.Q.take k).map who, 0 ≤ t ∧ t < 8 := fun t ht => by
    obtain ⟨y, hy, rfl⟩ := List.mem_map.1 ht
    have hy' := List.mem_of_mem_take hy
    exact ⟨(task_iff.1 (hg.pre.q y hy')).1, he.q y hy'⟩
  obtain ⟨L', i⟩ := r
  dsimp only at h1 h2 h3 h4 h5
  subst h2
  refine ⟨L', k, rfl, hk, h3, h1, ⟨fun t h0 h => ?_, fun y hy => ?_⟩, fun q => ?_⟩
  · rcases (h4 t h0).1 h with h | h
    · have := (held t.toNat).1 (by rwa [Int.toNat_of_nonneg h0])
      rw [Int.toNat_of_nonneg h0] at this
      exact he.h t h0 this.2
    · exact (hin t h).2
  · rw [h3] at hy
    exact he.q y (List.mem_of_mem_drop hy)
  · have h4q := h4 (q : Int) (by omega)
    have h5q := h5 (q : Int) (by omega)
    have hq := held q
    unfold freed
    by_cases e : (q : Int) ∈ (L.Q.take k).map who
    · rw [if_pos e]
      unfold code
      by_cases ew : L'.W = (q : Int)
      · rw [if_pos ew, if_pos ew]
      · rw [if_neg ew, if_neg ew]
        rcases h4q.2 (.inr e) with h | h
        · exact absurd h ew
        · rw [if_pos h]
    · rw [if_neg e]
      by_cases eT : q = T
      · rw [if_pos eT]
        have hno : ¬ (L'.W = (q : Int) ∨ (q : Int) ∈ L'.R) := fun h => by
          rcases h4q.1 h with h | h
          · exact (hq.1 h).1 eT
          · exact e h
        unfold code
        rw [if_neg fun h => hno (.inl h), if_neg fun h => hno (.inr h)]
      · rw [if_neg eT]
        unfold code
        by_cases ew : L.W = (q : Int)
        · have hW0 : (if L.W = (T : Int) then -1 else L.W) = (q : Int) := by
            rw [if_neg (by omega)]; exact ew
          rw [if_pos ew, if_pos (h5q.1 hW0)]
        · rw [if_neg ew]
          by_cases er : (q : Int) ∈ L.R
          · have hR0 : (q : Int) ∈ (if L.W = (T : Int) then L.R else L.R.filter (fun x => !decide (x = (T : Int)))) := by
              by_cases e1 : L.W = (T : Int)
              · rw [if_pos e1]; exact er
              · rw [if_neg e1, List.mem_filter]
                refine ⟨er, ?_⟩
                simp
                omega
            have hR' := h5q.2 hR0
            have hW' : L'.W ≠ (q : Int) := fun h => by
              rcases h1.pre.w with h' | ⟨_, h'⟩
              · omega
              · rw [h'] at hR'; cases hR'
            rw [if_pos er, if_neg hW', if_pos hR']
          · rw [if_neg er]
            have hno : ¬ (L'.W = (q : Int) ∨ (q : Int) ∈ L'.R) := fun h => by
              rcases h4q.1 h with h | h
              · rcases (hq.1 h).2 with h | h
                · exact ew h
                · exact er h
              · exact e h
            rw [if_neg fun h => hno (.inl h), if_neg fun h => hno (.inr h)]
end
/-- How many of the first k write. -/
def wcount (L : La) (k : Nat) : Int := if 0 ≤ L.W ∧ L.W < (k : Int) then 1 else 0
theorem wcount_zero {L : La} : wcount L 0 = 0 := if_neg (by omega)
theorem wcount_range {L : La} {k : Nat} : 0 ≤ wcount L k ∧ wcount L k ≤ 1 := by unfold wcount; split <;> omega
theorem wcount_one {L : La} {k : Nat} (h : code L k = 1) : wcount L (k + 1) = wcount L k + 1 := by
  have hW : L.W = (k : Int) := by
    unfold code at h
    by_cases e : L.W = (k : Int)
    · exact e
    · rw [if_neg e] at h
      split at h <;> omega
  unfold wcount
  rw [if_pos (by omega), if_neg (by omega)]
  rfl
theorem wcount_other {L : La} {k : Nat} (h : code L k ≠ 1) : wcount L (k + 1) = wcount L k := by
  have hW : L.W ≠ (k : Int) := fun e => h (if_pos e)
  unfold wcount
  by_cases e : 0 ≤ L.W ∧ L.W < (k : Int)
  · rw [if_pos e, if_pos (by omega)]
  · rw [if_neg e, if_neg (by omega)]
theorem code_two_ne {L : La} {k : Nat} (h : code L k = 2) : L.R ≠ [] := fun e => by
  unfold code at h
  rw [e] at h
  split at h
  · omega
  · rw [if_neg (by simp)] at h
    omega
theorem wcount_end {L : La} (hg : LatM.Good L) (he : Eight L) : (wcount L 8 = 1 ∧ L.R = []) ∨ wcount L 8 = 0 := by
  rcases hg.pre.w with h | ⟨h, hR⟩
  · exact .inr (if_neg (by omega))
  · have h0 := task_iff.1 h
    have := he.h L.W h0.1 (.inl rfl)
    exact .inl ⟨if_pos (by omega), hR⟩
theorem in_take {Z : List Int} {t : Int} {q : Nat} (hq : q < Z.length) : decide (t ∈ Z.take (q + 1)) = (decide (t ∈ Z.take q) || (Z.getD q 0 == t)) := by
  have e : Z.getD q 0 = Z[q] := by rw [List.getD_eq_getElem?_getD, List.getElem?_eq_getElem hq]; rfl
  rw [List.take_succ_eq_append_getElem hq, e, Bool.eq_iff_iff]
  simp only [decide_eq_true_eq, Bool.or_eq_true, beq_iff_eq, List.mem_append, List.mem_singleton]
  constructor
  · rintro (h | h)
    · exact .inl h
    · exact .inr h.symm
  · rintro (h | h)
    · exact .inl h
    · exact .inr h.symm
theorem row_zero8 (w : World) (t : TypeId) : Row (w.alloc (.cells #[Value.int .i64 0, Value.int .i64 0, Value.int .i64 0, Value.int .i64 0, Value.int .i64 0, Value.int .i64 0, Value.int .i64 0, Value.int .i64 0] t)) w.heap.size 8 (fun _ => .int .i64 0) := by
  refine Row.of_blk (Blk.new w t (List.replicate 8 (.int .i64 0))) rfl fun i hi => ?_
  rw [List.getElem?_replicate, if_pos hi]
#print axioms latch_freed

/-! ### In memory -/
/-- The blocks that the law's steps write. -/
def Mine (B g : Nat) (A : Option Addr) (c : Nat) (k : Nat) : Prop := k = B ∨ k = g ∨ blk A c k
/-- The latch in the box B, who holds it in the block g, the queue in the slice '.slice A n c'. -/
structure St (w : World) (B g : Nat) (L : La) (A : Option Addr) (n c : Nat) (wr : World) : Prop where
  l : LAx (Mine B g A c) B wr L L.W L.R.length L.Q.length
  i : Row wr g 8 (fun q => .int .i64 (code L q))
  q : Gs wr A n c (L.Q.map who)
  good : LatM.Good L
  e : Eight L
  k : Grow w wr
  bl : w.heap.size ≤ B
  gl : w.heap.size ≤ g
  ql : ∀ k, blk A c k → w.heap.size ≤ k ∧ k ≠ B ∧ k ≠ g
  ne : B ≠ g
section
variable {w wr wx w3 w4 w5 w6 : World} {B g n c T : Nat} {L L' : La} {A : Option Addr}
theorem St.lt (h : St w B g L A n c wr) : B < wr.heap.size ∧ g < wr.heap.size ∧ ∀ k, Mine B g A c k → k < wr.heap.size := by
  obtain ⟨_, _, _, _, hb, _⟩ := h.l
  refine ⟨hb.lt, h.i.lt, fun k hk => ?_⟩
  rcases hk with rfl | rfl | hk
  · exact hb.lt
  · exact h.i.lt
  · exact h.q.lt hk
theorem St.grow (h : St w B g L A n c wr) (hk : Grow wr wx) : St w B g L A n c wx :=
  ⟨h.l.grow hk, h.i.kept hk id, h.q.grow hk, h.good, h.e, h.k.trans hk, h.bl, h.gl, h.ql, h.ne⟩
/-- Behind 'x = ..': the latch is L', who holds it and the queue stand as they did. -/
structure Mid (w : World) (B g : Nat) (L L' : La) (A : Option Addr) (n c : Nat) (wr : World) : Prop where
  l : LAx (Mine B g A c) B wr L' L'.W L'.R.length L'.Q.length
  i : Row wr g 8 (fun q => .int .i64 (code L q))
  q : Gs wr A n c (L.Q.map who)
  k : Grow w wr
theorem St.mid {x y z : Value} {D D' : Option Addr} {d d' : Nat} (h : St w B g L A n c wr) (h3 : Grow wr w3) (hx : Blk w3 B 25 [x, y, z])
    (hs : Stays (Mine B g A c) w3 L' (.agg #[.int .i64 L'.W, .slice D L'.R.length d, .slice D' L'.Q.length d'])) :
    Mid w B g L L' A n c (((w3.setCell ⟨B, 0, none⟩ (.int .i64 L'.W)).setCell ⟨B, 1, none⟩ (.slice D L'.R.length d)).setCell ⟨B, 2, none⟩ (.slice D' L'.Q.length d')) := by
  obtain ⟨h1, h2⟩ := LAx.put hx hs (.inl rfl)
  exact ⟨h1, (h.i.kept h3 id).kept h2 fun e => h.ne e.symm, (h.q.grow h3).kept h2 fun k hk e => (h.ql k hk).2.1 e, (h.k.trans h3).then h2 fun k hk e => by have := h.bl; omega⟩
/-- 'in[t] = ..'. -/
theorem Mid.got {v : Int} (h : Mid w B g L L' A n c w4) (h0 : St w B g L A n c wr) (hT : T < 8) (hv : ∀ q : Nat, code L' q = if q = T then v else code L q) (hQ : L.Q = []) (hQ' : L'.Q = []) (hg : LatM.Good L') (he : Eight L') :
    St w B g L' A n c (w4.setCell ⟨g, T, none⟩ (.int .i64 v)) := by
  have hk := kept_set w4 g T (.int .i64 v)
  refine ⟨h.l.kept hk (fun k _ e => .inr (.inl e)) h0.ne, (h.i.set T _).congr fun q _ => ?_, ?_, hg, he, h.k.then hk fun k h1 e => by have := h0.gl; omega, h0.bl, h0.gl, h0.ql, h0.ne⟩
  · rw [hv q]
    by_cases e : q = T
    · rw [if_pos e, if_pos e]
    · rw [if_neg e, if_neg e]
  · rw [hQ', ← hQ]
    exact h.q.kept hk fun k h1 e => (h0.ql k h1).2.2 e
/-- 'queue = append(queue, t)'. -/
theorem Mid.wait {A2 : Option Addr} {c2 : Nat} (h : Mid w B g L L' A n c w5) (h0 : St w B g L A n c wr) (hs : wr.heap.size ≤ w5.heap.size) (hv : ∀ q : Nat, code L' q = code L q) (hQ : L'.Q.map who = L.Q.map who ++ [(T : Int)]) (hg : LatM.Good L') (he : Eight L')
    (hq : Gs w6 A2 (n + 1) c2 (L.Q.map who ++ [(T : Int)])) (hk : Kept (blk A c) w5 w6) (hb : ∀ k, blk A2 c2 k → blk A c k ∨ w5.heap.size ≤ k) : St w B g L' A2 (n + 1) c2 w6 := by
  have hlt := h0.lt
  refine ⟨?_, (h.i.kept hk fun x => (h0.ql _ x).2.2 rfl).congr fun q _ => by rw [hv], by rw [hQ]; exact hq, hg, he, h.k.then hk fun k h1 h2 => by have := (h0.ql k h2).1; omega, h0.bl, h0.gl, fun k h1 => ?_, h0.ne⟩
  · have l1 : LAx (fun k => Mine B g A c k ∨ blk A2 c2 k) B w5 L' L'.W L'.R.length L'.Q.length := h.l.more fun k h1 h2 => by
      rcases h2 with h2 | h2
      · exact h2
      · rcases hb k h2 with h3 | h3
        · exact .inr (.inr h3)
        · omega
    have l2 := l1.kept hk (fun k _ x => .inl (.inr (.inr x))) fun x => (h0.ql _ x).2.1 rfl
    exact l2.more fun k _ x => by
      rcases x with x | x | x
      · exact .inl (.inl x)
      · exact .inl (.inr (.inl x))
      · exact .inr x
  · rcases hb k h1 with x | x
    · exact h0.ql k x
    · have := hlt.1
      have := hlt.2.1
      have := h0.k.size
      omega

/-! ### Free -/
theorem freed_zero {q : Nat} : freed L L' T [] q = if q = T then 0 else code L q := by unfold freed; rw [if_neg (by simp)]
theorem freed_step {i : List Int} {k y q : Nat} (hk : k < i.length) (hy : i.getD k 0 = (y : Int)) : freed L L' T (i.take (k + 1)) q = if q = y then (if L'.W = (y : Int) then 1 else 2) else freed L L' T (i.take k) q := by
  have e : i.getD k 0 = i[k] := by rw [List.getD_eq_getElem?_getD, List.getElem?_eq_getElem hk]; rfl
  have ht : i.take (k + 1) = i.take k ++ [(y : Int)] := by rw [List.take_succ_eq_append_getElem hk, ← e, hy]
  unfold freed
  rw [ht]
  by_cases h : q = y
  · subst h
    rw [if_pos (by simp), if_pos rfl]
  · rw [if_neg h]
    have : (q : Int) ≠ (y : Int) := by omega
    by_cases hm : (q : Int) ∈ i.take k
    · rw [if_pos hm, if_pos (by simp [hm])]
    · rw [if_neg hm, if_neg (by simp [hm, this])]
/-- Behind k of those that a Free has let in. -/
structure Fre (w : World) (B g : Nat) (L L' : La) (A : Option Addr) (n c T : Nat) (i : List Int) (k : Nat) (wr : World) : Prop where
  l : LAx (Mine B g A c) B wr L' L'.W L'.R.length L'.Q.length
  i : Row wr g 8 (fun q => .int .i64 (freed L L' T (i.take k) q))
  q : Gs wr A n c (L.Q.map who)
  k : Grow w wr
theorem Fre.grow {i : List Int} {k : Nat} (h : Fre w B g L L' A n c T i k wr) (hk : Grow wr wx) : Fre w B g L L' A n c T i k wx := ⟨h.l.grow hk, h.i.kept hk id, h.q.grow hk, h.k.trans hk⟩
theorem Mid.fre {i : List Int} (h : Mid w B g L L' A n c w4) (h0 : St w B g L A n c wr) : Fre w B g L L' A n c T i 0 (w4.setCell ⟨g, T, none⟩ (.int .i64 0)) := by
  have hk := kept_set w4 g T (.int .i64 0)
  refine ⟨h.l.kept hk (fun k _ e => .inr (.inl e)) h0.ne, (h.i.set T _).congr fun q _ => ?_, h.q.kept hk fun k h1 e => (h0.ql k h1).2.2 e, h.k.then hk fun k h1 e => by have := h0.gl; omega⟩
  rw [List.take_zero, freed_zero]
  by_cases e : q = T
  · rw [if_pos e, if_pos e]
  · rw [if_neg e, if_neg e]
theorem Fre.two {i : List Int} {k y : Nat} (h : Fre w B g L L' A n c T i k w4) (h0 : St w B g L A n c wr) (hk : k < i.length) (hy : i.getD k 0 = (y : Int)) (hW : L'.W ≠ (y : Int)) : Fre w B g L L' A n c T i (k + 1) (w4.setCell ⟨g, y, none⟩ (.int .i64 2)) := by
  have hkk := kept_set w4 g y (.int .i64 2)
  refine ⟨h.l.kept hkk (fun k _ e => .inr (.inl e)) h0.ne, (h.i.set y _).congr fun q _ => ?_, h.q.kept hkk fun k h1 e => (h0.ql k h1).2.2 e, h.k.then hkk fun k h1 e => by have := h0.gl; omega⟩
  rw [freed_step hk hy, if_neg hW]
  by_cases e : q = y
  · rw [if_pos e, if_pos e]
  · rw [if_neg e, if_neg e]
theorem Fre.one {i : List Int} {k y : Nat} (h : Fre w B g L L' A n c T i k w4) (h0 : St w B g L A n c wr) (hk : k < i.length) (hy : i.getD k 0 = (y : Int)) (hW : L'.W = (y : Int)) : Fre w B g L L' A n c T i (k + 1) ((w4.setCell ⟨g, y, none⟩ (.int .i64 2)).setCell ⟨g, y, none⟩ (.int .i64 1)) := by
  have hkk := (kept_set w4 g y (.int .i64 2)).trans (kept_set _ g y (.int .i64 1))
  refine ⟨h.l.kept hkk (fun k _ e => .inr (.inl e)) h0.ne, ((h.i.set y _).set y _).congr fun q _ => ?_, h.q.kept hkk fun k h1 e => (h0.ql k h1).2.2 e, h.k.then hkk fun k h1 e => by have := h0.gl; omega⟩
  rw [freed_step hk hy, if_pos hW]
  by_cases e : q = y
  · rw [if_pos e, if_pos e]
  · rw [if_neg e, if_neg e, if_neg e]
theorem Fre.st {i : List Int} {m : Nat} (h : Fre w B g L L' A n c T i i.length wx) (h0 : St w B g L A n c wr) (hm : m ≤ n) (hQ : L'.Q = L.Q.drop m) (hg : LatM.Good L') (he : Eight L') (hc : ∀ q : Nat, code L' q = freed L L' T i q) :
    St w B g L' (if c = m then A else A.map (·.add m)) (n - m) (c - m) wx := by
  refine ⟨h.l.more fun k _ x => ?_, h.i.congr fun q _ => by rw [hc, List.take_length], ?_, hg, he, h.k, h0.bl, h0.gl, fun k hk => h0.ql k (blk_drop hk), h0.ne⟩
  · rcases x with x | x | x
    · exact .inl x
    · exact .inr (.inl x)
    · exact .inr (.inr (blk_drop x))
  · have := h.q.drop hm
    rwa [hQ, List.map_drop]
end
end Go.Proofs.Ytpdmncdbimdfaaa.FairC
