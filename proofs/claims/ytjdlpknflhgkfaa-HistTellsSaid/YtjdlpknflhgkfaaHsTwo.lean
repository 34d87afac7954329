/-
  Histories of one event or two, written out: the order of them, what is told of them.
-/
import Derived.Test.YtjdlpknflhgkfaaHsChk
namespace Go.Proofs.Ytjdlpknflhgkfaa.HsT
open Go.ChangeShapes Go.WideShapes Go.ChangeAt Go.RowKit
open Go.Proofs.Ytjdlpknflhgkfaa.Mem Go.Proofs.Ytjdlpknflhgkfaa.Blk Go.Proofs.Ytjdlpknflhgkfaa.Cells Go.Proofs.Ytjdlpknflhgkfaa.Orow Go.Proofs.Ytjdlpknflhgkfaa.MdM Go.Proofs.Ytjdlpknflhgkfaa.MdC Go.Proofs.Ytjdlpknflhgkfaa.HsM Go.Proofs.Ytjdlpknflhgkfaa.HsE Go.Proofs.Ytjdlpknflhgkfaa.HsO Go.Proofs.Ytjdlpknflhgkfaa.HsK Go.Proofs.Ytjdlpknflhgkfaa.Stages

def f2 (x y : Ev) (i : Nat) : Ev := if i = 0 then x else y
def f1 (x : Ev) (_ : Nat) : Ev := x
section
variable {L : Nat → Ev} {N p r : Int} {n c : Nat} {w w' : World} {x y : Ev} {X : Nat → Prop} {A : Option Addr}
theorem ok_zero (h : 0 ≤ (L 0).c ∧ (L 0).c < N) (hb : 0 < (L 0).b) (ht : inT (L 0)) : okAt L N 0 := ⟨h, hb, fun k hk => by omega, ht, fun k hk => by omega⟩
theorem ok_one (h : 0 ≤ (L 1).c ∧ (L 1).c < N) (hb : 0 < (L 1).b) (hm : (L 0).b ≤ (L 1).b) (ht : inT (L 1)) (hc : (L 0).c = (L 1).c → 0 < (L 0).e ∧ (L 0).e < (L 1).b) : okAt L N 1 := by
  refine ⟨h, hb, fun k hk => ?_, ht, fun k hk e => ?_⟩
  · obtain rfl : k = 0 := by omega
    exact hm
  · obtain rfl : k = 0 := by omega
    exact hc e
theorem fst_two (h0 : okAt L N 0) (h1 : okAt L N 1) : Fst L N 2 0 := .inl ⟨rfl, fun i hi => by
  rcases (by omega : i = 0 ∨ i = 1) with rfl | rfl
  · exact h0
  · exact h1⟩
theorem fst_one (h0 : okAt L N 0) : Fst L N 1 0 := .inl ⟨rfl, fun i hi => by
  obtain rfl : i = 0 := by omega
  exact h0⟩
theorem fst_bad0 (hn : 0 < n) (h0 : ¬ okAt L N 0) : Fst L N n 1 := .inr ⟨0, hn, by simp, h0, fun k hk => by omega⟩
theorem fst_bad1 (hn : 1 < n) (h0 : okAt L N 0) (h1 : ¬ okAt L N 1) : Fst L N n 2 := .inr ⟨1, hn, by simp, h1, fun k hk => by
  obtain rfl : k = 0 := by omega
  exact h0⟩
theorem ord_nil (L : Nat → Ev) : Ord L 0 [] := ⟨fun i => Iff.intro (fun h => by cases h) (fun h => by omega), List.Pairwise.nil⟩
theorem ord_one (h : 0 < (L 0).s) : Ord L 1 [0] := by
  refine ⟨fun i => ⟨fun hi => ?_, fun hi => ?_⟩, List.pairwise_singleton _ _⟩
  · obtain rfl := List.mem_singleton.1 hi
    exact ⟨by omega, h⟩
  · obtain rfl : i = 0 := by omega
    exact List.mem_singleton.2 rfl
theorem ord_01 (h0 : 0 < (L 0).s) (h : (L 0).s ≤ (L 1).s) : Ord L 2 [0, 1] := by
  refine ⟨fun i => Iff.intro (fun hi => ?_) (fun hi => ?_), ?_⟩
  · simp only [List.mem_cons, List.not_mem_nil, or_false] at hi
    rcases hi with rfl | rfl
    · exact ⟨by omega, h0⟩
    · exact ⟨by omega, by omega⟩
  · simp only [List.mem_cons, List.not_mem_nil, or_false]
    omega
  · rw [List.pairwise_cons]
    refine ⟨fun j hj => ?_, List.pairwise_singleton _ _⟩
    obtain rfl := List.mem_singleton.1 hj
    unfold lt
    omega
theorem ord_10 (h0 : 0 < (L 1).s) (h : (L 1).s < (L 0).s) : Ord L 2 [1, 0] := by
  refine ⟨fun i => Iff.intro (fun hi => ?_) (fun hi => ?_), ?_⟩
  · simp only [List.mem_cons, List.not_mem_nil, or_false] at hi
    rcases hi with rfl | rfl
    · exact ⟨by omega, h0⟩
    · exact ⟨by omega, by omega⟩
  · simp only [List.mem_cons, List.not_mem_nil, or_false]
    omega
  · rw [List.pairwise_cons]
    refine ⟨fun j hj => ?_, List.pairwise_singleton _ _⟩
    obtain rfl := List.mem_singleton.1 hj
    unfold lt
    omega
theorem ev_in {w : World} {g q : Nat} {t : TypeId} {cs : List Value} (hb : Blk w g t cs) (hd : x.o.d = [] ∧ x.r.d = []) (hr : Rng x) (hc : ∀ j v, (evl x none 0 0 none 0 0)[j]? = some v → cs[q + j]? = some v) : EvAt w X g q x := by
  refine ⟨none, 0, 0, none, 0, 0, fun j v hj => ?_, ?_, ?_, ⟨Nat.le_refl _, Nat.zero_le _⟩, ?_, ?_, Nat.zero_le _, hr, fun h => by omega, fun h => by omega⟩
  · rw [hb.cell]
    exact hc j v hj
  · rw [hd.1]; exact Sl.nil _ _ _ _
  · rw [hd.1]; exact fun _ h => by cases h
  · rw [hd.2]; exact Sl.nil _ _ _ _
  · rw [hd.2]; exact fun _ h => by cases h
theorem evs_one (hd : x.o.d = [] ∧ x.r.d = []) (hr : Rng x) (w : World) : EvsAt (w.alloc (.cells (evl x none 0 0 none 0 0).toArray 29)) Any (some ⟨w.heap.size, 0, none⟩) 1 (f1 x) := fun _ =>
  ⟨w.heap.size, 0, rfl, fun i hi => by
    obtain rfl : i = 0 := by omega
    exact ev_in (Blk.new w _ _) hd hr fun j v hj => by rw [Nat.zero_mul, Nat.zero_add]; exact hj⟩
theorem evs_two (hx : x.o.d = [] ∧ x.r.d = []) (hrx : Rng x) (hy : y.o.d = [] ∧ y.r.d = []) (hry : Rng y) (w : World) : EvsAt (w.alloc (.cells (evl x none 0 0 none 0 0 ++ evl y none 0 0 none 0 0).toArray 29)) Any (some ⟨w.heap.size, 0, none⟩) 2 (f2 x y) := fun _ =>
  ⟨w.heap.size, 0, rfl, fun i hi => by
    rcases (by omega : i = 0 ∨ i = 1) with rfl | rfl
    · refine ev_in (x := x) (Blk.new w _ _) hx hrx fun j v hj => ?_
      have hj14 : j < 14 := (List.getElem?_eq_some_iff.1 hj).1
      rw [Nat.zero_mul, Nat.zero_add, List.getElem?_append_left (by exact hj14)]
      exact hj
    · refine ev_in (x := y) (Blk.new w _ _) hy hry fun j v hj => ?_
      rw [Nat.one_mul, Nat.zero_add, List.getElem?_append_right (by show 14 ≤ 14 + j; omega)]
      rw [show 14 + j - (evl x none 0 0 none 0 0).length = j by show 14 + j - 14 = j; omega]
      exact hj⟩
theorem t_check (h : EvsAt w X A n L) (hn : n ≤ 100000) (hr : Chk L n p N r) (c : Nat) : Calls Try.prog 11 #[.slice A n c, .int .i64 p, .int .i64 N] w fun e w' => e = .returned (.int .i64 r) ∧ Grow w w' :=
  (check_any h hn p N c).mono fun _ _ ⟨_, he, h1, hg⟩ => ⟨by rw [he, chk_unique h1 hr], hg⟩
theorem evs_nil (w : World) (L : Nat → Ev) : EvsAt w Any none 0 L := fun h => by omega
end
end Go.Proofs.Ytjdlpknflhgkfaa.HsT
