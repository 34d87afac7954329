/-
  slices.Backward over a row of ints: what the loop over it is handed.
-/
import Derived.RangeFuncNested
import Derived.RangeFuncBound
import Derived.RangeFuncCalls
import Derived.RangeFuncLeaves
import Derived.RangeFuncBox
import Derived.Shelf.Abstract
import Derived.Shelf.RegionOpen
import Derived.WalkKit
import Derived.OwnWalkIn
import Derived.TacticsInMore
import Derived.LoopNIn
import Derived.LoopIn
import Derived.Test.YtcmhkknoffeebaaRows
import Derived.Test.YtcmhkknoffeebaaBlk
namespace Go.Proofs.Ytcmhkknoffeebaa.Back
open Go.RowKit Go.Shelf
open Go.Proofs.Ytcmhkknoffeebaa.Mem Go.Proofs.Ytcmhkknoffeebaa.Blk

attribute [local go_sem] Oper.semAt_some

/-- What has come when k rounds are over, of n in all: from the last one on. -/
def come {α : Type} (n : Nat) (g : Nat → α) (k : Nat) : List α := (List.range k).map fun j => g (n - 1 - j)
theorem come_succ {α : Type} (n : Nat) (g : Nat → α) (k : Nat) : come n g (k + 1) = come n g k ++ [g (n - 1 - k)] := by simp [come, List.range_succ]
theorem come_length {α : Type} (n : Nat) (g : Nat → α) (k : Nat) : (come n g k).length = k := by simp [come]
/-- A place of the row, and what the loop is handed of it. -/
abbrev Pl (len : Nat) : Type := { m : Nat // m ≤ len - 1 }
def plOf (len m : Nat) : Pl len := ⟨min m (len - 1), Nat.min_le_right _ _⟩
def encP (zs : List Int) {len : Nat} (x : Pl len) : Array Value := #[.int .i64 (x.1 : Int), .int .i64 (zs.getD x.1 0)]
theorem encP_at (zs : List Int) {len m : Nat} (h : m < len) : encP zs (plOf len m) = #[.int .i64 (m : Int), .int .i64 (zs.getD m 0)] := by
  unfold encP plOf
  dsimp only
  rw [Nat.min_eq_left (by omega)]

set_option maxRecDepth 100000 in
set_option maxHeartbeats 2000000 in
theorem back1_in {α : Type} (g : Nat → α) (encs : α → Array Value) (F : Fence) (n : Nat) (hf : F.fn 50) (hro : F.round = none) (hn : 1 ≤ n) (l Bs n₀ b off len cap : Nat) (zs : List Int) (hlen : len ≤ 1000) (hb : b < n₀) (hg : ∀ m, m < len → encs (g m) = #[.int .i64 (m : Int), .int .i64 (zs.getD m 0)]) (J Jx : List α → World → Prop)
    (hY : ∀ pre x W, J pre W → pre.length < len → YieldAt F (n - 1) Try.prog l (encs x) W fun e W' =>
      (e = .returned (.bool true) ∧ J (pre ++ [x]) W' ∧ Below n₀ W W') ∨ (e = .returned (.bool false) ∧ Jx (pre ++ [x]) W'))
    (W : World) (hBs : W.cell? ⟨Bs, 0, none⟩ = some (.slice (some ⟨b, off, none⟩) len cap)) (hBn : Bs < n₀) (hc : ∀ j, j < len → W.cell? ⟨b, off + j, none⟩ = some (.int .i64 (zs.getD j 0))) (h0 : J [] W) :
    CallsIn F n Try.prog 50 #[.func (.yield l) #[] #[], .pointer (some ⟨Bs, 0, none⟩)] W fun e W' => (∃ v, e = .returned v) ∧
      ((∃ ys, ys = come len g len ∧ J ys W') ∨ (∃ pre, (∃ k, k ≤ len ∧ pre = come len g k) ∧ Jx pre W')) := by
  have hlz : (len : Int) ≤ 1000 := by omega
  refine callsIn_of_wp Try.func50 rfl hf ?_ hro
  simp only [Try.ntmps50, List.size_toArray, List.length_cons, List.length_nil, Nat.reduceAdd, Nat.reduceSub, Array.replicate_succ, Array.replicate_zero, List.push_toArray, List.append_toArray, List.nil_append, List.cons_append]
  gi_wp2
  gi_loopw [3] (fun i wr => ∃ (m : Nat) (t : Int), i = .int .i64 t ∧ t = (m : Int) - 1 ∧ m ≤ len ∧ J (come len g (len - m)) wr ∧ Below n₀ W wr)
    (fun i _ => (intOf i + 1).toNat)
  case atStart => exact ⟨len, _, rfl, rfl, Nat.le_refl _, by rw [Nat.sub_self]; exact h0, Below.refl _ _⟩
  case round =>
    obtain ⟨m, t, rfl, ht, hm, hJs, hnx⟩ := hrel
    have hbx := (hnx.cell (p := ⟨Bs, 0, none⟩) hBn).trans hBs
    cases m with
    | zero =>
      have ht0 : t < 0 := by omega
      rw [Nat.sub_zero] at hJs
      clear ht
      gi_wp2
      go_end0
      exact ⟨⟨_, rfl⟩, .inl ⟨_, rfl, hJs⟩⟩
    | succ m =>
      obtain rfl : t = (m : Int) := by omega
      have hmz : (m : Int) < (len : Int) := by omega
      have hcx : wr.cell? ⟨b, off + m, none⟩ = some (.int .i64 (zs.getD m 0)) := (hnx.cell (p := ⟨b, off + m, none⟩) hb).trans (hc m (by omega))
      have hsu := come_succ len g (len - (m + 1))
      rw [show len - 1 - (len - (m + 1)) = m by omega, show len - (m + 1) + 1 = len - m by omega] at hsu
      obtain ⟨fn, tmps, assign, body, hy, hR⟩ := hY _ (g m) wr hJs (by rw [come_length]; omega)
      rw [hg m (by omega)] at hy
      rw [← hsu] at hR
      clear hc ht hJs hY hg
      generalize zs.getD m 0 = x at hcx hy
      gi_wp2
      refine hR.mono ?_
      rintro e W3 (⟨rfl, hJ3, hk3⟩ | ⟨rfl, hJx3⟩)
      · gi_wp2
        go_roundw
        case rel => exact ⟨m, _, rfl, by omega, by omega, hJ3, hnx.trans hk3⟩
        case measure => simp [intOf]
      · gi_wp2
        refine bodyPost_ret (results_none rfl _ _ _) rfl ?_
        exact ⟨⟨_, rfl⟩, .inr ⟨_, ⟨len - m, by omega, rfl⟩, hJx3⟩⟩

set_option maxRecDepth 100000 in
set_option maxHeartbeats 1000000 in
/-- .. of an empty row: no round. -/
theorem back1_nil_in (F : Fence) (n : Nat) (hf : F.fn 50) (hro : F.round = none) (l Bs cap : Nat) (A : Option Addr) {α : Type} (J : List α → World → Prop) (W : World) (hBs : W.cell? ⟨Bs, 0, none⟩ = some (.slice A 0 cap)) (h0 : J [] W) :
    CallsIn F n Try.prog 50 #[.func (.yield l) #[] #[], .pointer (some ⟨Bs, 0, none⟩)] W fun e W' => (∃ v, e = .returned v) ∧ J [] W' := by
  refine callsIn_of_wp Try.func50 rfl hf ?_ hro
  simp only [Try.ntmps50, List.size_toArray, List.length_cons, List.length_nil, Nat.reduceAdd, Nat.reduceSub, Array.replicate_succ, Array.replicate_zero, List.push_toArray, List.append_toArray, List.nil_append, List.cons_append]
  gi_wp2
  gi_loopw [3] (fun i wr => i = .int .i64 (-1) ∧ J [] wr) (fun _ _ => 0)
  case atStart => exact ⟨rfl, h0⟩
  case round =>
    obtain ⟨rfl, hJs⟩ := hrel
    gi_wp2
    go_end0
    exact ⟨⟨_, rfl⟩, hJs⟩

/-- slices.Backward: the slice value is boxed; the function value captures the box. -/
theorem back_in (A : Option Addr) (len cap : Nat) (w : World) :
    Calls Try.prog 39 #[.slice A len cap] w fun e w' => e = .returned (.func (.func 50) #[] #[.pointer (some ⟨w.heap.size, 0, none⟩)]) ∧ w' = w.alloc (.cells #[.slice A len cap] 40) := by
  go_enter Try.func39, Try.ntmps39
  go_wp2
  go_ret
  exact ⟨rfl, rfl⟩

/-- The value that it hands back, as a range over a function wants it. -/
theorem back_stops (F : Fence) (n : Nat) (hf : F.fn 50) (hro : F.round = none) (hn : 1 ≤ n) (Bs n₀ len cap : Nat) (A : Option Addr) (zs : List Int) (hlen : len ≤ 1000) (w : World) (hBs : Bs < n₀) (hn₀ : n₀ ≤ w.heap.size)
    (hc : w.cell? ⟨Bs, 0, none⟩ = some (.slice A len cap)) (hI : Sl w n₀ .i64 A len zs) :
    SeqStopsK F n Try.prog 50 #[.pointer (some ⟨Bs, 0, none⟩)] (encP zs (len := len)) (Below n₀) (fun ys => ys = come len (plOf len) len)
      (fun pre => ∃ k, k ≤ len ∧ pre = come len (plOf len) k) len w := fun l J Jx W hW _ _ hY h0 => by
  have hc' := (hW.cell (p := ⟨Bs, 0, none⟩) (Nat.lt_of_lt_of_le hBs hn₀)).trans hc
  by_cases h : len = 0
  · subst h
    exact (back1_nil_in F n hf hro l Bs cap A J W hc' h0).mono fun e W' ⟨he, hj⟩ => ⟨he, .inl ⟨_, rfl, hj⟩⟩
  · obtain ⟨b, off, rfl, hb, hcs⟩ := hI.at_ (by omega)
    exact back1_in (plOf len) (encP zs) F n hf hro hn l Bs n₀ b off len cap zs hlen hb (fun m hm => encP_at zs hm) J Jx hY W hc' hBs (fun j hj => (hW.cell (p := ⟨b, off + j, none⟩) (Nat.lt_of_lt_of_le hb hn₀)).trans (hcs j hj)) h0
#print axioms back_stops
end Go.Proofs.Ytcmhkknoffeebaa.Back
