/-
  For every input the call of lavabolaw5.TableFinds returns true and leaves its arguments as they were; no condition.
-/
import Derived.Test.YtnoofichbadkoaaTold5
import Derived.Test.YtnoofichbadkoaaTabSteps
import Derived.Test.YtnoofichbadkoaaRows
import Derived.WalkKit
import Derived.ProofKit
import Derived.OpenShut
import Derived.ShutString
import Derived.ChangeOld
import Derived.Below
namespace Go.Proofs.Ytnoofichbadkoaa.tableFinds
open Go.ChangeShapes Go.WideShapes Go.ChangeAt Go.RowKit
open Go.ChangeMaps (open_string shut_string)
open Go.Proofs.Ytnoofichbadkoaa.Mem Go.Proofs.Ytnoofichbadkoaa.Blk Go.Proofs.Ytnoofichbadkoaa.Cells Go.Proofs.Ytnoofichbadkoaa.TabM Go.Proofs.Ytnoofichbadkoaa.TabC Go.Proofs.Ytnoofichbadkoaa.TabD Go.Proofs.Ytnoofichbadkoaa.TabO Go.Proofs.Ytnoofichbadkoaa.Told5 Go.Proofs.Ytnoofichbadkoaa.Ops3 Go.Proofs.Ytnoofichbadkoaa.Stages
set_option linter.unusedVariables false

theorem own : ownKnob Try.prog.godebug = none := by kernel_rfl
theorem laidOut : laidOutB Try.prog = true := by kernel_rfl

/-- WHAT THE WALK IS TOLD OF A SLICE OF INTEGERS THAT CAME IN: it is nil; or it leads to a row of 'cap' cells, the numbers 'zs' (the first 'len' are its elements, the rest its spare room), each fitting its kind. -/
def IsRow (k : IntKind) (w : World) (a : Option Addr) (len cap : Nat) (zs : List Int) : Prop :=
  (a = none ∧ len = 0 ∧ cap = 0 ∧ zs = []) ∨
  ∃ x, a = some x ∧ len ≤ cap ∧ cap ≤ maxLen ∧ zs.length = cap ∧ (∀ i, i < zs.length → w.cell? (x.add i) = some (.int k (zs.getD i 0))) ∧ ∀ n ∈ zs, (Lit.int k n).wf = true

theorem row_bools (w : World) (t : TypeId) : Row (w.alloc (.cells #[Value.bool false, Value.bool false, Value.bool false, Value.bool false, Value.bool false, Value.bool false, Value.bool false, Value.bool false, Value.bool false, Value.bool false, Value.bool false, Value.bool false, Value.bool false, Value.bool false, Value.bool false, Value.bool false, Value.bool false, Value.bool false, Value.bool false, Value.bool false, Value.bool false, Value.bool false, Value.bool false, Value.bool false, Value.bool false, Value.bool false, Value.bool false, Value.bool false, Value.bool false, Value.bool false] t)) w.heap.size 30 (fun _ => .bool false) := by
  refine Row.of_blk (Blk.new w t (List.replicate 30 (.bool false))) rfl fun i hi => ?_
  rw [List.getElem?_replicate, if_pos hi]
theorem row_ints (w : World) (t : TypeId) : Row (w.alloc (.cells #[Value.int .i64 0, Value.int .i64 0, Value.int .i64 0, Value.int .i64 0, Value.int .i64 0, Value.int .i64 0, Value.int .i64 0, Value.int .i64 0, Value.int .i64 0, Value.int .i64 0, Value.int .i64 0, Value.int .i64 0, Value.int .i64 0, Value.int .i64 0, Value.int .i64 0, Value.int .i64 0, Value.int .i64 0, Value.int .i64 0, Value.int .i64 0, Value.int .i64 0, Value.int .i64 0, Value.int .i64 0, Value.int .i64 0, Value.int .i64 0, Value.int .i64 0, Value.int .i64 0, Value.int .i64 0, Value.int .i64 0, Value.int .i64 0, Value.int .i64 0] t)) w.heap.size 30 (fun _ => .int .i64 0) := by
  refine Row.of_blk (Blk.new w t (List.replicate 30 (.int .i64 0))) rfl fun i hi => ?_
  rw [List.getElem?_replicate, if_pos hi]
/-- The blocks that the law's steps write. -/
def Mine (d D gI gV k : Nat) : Prop := Own d D k ∨ k = gI ∨ k = gV
/-- The table, and who is in as the law keeps it (the block gI), with what value (gV). -/
structure St (w2 : World) (d D gI gV : Nat) (T : Tb) (I : Nat → Bool) (W : Nat → Int) (wx : World) : Prop where
  tab : TabAt wx d D T
  n : T.n = 30
  abs : Abs T I W
  cnt : T.cnt = TabM.cnt I 30
  ri : Row wx gI 30 (fun q => .bool (I q))
  rv : Row wx gV 30 (fun q => .int .i64 (W q))
  k : Kept (Mine d D gI gV) w2 wx
  oi : ¬ Own d D gI
  ov : ¬ Own d D gV
  ne : gI ≠ gV
section
variable {w2 wx wy : World} {d D gI gV k : Nat} {T U : Tb} {I : Nat → Bool} {W : Nat → Int}
theorem St.kept (h : St w2 d D gI gV T I W wx) (hk : Grow wx wy) : St w2 d D gI gV T I W wy :=
  ⟨TabAt.grow h.tab hk, h.n, h.abs, h.cnt, h.ri.kept hk id, h.rv.kept hk id, h.k.trans (Grow.kept hk), h.oi, h.ov, h.ne⟩
/-- A call of the table that leaves it as it was. -/
theorem St.same (h : St w2 d D gI gV T I W wx) (ht : TabAt wy d D T) (hk : Kept (Own d D) wx wy) : St w2 d D gI gV T I W wy :=
  ⟨ht, h.n, h.abs, h.cnt, h.ri.kept hk h.oi, h.rv.kept hk h.ov, h.k.trans (hk.mono fun _ _ x => .inl x), h.oi, h.ov, h.ne⟩
theorem St.cells (h : St w2 d D gI gV T I W wx) (hk : Kept (Own d D) wx wy) (hk30 : k < 30) : wy.cell? ⟨gI, k, none⟩ = some (.bool (I k)) ∧ wy.cell? ⟨gV, k, none⟩ = some (.int .i64 (W k)) ∧ wy.frozen? ⟨gI, k, none⟩ = false ∧ wy.frozen? ⟨gV, k, none⟩ = false :=
  ⟨(h.ri.kept hk h.oi).cell hk30, (h.rv.kept hk h.ov).cell hk30, (h.ri.kept hk h.oi).frozen k, (h.rv.kept hk h.ov).frozen k⟩
theorem fun_upd_bool (I : Nat → Bool) (k : Nat) (b : Bool) : (fun q => Value.bool (upd I k b q)) = fun q => if q = k then .bool b else .bool (I q) := by
  funext q
  unfold upd
  split <;> rfl
theorem fun_upd_int (W : Nat → Int) (k : Nat) (v : Int) : (fun q => Value.int .i64 (upd W k v q)) = fun q => if q = k then .int .i64 v else .int .i64 (W q) := by
  funext q
  unfold upd
  split <;> rfl
theorem St.put (h : St w2 d D gI gV T I W wx) (hk30 : k < 30) (hi : I k = false) (v : Int) (ht : TabAt wy d D (T.put (k : Int) v)) (hk : Kept (Own d D) wx wy) :
    St w2 d D gI gV (T.put (k : Int) v) (upd I k true) (upd W k v) ((wy.setCell ⟨gI, k, none⟩ (.bool true)).setCell ⟨gV, k, none⟩ (.int .i64 v)) := by
  have hc : T.cnt < T.n := by rw [h.cnt, h.n]; exact cnt_lt hk30 hi
  obtain ⟨_, h1, h2⟩ := h.abs.put_new hi hc v
  have hs := (h.k.trans (hk.mono fun _ _ x => .inl x) : Kept (Mine d D gI gV) w2 wy)
  have k1 := kept_set wy gI k (.bool true)
  have k2 := kept_set (wy.setCell ⟨gI, k, none⟩ (.bool true)) gV k (.int .i64 v)
  refine ⟨TabAt.kept (TabAt.kept ht k1 fun q e x => h.oi (e ▸ x)) k2 fun q e x => h.ov (e ▸ x), (put_n _).trans h.n, h1, ?_, ?_, ?_, (hs.trans (k1.mono fun _ _ e => .inr (.inl e))).trans (k2.mono fun _ _ e => .inr (.inr e)), h.oi, h.ov, h.ne⟩
  · rw [h2, h.cnt, cnt_on hk30 hi]
  · rw [fun_upd_bool]
    exact ((h.ri.kept hk h.oi).set k (.bool true)).other h.ne _
  · rw [fun_upd_int]
    exact ((h.rv.kept hk h.ov).other h.ne.symm _).set k (.int .i64 v)
theorem St.out (h : St w2 d D gI gV T I W wx) (hk30 : k < 30) (hi : I k = true) (ht : TabAt wy d D (T.out (k : Int))) (hk : Kept (Own d D) wx wy) :
    St w2 d D gI gV (T.out (k : Int)) (upd I k false) W (wy.setCell ⟨gI, k, none⟩ (.bool false)) := by
  obtain ⟨_, h1, h2, _⟩ := h.abs.out_some hi
  have hs := (h.k.trans (hk.mono fun _ _ x => .inl x) : Kept (Mine d D gI gV) w2 wy)
  have k1 := kept_set wy gI k (.bool false)
  refine ⟨TabAt.kept ht k1 fun q e x => h.oi (e ▸ x), out_n.trans h.n, h1, ?_, ?_, ?_, hs.trans (k1.mono fun _ _ e => .inr (.inl e)), h.oi, h.ov, h.ne⟩
  · have := cnt_off hk30 hi
    have := h.cnt
    omega
  · rw [fun_upd_bool]
    exact (h.ri.kept hk h.oi).set k (.bool false)
  · exact (h.rv.kept hk h.ov).other h.ne.symm _
end
def FMid (w2 : World) (d D gI gV : Nat) (n : Value) (wx : World) : Prop := ∃ T I W, n = .int .i64 (T.cnt : Int) ∧ St w2 d D gI gV T I W wx
def FLoop (w2 : World) (d D gI gV M g : Nat) (n i : Value) (wx : World) : Prop := ∃ j : Nat, j + g = M ∧ i = .int .i64 (j : Int) ∧ FMid w2 d D gI gV n wx

/-! ### STEP 1: THE WALK: the Go text returns true, AND WRITES NOTHING THAT WAS THERE: 'Below w.heap.size w w'' (Derived/Below.lean: '.refl', '.alloc', '.drew', '.setCell' at a new block, '.trans'). Open each 'IsRow' by 'rcases' AHEAD of 'go_enter'; part every test ahead of the walk. -/
set_option maxHeartbeats 8000000 in
set_option maxRecDepth 100000 in
theorem walk (a0 : Option Addr) (len0 cap0 : Nat) (w : World) (w0 : OpsAt w a0 len0 cap0) :
    Calls Try.prog 6 #[.slice a0 len0 cap0] w fun e w' => e = .returned (.bool true) ∧ Below w.heap.size w w' := by
  obtain ⟨hlc, hcm, hops⟩ := w0
  unfold maxLen at hcm
  have HOPS := Lib.hid hops
  have CN := Lib.hid fun (wx : World) => new_good (w := wx) 30 (by omega) (by omega)
  simp only [Int.cast_ofNat_Int] at CN
  obtain ⟨M, hM⟩ : ∃ M : Nat, M = min len0 100 := ⟨_, rfl⟩
  have HM := Lib.hid hM
  clear hops hM
  go_enter Try.func6, Try.ntmps6
  go_upto_block 0 with (go_at_call 9; (with_reducible refine (CN.out _).mono ?_); rintro e w1 ⟨d, D, rfl, hl, hd1, hd2, hg⟩; have H0 := Lib.hid hl; have HD := Lib.hid (And.intro hd1 hd2); have G0 := Lib.hid hg; clear hl hd1 hd2 hg)
  have hga : Grow w1 (w1.alloc (.cells #[Value.bool false, Value.bool false, Value.bool false, Value.bool false, Value.bool false, Value.bool false, Value.bool false, Value.bool false, Value.bool false, Value.bool false, Value.bool false, Value.bool false, Value.bool false, Value.bool false, Value.bool false, Value.bool false, Value.bool false, Value.bool false, Value.bool false, Value.bool false, Value.bool false, Value.bool false, Value.bool false, Value.bool false, Value.bool false, Value.bool false, Value.bool false, Value.bool false, Value.bool false, Value.bool false] 43)) := (Kept.refl _ _).alloc _
  have hgb : Grow w1 ((w1.alloc (.cells #[Value.bool false, Value.bool false, Value.bool false, Value.bool false, Value.bool false, Value.bool false, Value.bool false, Value.bool false, Value.bool false, Value.bool false, Value.bool false, Value.bool false, Value.bool false, Value.bool false, Value.bool false, Value.bool false, Value.bool false, Value.bool false, Value.bool false, Value.bool false, Value.bool false, Value.bool false, Value.bool false, Value.bool false, Value.bool false, Value.bool false, Value.bool false, Value.bool false, Value.bool false, Value.bool false] 43)).alloc (.cells #[Value.int .i64 0, Value.int .i64 0, Value.int .i64 0, Value.int .i64 0, Value.int .i64 0, Value.int .i64 0, Value.int .i64 0, Value.int .i64 0, Value.int .i64 0, Value.int .i64 0, Value.int .i64 0, Value.int .i64 0, Value.int .i64 0, Value.int .i64 0, Value.int .i64 0, Value.int .i64 0, Value.int .i64 0, Value.int .i64 0, Value.int .i64 0, Value.int .i64 0, Value.int .i64 0, Value.int .i64 0, Value.int .i64 0, Value.int .i64 0, Value.int .i64 0, Value.int .i64 0, Value.int .i64 0, Value.int .i64 0, Value.int .i64 0, Value.int .i64 0] 44)) := hga.alloc _
  have hsz : (w1.alloc (.cells #[Value.bool false, Value.bool false, Value.bool false, Value.bool false, Value.bool false, Value.bool false, Value.bool false, Value.bool false, Value.bool false, Value.bool false, Value.bool false, Value.bool false, Value.bool false, Value.bool false, Value.bool false, Value.bool false, Value.bool false, Value.bool false, Value.bool false, Value.bool false, Value.bool false, Value.bool false, Value.bool false, Value.bool false, Value.bool false, Value.bool false, Value.bool false, Value.bool false, Value.bool false, Value.bool false] 43)).heap.size = w1.heap.size + 1 := by simp
  have hri := row_bools w1 43
  have hrv := row_ints (w1.alloc (.cells #[Value.bool false, Value.bool false, Value.bool false, Value.bool false, Value.bool false, Value.bool false, Value.bool false, Value.bool false, Value.bool false, Value.bool false, Value.bool false, Value.bool false, Value.bool false, Value.bool false, Value.bool false, Value.bool false, Value.bool false, Value.bool false, Value.bool false, Value.bool false, Value.bool false, Value.bool false, Value.bool false, Value.bool false, Value.bool false, Value.bool false, Value.bool false, Value.bool false, Value.bool false, Value.bool false] 43)) 44
  rw [hsz] at hrv
  have HRI : Hid (Row ((w1.alloc (.cells #[Value.bool false, Value.bool false, Value.bool false, Value.bool false, Value.bool false, Value.bool false, Value.bool false, Value.bool false, Value.bool false, Value.bool false, Value.bool false, Value.bool false, Value.bool false, Value.bool false, Value.bool false, Value.bool false, Value.bool false, Value.bool false, Value.bool false, Value.bool false, Value.bool false, Value.bool false, Value.bool false, Value.bool false, Value.bool false, Value.bool false, Value.bool false, Value.bool false, Value.bool false, Value.bool false] 43)).alloc (.cells #[Value.int .i64 0, Value.int .i64 0, Value.int .i64 0, Value.int .i64 0, Value.int .i64 0, Value.int .i64 0, Value.int .i64 0, Value.int .i64 0, Value.int .i64 0, Value.int .i64 0, Value.int .i64 0, Value.int .i64 0, Value.int .i64 0, Value.int .i64 0, Value.int .i64 0, Value.int .i64 0, Value.int .i64 0, Value.int .i64 0, Value.int .i64 0, Value.int .i64 0, Value.int .i64 0, Value.int .i64 0, Value.int .i64 0, Value.int .i64 0, Value.int .i64 0, Value.int .i64 0, Value.int .i64 0, Value.int .i64 0, Value.int .i64 0, Value.int .i64 0] 44)) w1.heap.size 30 (fun _ => .bool false)) := hri.kept (F := fun _ => False) ((Kept.refl _ _).alloc _) id
  have HST : Hid (St ((w1.alloc (.cells #[Value.bool false, Value.bool false, Value.bool false, Value.bool false, Value.bool false, Value.bool false, Value.bool false, Value.bool false, Value.bool false, Value.bool false, Value.bool false, Value.bool false, Value.bool false, Value.bool false, Value.bool false, Value.bool false, Value.bool false, Value.bool false, Value.bool false, Value.bool false, Value.bool false, Value.bool false, Value.bool false, Value.bool false, Value.bool false, Value.bool false, Value.bool false, Value.bool false, Value.bool false, Value.bool false] 43)).alloc (.cells #[Value.int .i64 0, Value.int .i64 0, Value.int .i64 0, Value.int .i64 0, Value.int .i64 0, Value.int .i64 0, Value.int .i64 0, Value.int .i64 0, Value.int .i64 0, Value.int .i64 0, Value.int .i64 0, Value.int .i64 0, Value.int .i64 0, Value.int .i64 0, Value.int .i64 0, Value.int .i64 0, Value.int .i64 0, Value.int .i64 0, Value.int .i64 0, Value.int .i64 0, Value.int .i64 0, Value.int .i64 0, Value.int .i64 0, Value.int .i64 0, Value.int .i64 0, Value.int .i64 0, Value.int .i64 0, Value.int .i64 0, Value.int .i64 0, Value.int .i64 0] 44)) d D w1.heap.size (w1.heap.size + 1) (fresh 30) (fun _ => false) (fun _ => 0) ((w1.alloc (.cells #[Value.bool false, Value.bool false, Value.bool false, Value.bool false, Value.bool false, Value.bool false, Value.bool false, Value.bool false, Value.bool false, Value.bool false, Value.bool false, Value.bool false, Value.bool false, Value.bool false, Value.bool false, Value.bool false, Value.bool false, Value.bool false, Value.bool false, Value.bool false, Value.bool false, Value.bool false, Value.bool false, Value.bool false, Value.bool false, Value.bool false, Value.bool false, Value.bool false, Value.bool false, Value.bool false] 43)).alloc (.cells #[Value.int .i64 0, Value.int .i64 0, Value.int .i64 0, Value.int .i64 0, Value.int .i64 0, Value.int .i64 0, Value.int .i64 0, Value.int .i64 0, Value.int .i64 0, Value.int .i64 0, Value.int .i64 0, Value.int .i64 0, Value.int .i64 0, Value.int .i64 0, Value.int .i64 0, Value.int .i64 0, Value.int .i64 0, Value.int .i64 0, Value.int .i64 0, Value.int .i64 0, Value.int .i64 0, Value.int .i64 0, Value.int .i64 0, Value.int .i64 0, Value.int .i64 0, Value.int .i64 0, Value.int .i64 0, Value.int .i64 0, Value.int .i64 0, Value.int .i64 0] 44))) := by
    have hlt := Raw.lt H0.out
    exact ⟨TabAt.grow H0.out hgb, rfl, abs_fresh (by omega) _, by rw [cnt_fresh, cnt_none fun _ _ => rfl], HRI.out, hrv, Kept.refl _ _, fun h => by rcases h with h | h <;> omega, fun h => by rcases h with h | h <;> omega, by omega⟩
  have HGG : Hid (Grow w ((w1.alloc (.cells #[Value.bool false, Value.bool false, Value.bool false, Value.bool false, Value.bool false, Value.bool false, Value.bool false, Value.bool false, Value.bool false, Value.bool false, Value.bool false, Value.bool false, Value.bool false, Value.bool false, Value.bool false, Value.bool false, Value.bool false, Value.bool false, Value.bool false, Value.bool false, Value.bool false, Value.bool false, Value.bool false, Value.bool false, Value.bool false, Value.bool false, Value.bool false, Value.bool false, Value.bool false, Value.bool false] 43)).alloc (.cells #[Value.int .i64 0, Value.int .i64 0, Value.int .i64 0, Value.int .i64 0, Value.int .i64 0, Value.int .i64 0, Value.int .i64 0, Value.int .i64 0, Value.int .i64 0, Value.int .i64 0, Value.int .i64 0, Value.int .i64 0, Value.int .i64 0, Value.int .i64 0, Value.int .i64 0, Value.int .i64 0, Value.int .i64 0, Value.int .i64 0, Value.int .i64 0, Value.int .i64 0, Value.int .i64 0, Value.int .i64 0, Value.int .i64 0, Value.int .i64 0, Value.int .i64 0, Value.int .i64 0, Value.int .i64 0, Value.int .i64 0, Value.int .i64 0, Value.int .i64 0] 44))) := G0.out.trans hgb
  have HOLDW : Hid (∀ k, k < w.heap.size → ¬ Mine d D w1.heap.size (w1.heap.size + 1) k) := fun k hk h => by
    have h1 := HD.out.1
    have h2 := HD.out.2
    have h3 := G0.out.size
    rcases h with (h | h) | h | h <;> omega
  clear hga hgb hsz hri hrv HRI H0 HD G0
  generalize (w1.alloc (.cells #[Value.bool false, Value.bool false, Value.bool false, Value.bool false, Value.bool false, Value.bool false, Value.bool false, Value.bool false, Value.bool false, Value.bool false, Value.bool false, Value.bool false, Value.bool false, Value.bool false, Value.bool false, Value.bool false, Value.bool false, Value.bool false, Value.bool false, Value.bool false, Value.bool false, Value.bool false, Value.bool false, Value.bool false, Value.bool false, Value.bool false, Value.bool false, Value.bool false, Value.bool false, Value.bool false] 43)).alloc (.cells #[Value.int .i64 0, Value.int .i64 0, Value.int .i64 0, Value.int .i64 0, Value.int .i64 0, Value.int .i64 0, Value.int .i64 0, Value.int .i64 0, Value.int .i64 0, Value.int .i64 0, Value.int .i64 0, Value.int .i64 0, Value.int .i64 0, Value.int .i64 0, Value.int .i64 0, Value.int .i64 0, Value.int .i64 0, Value.int .i64 0, Value.int .i64 0, Value.int .i64 0, Value.int .i64 0, Value.int .i64 0, Value.int .i64 0, Value.int .i64 0, Value.int .i64 0, Value.int .i64 0, Value.int .i64 0, Value.int .i64 0, Value.int .i64 0, Value.int .i64 0] 44) = w2 at HST HGG ⊢
  generalize hgv : w1.heap.size + 1 = gV at HST HOLDW ⊢
  clear hgv
  generalize w1.heap.size = gI at HST HOLDW ⊢
  go_wp2_with (fail)
  go_loopg [6, 7] M (FLoop w2 d D gI gV M)
  case atStart => exact ⟨0, by omega, rfl, fresh 30, _, _, by rw [cnt_fresh]; rfl, HST.out⟩
  case round =>
    clear HST
    obtain ⟨j, hg, rfl, T, I, W, rfl, hst⟩ := hrel
    have HG := Lib.hid hg
    have HS := Lib.hid hst
    clear hg hst
    by_cases hj : j < M
    · have hj1 : j < len0 := by have := HM.out; omega
      have hj2 : (j : Int) < 100 := by have := HM.out; omega
      have hj1z : (j : Int) < (len0 : Int) := by omega
      obtain ⟨ab, ao, rfl, hab, hall⟩ := HOPS.out (by omega)
      obtain ⟨x, hx⟩ := hall j hj1
      have hkx : ∀ o v, w.cell? ⟨ab, o, none⟩ = some v → wr.cell? ⟨ab, o, none⟩ = some v := fun o v h => HS.out.k.cellN (HGG.out.cellN h id) (HOLDW.out ab hab)
      have ck := hkx _ _ hx.k
      have cp := hkx _ _ hx.p
      have cv := hkx _ _ hx.v
      have kB := hx.kB
      have pB := hx.pB
      have vB := hx.vB
      obtain ⟨K, hp, hp30⟩ := tmod_nat x.p 30 (by omega)
      simp only [Int.cast_ofNat_Int] at hp
      have hpz : (K : Int) < 30 := by omega
      obtain ⟨V, hv, hv1000⟩ := tmod_nat x.v 1000 (by omega)
      simp only [Int.cast_ofNat_Int] at hv
      have HJ := Lib.hid hj
      have hvz : (V : Int) < 1000 := by omega
      clear hall hx hkx hj hj1 hv1000
      go_upto_if 48 with (fail)
      clear ck cp cv hp hv kB pB vB hj1z
      go_cut [6] (fun n wx => FMid w2 d D gI gV n wx)
      case first =>
        have hcb : T.cnt ≤ 30 := by have := HS.out.cnt; have := cnt_le I 30; omega
        have hcz : ((T.cnt : Nat) : Int) ≤ 30 := by omega
        have HP30 := Lib.hid hp30
        clear hcb hp30
        cases hI : I K with
        | true =>
          have CP : Hid (Calls Try.prog 10 #[.pointer (some ⟨d, 0, none⟩), .int .i64 (K : Int), .int .i64 (V : Int)] wr (TabPost d D wr 13 T)) := t_put _ _ HS.out.tab (HS.out.abs.put_in hI (V : Int)).1 (HS.out.abs.put_in hI (V : Int)).2
          have CO : Hid (Calls Try.prog 17 #[.pointer (some ⟨d, 0, none⟩), .int .i64 (K : Int)] wr (TabPost d D wr (W K) (T.out (K : Int)))) := t_out _ HS.out.tab (HS.out.abs.out_some hI).1 rfl
          have HN : Hid (((T.out (K : Int)).cnt : Int) = (T.cnt : Int) - 1) := by have := (HS.out.abs.out_some hI).2.2.1; show _ = _; omega
          have hww : (W K != W K) = false := by simp
          have hcp : 1 ≤ ((T.cnt : Nat) : Int) := by have := (HS.out.abs.out_some hI).2.2.1; omega
          have HCE : Hid (∀ wy, Kept (Own d D) wr wy → wy.cell? ⟨gI, K, none⟩ = some (.bool true) ∧ wy.cell? ⟨gV, K, none⟩ = some (.int .i64 (W K)) ∧ wy.frozen? ⟨gI, K, none⟩ = false ∧ wy.frozen? ⟨gV, K, none⟩ = false) := fun wy hk => by
            have := HS.out.cells hk HP30.out
            rwa [hI] at this
          have HI := Lib.hid hI
          clear hI
          go_wp2_with (first
            | (go_at_call 10; (with_reducible refine CP.out.mono ?_); rintro e w4 ⟨rfl, hl, hk⟩; have HX := Lib.hid (HS.out.same hl hk); obtain ⟨x1, x2, x3, x4⟩ := HCE.out _ hk; clear hl hk)
            | (go_at_call 17; (with_reducible refine CO.out.mono ?_); rintro e w4 ⟨rfl, hl, hk⟩; have HX := Lib.hid (HS.out.out HP30.out HI.out hl hk); obtain ⟨x1, x2, x3, x4⟩ := HCE.out _ hk; clear hl hk))
          all_goals
            go_meet
            first
              | exact ⟨_, _, _, rfl, HX.out⟩
              | exact ⟨_, _, _, by rw [HN.out], HX.out⟩
        | false =>
          have hc : T.cnt < T.n := by have := HS.out.cnt; have := HS.out.n; have := cnt_lt HP30.out hI; omega
          have CP : Hid (Calls Try.prog 10 #[.pointer (some ⟨d, 0, none⟩), .int .i64 (K : Int), .int .i64 (V : Int)] wr (TabPost d D wr 0 (T.put (K : Int) (V : Int)))) := t_put _ _ HS.out.tab (HS.out.abs.put_new hI hc (V : Int)).1 rfl
          have CO : Hid (Calls Try.prog 17 #[.pointer (some ⟨d, 0, none⟩), .int .i64 (K : Int)] wr (TabPost d D wr (-1) T)) := t_out _ HS.out.tab (HS.out.abs.out_none hI).1 (HS.out.abs.out_none hI).2
          have HN : Hid (((T.put (K : Int) (V : Int)).cnt : Int) = (T.cnt : Int) + 1) := by have := (HS.out.abs.put_new hI hc (V : Int)).2.2; show _ = _; omega
          have HCE : Hid (∀ wy, Kept (Own d D) wr wy → wy.cell? ⟨gI, K, none⟩ = some (.bool false) ∧ wy.cell? ⟨gV, K, none⟩ = some (.int .i64 (W K)) ∧ wy.frozen? ⟨gI, K, none⟩ = false ∧ wy.frozen? ⟨gV, K, none⟩ = false) := fun wy hk => by
            have := HS.out.cells hk HP30.out
            rwa [hI] at this
          have HI := Lib.hid hI
          have hne1 := HS.out.ne
          have hne2 := HS.out.ne.symm
          clear hI hc
          go_wp2_with (first
            | (go_at_call 10; (with_reducible refine CP.out.mono ?_); rintro e w4 ⟨rfl, hl, hk⟩; have HX := Lib.hid (HS.out.put HP30.out HI.out _ hl hk); obtain ⟨x1, x2, x3, x4⟩ := HCE.out _ hk; clear hl hk)
            | (go_at_call 17; (with_reducible refine CO.out.mono ?_); rintro e w4 ⟨rfl, hl, hk⟩; have HX := Lib.hid (HS.out.same hl hk); obtain ⟨x1, x2, x3, x4⟩ := HCE.out _ hk; clear hl hk))
          all_goals
            go_meet
            first
              | exact ⟨_, _, _, rfl, HX.out⟩
              | exact ⟨_, _, _, by rw [HN.out], HX.out⟩
      case rest =>
        obtain ⟨T', I', W', rfl, hst⟩ := hcut
        have HS2 := Lib.hid hst
        clear hst HS hp30 hvz hpz
        go_wp2_with (fail)
        go_loopg [12] 30 (fun gx i wx => ∃ q : Nat, q + gx = 30 ∧ i = .int .i64 (q : Int) ∧ Grow wc wx)
        case atStart => exact ⟨0, by omega, rfl, Kept.refl _ _⟩
        case round =>
          obtain ⟨q, hgq, rfl, hgr⟩ := hrel
          have HGQ := Lib.hid hgq
          have HGR := Lib.hid hgr
          clear hgq hgr
          have HSX := Lib.hid (HS2.out.kept HGR.out)
          by_cases hq : q < 30
          · have hqz : (q : Int) < 30 := by omega
            have c1 := HSX.out.ri.cell (i := q) hq
            have c2 := HSX.out.rv.cell (i := q) hq
            have hgt := HSX.out.abs.get q
            have HQ := Lib.hid hq
            clear hq
            cases hI : I' q with
            | true =>
              rw [hI] at c1 hgt
              have CG : Hid (∀ wx, Grow wr wx → Calls Try.prog 13 #[.pointer (some ⟨d, 0, none⟩), .int .i64 (q : Int)] wx fun e w' => e = .returned (.int .i64 (W' q)) ∧ wx = w') := fun wx h => t_get _ (TabAt.grow HSX.out.tab h) hgt
              clear hI hgt
              generalize W' q = vv at *
              have hvv : (vv != vv) = false := by simp
              have u0 := up_cell (F := fun _ => False) (w := wr.drew) c1 id
              have u1 := up_cell (F := fun _ => False) (w := wr.drew) c2 id
              go_upto_region 28 with (fail)
              refine wp_region_stages Grow (kept_refl _) (kept_trans _) [([0, 1, 2, 3, 4, 5, 7, 8, 9], 6), ([10, 11, 12, 13, 14, 15, 16, 17, 18, 19], 20)] [21, 22, 23] (by kernel_rfl) (by kernel_rfl) ?_
              simp only [selSt, sel, List.map_cons, List.map_nil, List.getD_cons_succ, List.getD_cons_zero]
              refine st_cons fun K1 hK1 => ?_
              repeat (go_big_quiet_step (fail))
              refine wpQuiet_nil ?_
              go_wp2_with (go_at_call 13; (with_reducible refine (CG.out _ (Kept.drew' _)).mono ?_); rintro e w' ⟨rfl, rfl⟩)
              refine norm_up (hK1 _ _ (kept_refl _ _) (st_cons fun K2 hK2 => ?_))
              clear hK1 K1
              repeat (go_big_quiet_step (fail))
              refine wpQuiet_nil ?_
              clear u0 u1
              go_wp2
              refine norm_up (hK2 _ _ (kept_refl _ _) (st_nil fun K3 hK3 => ?_))
              clear hK2 K2
              repeat (go_big_quiet_step (fail))
              refine wpQuiet_nil (hK3 _ ?_)
              clear hK3 K3
              go_wp2
              go_roundg (30 - (q + 1))
              case measure => have := HGQ.out; have := HQ.out; omega
              case rel => exact ⟨q + 1, by have := HQ.out; omega, by go_num, HGR.out.drew⟩
            | false =>
              rw [hI] at c1 hgt
              have CG : Hid (∀ wx, Grow wr wx → Calls Try.prog 13 #[.pointer (some ⟨d, 0, none⟩), .int .i64 (q : Int)] wx fun e w' => e = .returned (.int .i64 (-1)) ∧ wx = w') := fun wx h => t_get _ (TabAt.grow HSX.out.tab h) hgt
              clear hI hgt
              have u0 := up_cell (F := fun _ => False) (w := wr.drew) c1 id
              go_upto_region 28 with (fail)
              refine wp_region_stages Grow (kept_refl _) (kept_trans _) [([0, 1, 2, 3, 4, 5, 7, 8, 9], 6), ([10, 11, 12, 13, 14, 15, 16, 17, 18, 19], 20)] [21, 22, 23] (by kernel_rfl) (by kernel_rfl) ?_
              simp only [selSt, sel, List.map_cons, List.map_nil, List.getD_cons_succ, List.getD_cons_zero]
              refine st_cons fun K1 hK1 => ?_
              repeat (go_big_quiet_step (fail))
              refine wpQuiet_nil ?_
              go_wp2
              refine norm_up (hK1 _ _ (kept_refl _ _) (st_cons fun K2 hK2 => ?_))
              clear hK1 K1
              repeat (go_big_quiet_step (fail))
              refine wpQuiet_nil ?_
              clear u0
              go_wp2_with (go_at_call 13; (with_reducible refine (CG.out _ (Kept.drew' _)).mono ?_); rintro e w' ⟨rfl, rfl⟩)
              refine norm_up (hK2 _ _ (kept_refl _ _) (st_nil fun K3 hK3 => ?_))
              clear hK2 K2
              repeat (go_big_quiet_step (fail))
              refine wpQuiet_nil (hK3 _ ?_)
              clear hK3 K3
              go_wp2
              go_roundg (30 - (q + 1))
              case measure => have := HGQ.out; have := HQ.out; omega
              case rel => exact ⟨q + 1, by have := HQ.out; omega, by go_num, HGR.out.drew⟩
          · have hqz : (30 : Int) ≤ (q : Int) := by omega
            clear hq
            go_wp2_with (fail)
            go_roundg (M - (j + 1))
            case measure => have := HG.out; have := HJ.out; omega
            case rel => exact ⟨j + 1, by have := HG.out; have := HJ.out; omega, by go_num, T', I', W', rfl, HSX.out⟩
    · have hjM : j = M := by have := HG.out; omega
      have HM' : Hid (j = min len0 100) := by have := HM.out; show _ = _; omega
      have HFIN : Hid (Below w.heap.size w wr) := Kept.below ((Grow.kept HGG.out).trans HS.out.k) (fun k h => Nat.le_of_not_lt fun hk => HOLDW.out k hk h) (Nat.le_refl _)
      have CL : Hid (∀ wx, Grow wr wx → Calls Try.prog 14 #[.pointer (some ⟨d, 0, none⟩)] wx fun e w' => e = .returned (.int .i64 (T.cnt : Int)) ∧ wx = w') := fun wx h => t_len (TabAt.grow HS.out.tab h) rfl
      clear hjM hj HOPS HS
      generalize T.cnt = L at CL
      by_cases h100 : len0 ≤ 100
      · have hlz : (len0 : Int) ≤ 100 := by omega
        obtain rfl : len0 = j := by have := HM'.out; omega
        go_wp2_with (first
          | (go_at_call 12; (with_reducible refine (told_any _).mono ?_); rintro e w5 ⟨rfl, hge⟩; have HGE := Lib.hid hge; clear hge)
          | (go_at_call 14; (with_reducible refine (CL.out _ HGE.out).mono ?_); rintro e w' ⟨rfl, rfl⟩))
        go_ret
        exact ⟨by simp, HFIN.out.trans (HGE.out.below.mono HFIN.out.size)⟩
      · obtain rfl : j = 100 := by have := HM'.out; omega
        simp only [Int.cast_ofNat_Int]
        have hlz : (100 : Int) < (len0 : Int) := by omega
        go_wp2_with (first
          | (go_at_call 12; (with_reducible refine (told_any _).mono ?_); rintro e w5 ⟨rfl, hge⟩; have HGE := Lib.hid hge; clear hge)
          | (go_at_call 14; (with_reducible refine (CL.out _ HGE.out).mono ?_); rintro e w' ⟨rfl, rfl⟩))
        go_ret
        exact ⟨by simp, HFIN.out.trans (HGE.out.below.mono HFIN.out.size)⟩

/-! ### THE ROW's STEP: WRITTEN OUT: LEAVE IT -/
set_option maxRecDepth 100000 in
theorem lifted (os : Os) (started : os.Started) (H : Type) (enc : TypeId × Value → H) :
    ReturnsInHanded {} Try.checked os 6 .any (Rows.tableFindsSpec.pre6 enc Try.prog Try.f6 Rows.tableFindsRow.domain false) (Rows.tableFindsSpec.post enc Try.prog Try.f6 false true false false) := by
  refine returnsInHanded_of_change (C := Try.checked) own started (by kernel_rfl) Try.func6
    (ChangeSpec.witness6 (enc := enc) (C := Try.checked) false ⟨#[], #[.slice none 0 0], []⟩ 8 (by kernel_rfl) (by kernel_rfl) (by kernel_rfl) (by kernel_rfl)) ?_
  intro W base args ds gs before hval0 hW hcnd _
  have hval : ∀ (j : Nat) t v, Try.f6.params[j]? = some t → args[j]? = some v → Value.okWide Try.prog W .any base t v := hval0
  have hW' := hW
  obtain ⟨p, q, hA0, hV, rfl, hfz, hnd⟩ := hW
  have hA : DataW.TrodAll enc Try.prog W 0 (fun _ => true) true Try.f6.params.toList args.toList ds p := hA0
  rw [Try.params6] at hA hval
  obtain ⟨v0, vs0, d0, ds0, p0, q0, hargs, rfl, rfl, h0, r0⟩ := trodAll_cons hA
  obtain ⟨rfl, rfl, rfl⟩ := trodAll_nil r0
  obtain rfl : args = #[v0] := by cases args; simp_all
  obtain ⟨rfl, rfl⟩ := trodVars_none hV
  obtain ⟨a0, len0, cap0, rfl⟩ := okWide_slice Try.underlying34 (hval 0 34 v0 rfl rfl)
  have k0 := h0
  have lt0 : ∀ x ∈ p0, x.block < W.heap.size := by obtain ⟨m, hm⟩ := k0; exact DataW.trod_lt m _ _ _ hm
  have w0 : OpsAt W a0 len0 cap0 := by obtain ⟨fuel, hf⟩ := h0; exact ops_open hf
  clear hA0 hval0
  refine (walk a0 len0 cap0 W w0).mono fun e W' ⟨he, bel⟩ => ?_
  subst he
  exact ⟨_, rfl, _, _, _, [], _, [], hW', trodAll_mk1 (shut_bool Try.underlying4 _), (trodAll_cons_mk (Below.trod laidOut (by kernel_rfl) (of_decide_eq_true (by kernel_rfl)) k0 bel lt0) trodAll_mk0), rfl, bel.frame _, fun h => by cases h⟩

theorem over : Rows.tableFindsRow.holds Try.pinned (OpenSpec.ofChange Rows.tableFindsSpec) :=
  OpenClaim.holds_of_wide 6 Try.f6 rfl rfl rfl rfl rfl rfl rfl ⟨rfl, rfl, rfl, rfl, rfl⟩ rfl rfl rfl rfl rfl (by kernel_rfl) Try.func6 (by kernel_rfl)
    (of_decide_eq_true (by kernel_rfl)) (by unfold Func.isWrapper; first | (rw [if_pos (by decide +kernel)]; kernel_rfl) | (rw [if_neg (by decide +kernel)]; exact ⟨rfl, rfl⟩))
    (fun os started H enc _ => lifted os started H enc)

/-- ████ THE STATEMENT ████ -/
theorem proved : Rows.TableFindsSaid := over
#print axioms proved
end Go.Proofs.Ytnoofichbadkoaa.tableFinds
