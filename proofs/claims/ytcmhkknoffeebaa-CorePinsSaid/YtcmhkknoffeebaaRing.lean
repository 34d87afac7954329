/-
  What the functions of package ring compute (chapter 8): how a ring lies in memory; New, Len, Drain, Touch, Forget.
-/
import Derived.Test.YtcmhkknoffeebaaRows
import Derived.Test.YtcmhkknoffeebaaRow
import Derived.Test.YtcmhkknoffeebaaChan
import Derived.Deep.Cut
import Derived.Deep.DeepCutAuto
import Derived.Deep.CutBlock
import Derived.WalkSpells
namespace Go.Proofs.Ytcmhkknoffeebaa.RingC
open Go.ChangeShapes Go.WideShapes Go.ChangeAt Go.RowKit Go.Conc
open Go.Proofs.Ytcmhkknoffeebaa.Mem Go.Proofs.Ytcmhkknoffeebaa.Blk Go.Proofs.Ytcmhkknoffeebaa.Chan Go.Proofs.Ytcmhkknoffeebaa.Stages

/-- Numbers as values. -/
abbrev vals (zs : List Int) : List Value := zs.map (Value.int .i64)

/-- The channel at block c: zs wait. -/
def Chan8 (w : World) (c : Nat) (zs : List Int) : Prop := ∃ s r, w.heap[c]? = some (.chan 8 (vals zs).toArray false s r false)

/-- The ring at block d, its channel C; all its blocks are from B on. -/
structure RingC (w : World) (B d : Nat) (C : Option Nat) (zs : List Int) : Prop where
  blk : Blk w d 66 [.chan C]
  low : B ≤ d
  ch : (C = none ∧ zs = []) ∨ ∃ c, C = some c ∧ B ≤ c ∧ Chan8 w c zs
  len : zs.length ≤ 8
def RingAt (w : World) (B d : Nat) (zs : List Int) : Prop := ∃ C, RingC w B d C zs

/-- What a ring's calls may write. -/
def RF (B d : Nat) (w : World) (k : Nat) : Prop := k = d ∨ (B ≤ k ∧ IsChan w k)

section
variable {w w' w2 : World} {B d c : Nat} {C : Option Nat} {zs : List Int} {F : Nat → Prop}
theorem Chan8.is (h : Chan8 w c zs) : IsChan w c := by
  obtain ⟨s, r, h⟩ := h
  exact ⟨_, _, _, _, _, _, h⟩
theorem Chan8.lt (h : Chan8 w c zs) : c < w.heap.size := by
  obtain ⟨s, r, h⟩ := h
  exact (Array.getElem?_eq_some_iff.1 h).1
theorem Chan8.of_block (h : Chan8 w c zs) (e : w'.heap[c]? = w.heap[c]?) : Chan8 w' c zs := by
  obtain ⟨s, r, h⟩ := h
  exact ⟨s, r, e.trans h⟩
theorem Chan8.ne (h : Chan8 w c zs) {k : Nat} {t : TypeId} {cs : List Value} (hb : Blk w k t cs) : k ≠ c := fun e => notChan_cells hb (e ▸ h.is)
theorem Chan8.set (h : Chan8 w c zs) (ys : List Int) (s r : Nat) : Chan8 (w.setChan c 8 (vals ys).toArray false s r false) c ys := ⟨s, r, heap_setChan _ _ _ _ _ _ _ _ h.lt⟩
theorem RF.trans (h : Kept (RF B d w) w w') (k : Kept (RF B d w') w' w2) : Kept (RF B d w) w w2 :=
  h.then k fun i hi hf => by
    rcases hf with e | ⟨h1, h2⟩
    · exact .inl e
    · by_cases hn : RF B d w i
      · exact hn
      · obtain ⟨cap, buf, cl, s, r, tm, e⟩ := h2
        exact .inr ⟨h1, cap, buf, cl, s, r, tm, (h.block i hi hn).symm.trans e⟩
theorem RF.grow (h : Kept (RF B d w) w w') (k : Grow w' w2) : Kept (RF B d w) w w2 := h.trans (Grow.kept k)
theorem not_RF_cell {p : Addr} {v : Value} (h : w.cell? p = some v) (hp : p.block ≠ d) : ¬ RF B d w p.block := fun x => by
  rcases x with e | ⟨_, x⟩
  · exact hp e
  · exact notChan_cell h x
theorem RF.cell (h : Kept (RF B d w) w w') {p : Addr} {v : Value} (hc : w.cell? p = some v) (hp : p.block ≠ d) : w'.cell? p = some v := h.cellN hc (not_RF_cell hc hp)
theorem RF.sl (hk : Kept (RF B d w) w w') {B' n : Nat} {k : IntKind} {A : Option Addr} {ys : List Int} (h : Sl w B' k A n ys) (hA : ∀ x, A = some x → x.block ≠ d) : Sl w' B' k A n ys :=
  ⟨h.1, fun hn => by
    obtain ⟨b, off, rfl, hb, hc⟩ := h.2 hn
    exact ⟨b, off, rfl, hb, fun j hj => RF.cell hk (hc j hj) (hA ⟨b, off, none⟩ rfl)⟩⟩
theorem own_of_block {base n : Nat} {e : TypeId} {v : Value} {xs : List Value} (h : w.ownsRow base e 1 v n xs) (hk : ∀ g, v.ownBlock = some g → ¬ IsChan w g → w'.heap[g]? = w.heap[g]?) : w'.ownsRow base e 1 v n xs := by
  refine ⟨h.1, ?_⟩
  rcases h.2 with h0 | ⟨g, cap, cur, rfl, hg, hb, h1⟩
  · exact .inl h0
  · exact .inr ⟨g, cap, cur, rfl, hg, (hk g rfl (notChan_cells hb)).trans hb, h1⟩
theorem RF.own (hk : Kept (RF B d w) w w') {base n : Nat} {e : TypeId} {v : Value} {xs : List Value} (h : w.ownsRow base e 1 v n xs) (hv : v.ownBlock ≠ some d) : w'.ownsRow base e 1 v n xs :=
  own_of_block h fun g hg hn => hk.block g (h.lt g hg).2 fun x => by
    rcases x with e | ⟨_, x⟩
    · exact hv (e ▸ hg)
    · exact hn x
theorem RingC.kept (h : RingC w B d C zs) (hk : Kept F w w') (hd : ¬ F d) (hF : ∀ k, F k → ¬ IsChan w k) : RingC w' B d C zs :=
  ⟨h.blk.kept hk hd, h.low, h.ch.imp id fun ⟨c, e, hb, hc⟩ => ⟨c, e, hb, hc.of_block (hk.block c hc.lt fun x => hF c x hc.is)⟩, h.len⟩
theorem RingC.grow (h : RingC w B d C zs) (hk : Grow w w') : RingC w' B d C zs := h.kept hk id fun _ x => x.elim
theorem RingAt.kept (h : RingAt w B d zs) (hk : Kept F w w') (hd : ¬ F d) (hF : ∀ k, F k → ¬ IsChan w k) : RingAt w' B d zs := h.imp fun _ h => h.kept hk hd hF
theorem RingAt.grow (h : RingAt w B d zs) (hk : Grow w w') : RingAt w' B d zs := h.imp fun _ h => h.grow hk
theorem RingAt.lt (h : RingAt w B d zs) : d < w.heap.size := by
  obtain ⟨C, h⟩ := h
  exact h.blk.lt

/-! ### New, Len -/
theorem gnew_any : Calls Try.prog 19 #[] w fun e w' => e = .returned (.pointer (some ⟨w.heap.size, 0, none⟩)) ∧ (∀ B, B ≤ w.heap.size → RingAt w' B w.heap.size []) ∧ Grow w w' := by
  go_enter Try.func19, Try.ntmps19
  go_wp2
  go_ret
  exact ⟨rfl, fun B hB => ⟨none, Blk.new w _ [.chan none], hB, .inl ⟨rfl, rfl⟩, Nat.zero_le _⟩, (Kept.refl _ _).alloc _⟩
theorem glen_nil : Calls Try.prog 36 #[.pointer none] w fun e w' => e = .returned (.int .i64 0) ∧ w = w' := by
  go_enter Try.func36, Try.ntmps36
  go_wp2
  go_ret
  exact ⟨rfl, rfl⟩
theorem run_len_chan (c : Nat) (ty : TypeId) (h : Chan8 w c zs) : (Builtin.len_ #[64] ty #[.chan (some c)]).run Try.prog w = .ok (.int .i64 (zs.length : Int)) w := by
  obtain ⟨s, r, h⟩ := h
  simp [Builtin.len_, run_underlying Try.underlying64, getObj, Sem.run, h]
  rfl
theorem run_len_none (ty : TypeId) (w : World) : (Builtin.len_ #[64] ty #[.chan none]).run Try.prog w = .ok (.int .i64 0) w := by
  simp [Builtin.len_, run_underlying Try.underlying64]
  rfl
theorem glen_c (h : RingC w B d C zs) : Calls Try.prog 36 #[.pointer (some ⟨d, 0, none⟩)] w fun e w' => e = .returned (.int .i64 (zs.length : Int)) ∧ w = w' := by
  have c0 := h.blk.cell 0
  simp only [List.getElem?_cons_zero] at c0
  rcases h.ch with ⟨rfl, rfl⟩ | ⟨c, rfl, _, hc⟩
  · have HL := fun ty => run_len_none ty w
    clear h
    go_enter Try.func36, Try.ntmps36
    go_wp2
    go_ret
    exact ⟨rfl, rfl⟩
  · have HL := fun ty => run_len_chan c ty hc
    have hl := h.len
    clear h hc
    go_enter Try.func36, Try.ntmps36
    go_wp2
    go_ret
    exact ⟨rfl, rfl⟩
end
end Go.Proofs.Ytcmhkknoffeebaa.RingC
