/-
  What the functions of package mail compute (chapter 9): how a box lies in memory; New, Len, at, put.
-/
import Derived.Test.YtmealcbcphfpdaaMailMath
import Derived.RegionTactic
import Derived.Deep.Cut
import Derived.Deep.DeepCutAuto
import Derived.Deep.CutBlock
import Derived.Deep.CutRange
import Derived.WalkSpells
namespace Go.Proofs.Ytmealcbcphfpdaa.MailC
open Go.ChangeShapes Go.WideShapes Go.ChangeAt Go.RowKit Go.Conc
open Go.Proofs.Ytmealcbcphfpdaa.Mem Go.Proofs.Ytmealcbcphfpdaa.Blk Go.Proofs.Ytmealcbcphfpdaa.Cells Go.Proofs.Ytmealcbcphfpdaa.Chan Go.Proofs.Ytmealcbcphfpdaa.Prs Go.Proofs.Ytmealcbcphfpdaa.MailM Go.Proofs.Ytmealcbcphfpdaa.Stages

/-- The cells of a box: its channels, how each one's word stands. -/
def bcell (C0 C1 : Option Nat) (S : Int → Int) (j : Nat) : Value := if j = 0 then .chan C0 else if j = 1 then .chan C1 else .int .i64 (S ((j - 2 : Nat) : Int))
/-- The box at block d, its channels C0, C1; all its blocks are from B on. -/
structure BoxC (w : World) (B d : Nat) (C0 C1 : Option Nat) (b : Bx) : Prop where
  row : Row w d 66 (bcell C0 C1 b.st)
  low : B ≤ d
  ch : (C0 = none ∧ C1 = none ∧ b = ⟨[], [], []⟩) ∨ ∃ c0 c1, C0 = some c0 ∧ C1 = some c1 ∧ c0 ≠ c1 ∧ B ≤ c0 ∧ B ≤ c1 ∧ ChP w c0 8 b.W ∧ ChP w c1 64 b.A
  good : Fit b
def BoxAt (w : World) (B d : Nat) (b : Bx) : Prop := ∃ C0 C1, BoxC w B d C0 C1 b

/-- What a box's calls may write. -/
def BF (B d : Nat) (w : World) (k : Nat) : Prop := k = d ∨ (B ≤ k ∧ IsChan w k)

section
variable {w w' w2 : World} {B d c : Nat} {C0 C1 : Option Nat} {b : Bx} {F : Nat → Prop}
theorem BF.trans (h : Kept (BF B d w) w w') (k : Kept (BF B d w') w' w2) : Kept (BF B d w) w w2 :=
  h.then k fun i hi hf => by
    rcases hf with e | ⟨h1, h2⟩
    · exact .inl e
    · by_cases hn : BF B d w i
      · exact hn
      · obtain ⟨cap, buf, cl, s, r, tm, e⟩ := h2
        exact .inr ⟨h1, cap, buf, cl, s, r, tm, (h.block i hi hn).symm.trans e⟩
theorem BF.grow (h : Kept (BF B d w) w w') (k : Grow w' w2) : Kept (BF B d w) w w2 := h.trans (Grow.kept k)
theorem BF.chan (h : Kept (· = c) w w') (hc : IsChan w c) (hB : B ≤ c) : Kept (BF B d w) w w' := h.mono fun k _ e => by
  subst e
  exact .inr ⟨hB, hc⟩
theorem BF.own (h : Kept (· = d) w w') : Kept (BF B d w) w w' := h.mono fun k _ e => .inl e
theorem not_BF_cell {p : Addr} {v : Value} (h : w.cell? p = some v) (hp : p.block ≠ d) : ¬ BF B d w p.block := fun x => by
  rcases x with e | ⟨_, x⟩
  · exact hp e
  · exact notChan_cell h x
theorem BF.cell (h : Kept (BF B d w) w w') {p : Addr} {v : Value} (hc : w.cell? p = some v) (hp : p.block ≠ d) : w'.cell? p = some v := h.cellN hc (not_BF_cell hc hp)
theorem BF.pl (hk : Kept (BF B d w) w w') {B' n : Nat} {A : Option Addr} {ys : List P2} (h : Pl w B' A n ys) (hA : ∀ x, A = some x → x.block ≠ d) : Pl w' B' A n ys :=
  h.keptC hk fun x hx hn e => by
    rcases e with e | ⟨_, e⟩
    · exact hA x hx e
    · exact hn e
theorem BoxC.lt (h : BoxC w B d C0 C1 b) : d < w.heap.size := h.row.lt
theorem BoxAt.lt (h : BoxAt w B d b) : d < w.heap.size := by
  obtain ⟨_, _, h⟩ := h
  exact h.lt
theorem BoxAt.good (h : BoxAt w B d b) : Fit b := by
  obtain ⟨_, _, h⟩ := h
  exact h.good
theorem row_notChan {n : Nat} {f : Nat → Value} (h : Row w d n f) : ¬ IsChan w d := by
  obtain ⟨cur, t, hb, _⟩ := h
  exact notChan_cells hb
theorem BoxC.kept (h : BoxC w B d C0 C1 b) (hk : Kept F w w') (hd : ¬ F d) (hF : ∀ k, F k → ¬ IsChan w k) : BoxC w' B d C0 C1 b :=
  ⟨h.row.kept hk hd, h.low, h.ch.imp id fun ⟨c0, c1, e0, e1, ne, h0, h1, a0, a1⟩ => ⟨c0, c1, e0, e1, ne, h0, h1, a0.kept hk fun x => hF c0 x a0.is, a1.kept hk fun x => hF c1 x a1.is⟩, h.good⟩
theorem BoxC.grow (h : BoxC w B d C0 C1 b) (hk : Grow w w') : BoxC w' B d C0 C1 b := h.kept hk id fun _ x => x.elim
theorem BoxAt.kept (h : BoxAt w B d b) (hk : Kept F w w') (hd : ¬ F d) (hF : ∀ k, F k → ¬ IsChan w k) : BoxAt w' B d b := by
  obtain ⟨C0, C1, h⟩ := h
  exact ⟨C0, C1, h.kept hk hd hF⟩
theorem BoxAt.grow (h : BoxAt w B d b) (hk : Grow w w') : BoxAt w' B d b := h.kept hk id fun _ x => x.elim
theorem Row.stand {S : Int → Int} (h : Row w d 66 (bcell C0 C1 S)) {k : Int} (h0 : 0 ≤ k) (h1 : k < 64) : w.cell? ⟨d, 2 + k.toNat, none⟩ = some (.int .i64 (S k)) := by
  rw [h.cell (by omega)]
  unfold bcell
  rw [if_neg (by omega), if_neg (by omega), show ((2 + k.toNat - 2 : Nat) : Int) = k by omega]
theorem Row.c0 {S : Int → Int} (h : Row w d 66 (bcell C0 C1 S)) : w.cell? ⟨d, 0, none⟩ = some (.chan C0) := h.cell (i := 0) (by omega)
theorem Row.c1 {S : Int → Int} (h : Row w d 66 (bcell C0 C1 S)) : w.cell? ⟨d, 1, none⟩ = some (.chan C1) := h.cell (i := 1) (by omega)
/-- How one's word stands is written anew. -/
theorem Row.stands {S S' : Int → Int} (h : Row w d 66 (bcell C0 C1 S)) {k : Int} (h0 : 0 ≤ k) (h1 : k < 64) (x : Int) (hs : ∀ i, 0 ≤ i → i < 64 → S' i = if i = k then x else S i) : Row (w.setCell ⟨d, 2 + k.toNat, none⟩ (.int .i64 x)) d 66 (bcell C0 C1 S') :=
  (h.set _ _).congr fun i hi => by
    by_cases e : i = 2 + k.toNat
    · rw [if_pos e]
      unfold bcell
      rw [if_neg (by omega), if_neg (by omega), show ((i - 2 : Nat) : Int) = k by omega, hs _ h0 h1, if_pos rfl]
    · rw [if_neg e]
      unfold bcell
      by_cases e0 : i = 0
      · rw [if_pos e0, if_pos e0]
      · rw [if_neg e0, if_neg e0]
        by_cases e1 : i = 1
        · rw [if_pos e1, if_pos e1]
        · rw [if_neg e1, if_neg e1, hs _ (by omega) (by omega), if_neg (by omega)]

/-! ### New -/
theorem st_new (k : Int) : (Bx.mk [] [] []).st k = 0 := rfl
def zeros : Array Value := (Value.chan none :: Value.chan none :: List.replicate 64 (.int .i64 0)).toArray
theorem zero_box : ∃ zs : Array Value, zs = zeros ∧ ∀ w, (zeroValue 47).run Try.prog w = .ok (.agg zs) w := by
  have h : (Try.prog.info? 47).map (fun i => i.zero) = some (some (.agg zeros)) := by kernel_rfl
  refine ⟨_, rfl, fun w => ?_⟩
  cases hi : Try.prog.info? 47 with
  | none => rw [hi] at h; cases h
  | some i =>
    rw [hi] at h
    simp only [Option.map_some, Option.some.injEq] at h
    simp [zeroValue, typeInfo, hi, h]
theorem new_any : Calls Try.prog 6 #[] w fun e w' => e = .returned (.pointer (some ⟨w.heap.size, 0, none⟩)) ∧ (∀ B, B ≤ w.heap.size → BoxAt w' B w.heap.size ⟨[], [], []⟩) ∧ Grow w w' := by
  obtain ⟨zs, hzs, hz⟩ := zero_box
  have HZ := Lib.hid hzs
  have hzn : ¬ zs = #[] := fun e => by rw [hzs] at e; cases e
  clear hzs
  go_enter Try.func6, Try.ntmps6
  go_wp2
  go_ret
  refine ⟨rfl, fun B hB => ⟨none, none, ?_, hB, .inl ⟨rfl, rfl, rfl⟩, good_new⟩, (Kept.refl _ _).alloc _⟩
  rw [HZ.out]
  refine Row.of_blk (Blk.new w _ (.chan none :: .chan none :: List.replicate 64 (.int .i64 0))) (by simp) fun i hi => ?_
  unfold bcell
  by_cases e0 : i = 0
  · subst e0; rfl
  · by_cases e1 : i = 1
    · subst e1; rfl
    · obtain ⟨j, rfl⟩ : ∃ j, i = j + 2 := ⟨i - 2, by omega⟩
      rw [if_neg e0, if_neg e1, st_new, List.getElem?_cons_succ, List.getElem?_cons_succ, List.getElem?_replicate, if_pos (by omega)]

/-! ### at -/
theorem at_bad (d : Nat) (k : Int) (hk : isT k = false) : Calls Try.prog 18 #[.pointer (some ⟨d, 0, none⟩), .int .i64 k] w fun e w' => e = .returned (.int .i64 4) ∧ w = w' := by
  simp only [isT, Bool.and_eq_false_iff, decide_eq_false_iff_not] at hk
  by_cases h0 : k < 0
  · clear hk
    go_enter Try.func18, Try.ntmps18
    go_wp2
    go_ret
    exact ⟨rfl, rfl⟩
  · have h1 : 0 ≤ k := by omega
    have h2 : 64 ≤ k := by omega
    clear hk h0
    go_enter Try.func18, Try.ntmps18
    go_wp2
    go_ret
    exact ⟨rfl, rfl⟩
theorem at_row (h : Row w d 66 (bcell C0 C1 b.st)) (k : Int) (h0 : 0 ≤ k) (h1 : k < 64) : Calls Try.prog 18 #[.pointer (some ⟨d, 0, none⟩), .int .i64 k] w fun e w' => e = .returned (.int .i64 (b.st k)) ∧ w = w' := by
  have c0 := Row.stand h h0 h1
  clear h
  go_enter Try.func18, Try.ntmps18
  go_wp2
  go_ret
  exact ⟨rfl, rfl⟩
theorem at_any (h : BoxC w B d C0 C1 b) (k : Int) : Calls Try.prog 18 #[.pointer (some ⟨d, 0, none⟩), .int .i64 k] w fun e w' => e = .returned (.int .i64 (if isT k then b.st k else 4)) ∧ w = w' := by
  cases hk : isT k with
  | false => simpa using at_bad d k hk
  | true =>
    obtain ⟨h0, h1⟩ := isT_iff.1 hk
    simpa using at_row h.row k h0 h1

/-! ### put -/
section
variable {cap : Nat} {zs : List P2}
theorem put_room (h : ChP w c cap zs) (hl : zs.length < cap) (x y : Int) : Calls Try.prog 19 #[.chan (some c), .agg #[.int .i64 x, .int .i64 y]] w fun e w' => e = .returned (.bool true) ∧ ChP w' c cap (zs ++ [(x, y)]) ∧ Kept (· = c) w w' := by
  have H := Lib.hid h
  have HL := Lib.hid hl
  clear h hl
  go_enter Try.func19, Try.ntmps19
  have HA := Lib.hid ((Kept.refl (fun _ => False) w).alloc (.cells #[.int .i64 x, .int .i64 y] 42))
  go_upto_region 3 with (fail)
  generalize w.alloc (.cells #[.int .i64 x, .int .i64 y] 42) = w1 at HA ⊢
  have hc := ChP.kept H.out HA.out id
  obtain ⟨s, r, h1⟩ := hc
  refine wp_inReg ?_
  simp only [List.size_toArray, List.length_cons, List.length_nil, Nat.reduceAdd, Nat.zero_add, List.range, List.range.loop]
  refine InReg.sent (c := c) (v := pv (x, y)) (z := .agg #[.int .i64 0, .int .i64 0]) (w' := w1) rfl rfl (by simp [go_sem, execOp, scase, Act.eval, pv]) h1 (by rw [pvs_size]; exact HL.out) ?_
  rw [pvs_push]
  have HC : Hid (ChP (w1.setChan c cap (pvs (zs ++ [(x, y)])).toArray false (s + 1) r false) c cap (zs ++ [(x, y)])) := ⟨s + 1, r, heap_setChan _ _ _ _ _ _ _ _ (Array.getElem?_eq_some_iff.1 h1).1⟩
  have HK : Hid (Kept (· = c) w (w1.setChan c cap (pvs (zs ++ [(x, y)])).toArray false (s + 1) r false)) := (Grow.kept HA.out).trans (kept_chan ..) 
  generalize w1.setChan c cap (pvs (zs ++ [(x, y)])).toArray false (s + 1) r false = w2 at HC HK ⊢
  clear h1
  refine InReg.op rfl rfl fun K hK => ?_
  go_simp
  refine hK _ _ ?_
  clear hK K
  refine InReg.op rfl rfl fun K hK => ?_
  go_simp
  refine hK _ _ (InReg.nil ?_)
  clear hK K
  go_wp2
  go_ret
  exact ⟨rfl, HC.out, HK.out⟩
theorem put_full (h : ChP w c cap zs) (hl : zs.length = cap) (x y : Int) : Calls Try.prog 19 #[.chan (some c), .agg #[.int .i64 x, .int .i64 y]] w fun e w' => e = .returned (.bool false) ∧ Grow w w' := by
  have H := Lib.hid h
  have HL := Lib.hid hl
  clear h hl
  go_enter Try.func19, Try.ntmps19
  have HA := Lib.hid ((Kept.refl (fun _ => False) w).alloc (.cells #[.int .i64 x, .int .i64 y] 42))
  go_upto_region 3 with (fail)
  generalize w.alloc (.cells #[.int .i64 x, .int .i64 y] 42) = w1 at HA ⊢
  have hc := ChP.kept H.out HA.out id
  obtain ⟨s, r, h1⟩ := hc
  refine wp_inReg ?_
  simp only [List.size_toArray, List.length_cons, List.length_nil, Nat.reduceAdd, Nat.zero_add, List.range, List.range.loop]
  refine InReg.full (c := c) (v := pv (x, y)) (z := .agg #[.int .i64 0, .int .i64 0]) (w' := w1) rfl rfl (by simp [go_sem, execOp, scase, Act.eval, pv]) h1 (by rw [pvs_size]; exact Nat.le_of_eq HL.out.symm) ?_
  clear h1
  refine InReg.op rfl rfl fun K hK => ?_
  go_simp
  refine hK _ _ ?_
  clear hK K
  refine InReg.op rfl rfl fun K hK => ?_
  go_simp
  refine hK _ _ (InReg.nil ?_)
  clear hK K
  go_wp2
  go_ret
  exact ⟨rfl, HA.out⟩
end
end
end Go.Proofs.Ytmealcbcphfpdaa.MailC
