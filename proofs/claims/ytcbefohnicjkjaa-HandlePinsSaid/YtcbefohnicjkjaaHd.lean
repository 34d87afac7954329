/-
  Handles in memory (package handle, chapter 12): how they lie; least, of, Page, Room.
-/
import Derived.Test.YtcbefohnicjkjaaRows
import Derived.Test.YtcbefohnicjkjaaHdMath
import Derived.Test.YtcbefohnicjkjaaOrow
import Derived.Deep.LoopGhost
namespace Go.Proofs.Ytcbefohnicjkjaa.HdC
open Go.ChangeShapes Go.WideShapes Go.ChangeAt Go.RowKit
open Go.Proofs.Ytcbefohnicjkjaa.Mem Go.Proofs.Ytcbefohnicjkjaa.Blk Go.Proofs.Ytcbefohnicjkjaa.Cells Go.Proofs.Ytcbefohnicjkjaa.Orow Go.Proofs.Ytcbefohnicjkjaa.HdM Go.Proofs.Ytcbefohnicjkjaa.Stages

def hcell (f : Nat → Int) (j : Nat) : Value := .int .i64 (f j)
def scell (q cp : Nat → Nat) (i : Nat) : Value := .slice (some ⟨q i, 0, none⟩) 6 (cp i)
/-- Rows of six numbers each, told by the slice v of their slices; all blocks lie in G. -/
structure Gr (w : World) (G : Nat → Prop) (v : Value) (n : Nat) (q cp : Nat → Nat) (H : Nat → Nat → Int) : Prop where
  out : OS w G v 28 1 n (scell q cp)
  row : ∀ i, i < n → OR w (q i) 3 1 (cp i) 6 (hcell (H i))
  inG : ∀ i, i < n → G (q i)
  off : ∀ i, i < n → v.ownBlock ≠ some (q i)
  ne : ∀ i j, i < n → j < n → q i = q j → i = j
/-- At block d: the handles a; their blocks lie in G. -/
structure HAt (w : World) (G : Nat → Prop) (d : Nat) (a : Hs) : Prop where
  good : HdM.Good a
  mem : ∃ v q cp, Row w d 1 (fun _ => v) ∧ Gr w G v a.n q cp a.H ∧ G d ∧ v.ownBlock ≠ some d ∧ ∀ i, i < a.n → q i ≠ d

section
variable {w w' : World} {G F X : Nat → Prop} {v : Value} {n d : Nat} {q cp : Nat → Nat} {H : Nat → Nat → Int} {a : Hs}
theorem os_mono {t : TypeId} {s : Nat} {f : Nat → Value} (h : OS w G v t s n f) (hX : ∀ k, k < w.heap.size → G k → X k) : OS w X v t s n f := by
  rcases h with h | ⟨g, cap, e, ho, hg⟩
  · exact .inl h
  · exact .inr ⟨g, cap, e, ho, hX _ ho.lt hg⟩
theorem os_in {t : TypeId} {s : Nat} {f : Nat → Value} (h : OS w G v t s n f) {k : Nat} (hk : v.ownBlock = some k) : G k ∧ k < w.heap.size := h.own.2 k hk
theorem Gr.kept (h : Gr w G v n q cp H) (hk : Kept F w w') (hF : ∀ k, G k → ¬ F k) : Gr w' G v n q cp H :=
  ⟨h.out.kept hk hF, fun i hi => (h.row i hi).kept hk (hF _ (h.inG i hi)), h.inG, h.off, h.ne⟩
theorem Gr.mono (h : Gr w G v n q cp H) (hX : ∀ k, k < w.heap.size → G k → X k) : Gr w X v n q cp H :=
  ⟨os_mono h.out hX, h.row, fun i hi => hX _ (h.row i hi).lt (h.inG i hi), h.off, h.ne⟩
theorem Gr.get (h : Gr w G v n q cp H) {i : Nat} (hi : i < n) : ∃ g cap, v = .slice (some ⟨g, 0, none⟩) n cap ∧ w.cell? ⟨g, i, none⟩ = some (.slice (some ⟨q i, 0, none⟩) 6 (cp i)) ∧ OR w (q i) 3 1 (cp i) 6 (hcell (H i)) := by
  obtain ⟨g, cap, rfl, ho, _⟩ := h.out.form (by omega)
  exact ⟨g, cap, rfl, ho.cell (by omega), h.row i hi⟩
theorem hcell_get {b c : Nat} {f : Nat → Int} (h : OR w b 3 1 c 6 (hcell f)) {j : Nat} (hj : j < 6) : w.cell? ⟨b, j, none⟩ = some (.int .i64 (f j)) := h.cell (by omega)
/-- One handle has another page. -/
theorem Gr.put (h : Gr w G v a.n q cp a.H) {c : Nat} (j : Nat) (p : Int) : Gr (w.setCell ⟨q c, j, none⟩ (.int .i64 p)) G v (a.put c j p).n q cp (a.put c j p).H ∨ ¬ c < a.n := by
  by_cases hc : c < a.n
  · left
    refine ⟨?_, fun i hi => ?_, h.inG, h.off, h.ne⟩
    · rcases h.out with x | ⟨g, cap, e, ho, hg⟩
      · exact .inl x
      · refine .inr ⟨g, cap, e, ho.other (p := ⟨q c, j, none⟩) (fun e2 => h.off c hc ?_) _, hg⟩
        rw [e, e2]; rfl
    · have hi : i < a.n := hi
      by_cases e : i = c
      · subst e
        refine ((h.row i hi).set j _).congr fun y hy => ?_
        show (if y = j then Value.int .i64 p else .int .i64 (a.H i y)) = .int .i64 (if i = i ∧ y = j then p else a.H i y)
        by_cases e2 : y = j
        · rw [if_pos e2, if_pos ⟨rfl, e2⟩]
        · rw [if_neg e2, if_neg fun x => e2 x.2]
      · refine ((h.row i hi).other (p := ⟨q c, j, none⟩) (fun e2 => e (h.ne i c hi hc e2)) _).congr fun y hy => ?_
        show Value.int .i64 (a.H i y) = .int .i64 (if i = c ∧ y = j then p else a.H i y)
        rw [if_neg fun x => e x.1]
  · exact .inr hc
theorem HAt.kept (h : HAt w G d a) (hk : Kept F w w') (hF : ∀ k, G k → ¬ F k) : HAt w' G d a := by
  obtain ⟨v, q, cp, h0, h1, h2, h3, h4⟩ := h.mem
  exact ⟨h.good, v, q, cp, h0.kept hk (hF _ h2), h1.kept hk hF, h2, h3, h4⟩
theorem HAt.grow (h : HAt w G d a) (hk : Grow w w') : HAt w' G d a := h.kept hk fun _ _ x => x
theorem HAt.mono (h : HAt w G d a) (hX : ∀ k, k < w.heap.size → G k → X k) : HAt w X d a := by
  obtain ⟨v, q, cp, h0, h1, h2, h3, h4⟩ := h.mem
  exact ⟨h.good, v, q, cp, h0, h1.mono hX, hX _ h0.lt h2, h3, h4⟩
theorem HAt.lt (h : HAt w G d a) : d < w.heap.size ∧ G d := by
  obtain ⟨v, q, cp, h0, _, h2, _⟩ := h.mem
  exact ⟨h0.lt, h2⟩
/-- What a walk reads of one client. -/
structure Own (w : World) (G : Nat → Prop) (d : Nat) (a : Hs) (k g cap b c : Nat) : Prop where
  hd : w.cell? ⟨d, 0, none⟩ = some (.slice (some ⟨g, 0, none⟩) a.n cap)
  sl : w.cell? ⟨g, k, none⟩ = some (.slice (some ⟨b, 0, none⟩) 6 c)
  row : OR w b 3 1 c 6 (hcell (a.H k))
  put : ∀ j p, -1 ≤ p → HAt (w.setCell ⟨b, j, none⟩ (.int .i64 p)) G d (a.put k j p)
  inG : G b
theorem HAt.own (h : HAt w G d a) {k : Nat} (hk : k < a.n) : ∃ g cap b c, Own w G d a k g cap b c := by
  obtain ⟨v, q, cp, h0, h1, h2, h3, h4⟩ := h.mem
  obtain ⟨g, cap, rfl, hs, hr⟩ := h1.get hk
  refine ⟨g, cap, q k, cp k, h0.cell (i := 0) (by omega), hs, hr, fun j p hp => ⟨h.good.put k j hp, _, q, cp, h0.other (p := ⟨q k, j, none⟩) (fun e => h4 k hk e.symm) _, ?_, h2, h3, h4⟩, h1.inG k hk⟩
  rcases h1.put (c := k) j p with h | h
  · exact h
  · exact absurd hk h
theorem HAt.head (h : HAt w G d a) : ∃ A cap, w.cell? ⟨d, 0, none⟩ = some (.slice A a.n cap) := by
  obtain ⟨v, q, cp, h0, h1, _⟩ := h.mem
  have c0 := h0.cell (i := 0) (by omega)
  rcases h1.out with ⟨rfl, e⟩ | ⟨g, cap, rfl, _⟩
  · exact ⟨none, 0, by rw [c0, e]⟩
  · exact ⟨_, _, c0⟩

/-- What a call answers; what it makes of the handles. -/
def HPost (G : Nat → Prop) (d : Nat) (w : World) (r : Value) (a' : Hs) (e : Ending) (w' : World) : Prop := e = .returned r ∧ HAt w' G d a' ∧ Kept G w w'

/-! ### least -/
theorem least_nil (w : World) (A : Option Addr) (c : Nat) : Calls Try.prog 24 #[.slice A 0 c] w fun e w' => e = .returned (.int .i64 (-1)) ∧ w = w' := by
  go_enter Try.func24, Try.ntmps24
  go_wp2
  go_step3
  go_wp2
  go_step3
  go_wp2
  go_loopg [3, 8] 0 (fun _ x i wr => i = .int .i64 0 ∧ x = .int .i64 (-1) ∧ wr = w)
  case atStart => exact ⟨rfl, rfl, rfl⟩
  case round =>
    obtain ⟨rfl, rfl, rfl⟩ := hrel
    go_wp2
    try rw [Exit.noGoto_ret]
    go_ret
    exact ⟨rfl, rfl⟩
theorem least_six {w : World} {b cb c : Nat} {f : Nat → Int} (h : OR w b 3 1 cb 6 (hcell f)) : Calls Try.prog 24 #[.slice (some ⟨b, 0, none⟩) 6 c] w fun e w' => e = .returned (.int .i64 (hnd f 6)) ∧ w = w' := by
  have HR := Lib.hid h
  clear h
  go_enter Try.func24, Try.ntmps24
  go_wp2
  go_step3
  go_wp2
  go_step3
  go_wp2
  go_loopg [3, 8] 6 (fun gx x i wr => ∃ j : Nat, j + gx = 6 ∧ i = .int .i64 (j : Int) ∧ x = .int .i64 (-1) ∧ wr = w ∧ ∀ k, k < j → f k ≠ -1)
  case atStart => exact ⟨0, by omega, rfl, rfl, rfl, fun k h => absurd h (Nat.not_lt_zero k)⟩
  case round =>
    obtain ⟨j, hg, rfl, rfl, rfl, hno⟩ := hrel
    have HG := Lib.hid hg
    have HNO := Lib.hid hno
    clear hg hno
    by_cases hj : j < 6
    · have hjz : (j : Int) < 6 := by omega
      have r1 := hcell_get HR.out hj
      by_cases hx : f j = -1
      · have hd := hnd_at HNO.out hj hx
        have HD := Lib.hid hd
        rw [hx] at r1
        clear hd hx
        go_wp2
        try rw [Exit.noGoto_ret]
        go_ret
        exact ⟨by rw [HD.out]; rfl, rfl⟩
      · have hx' : (f j == -1) = false := by simpa using hx
        have HX := Lib.hid hx
        clear hx
        go_wp2
        go_roundg (gk - 1)
        case measure => have := HG.out; omega
        case rel => exact ⟨j + 1, by have := HG.out; omega, by go_num, rfl, rfl, fun k hk => by
          by_cases e : k = j
          · subst e; exact HX.out
          · exact HNO.out k (by omega)⟩
    · have hd := hnd_none (m := 6) fun k hk => HNO.out k (by omega)
      have hj6 : j = 6 := by have := HG.out; omega
      subst hj6
      have HD := Lib.hid hd
      clear hd hj
      go_wp2
      try rw [Exit.noGoto_ret]
      go_ret
      exact ⟨by rw [HD.out]; rfl, rfl⟩

/-! ### of -/
theorem of_nil (w : World) (c : Int) : Calls Try.prog 23 #[.pointer none, .int .i64 c] w fun e w' => e = .returned (.slice none 0 0) ∧ w = w' := by
  go_enter Try.func23, Try.ntmps23
  go_wp2
  go_ret
  exact ⟨rfl, rfl⟩
theorem of_bad (h : HAt w G d a) (c : Int) (hc : ¬ (0 ≤ c ∧ c < (a.n : Int))) : Calls Try.prog 23 #[.pointer (some ⟨d, 0, none⟩), .int .i64 c] w fun e w' => e = .returned (.slice none 0 0) ∧ w = w' := by
  obtain ⟨A, cap, c0⟩ := h.head
  clear h
  by_cases h0 : c < 0
  · clear hc
    go_enter Try.func23, Try.ntmps23
    go_wp2
    go_ret
    exact ⟨rfl, rfl⟩
  · have h1 : (a.n : Int) ≤ c := by omega
    have h2 : 0 ≤ c := by omega
    clear hc h0
    go_enter Try.func23, Try.ntmps23
    go_wp2
    go_ret
    exact ⟨rfl, rfl⟩
theorem of_good {k g cap b c : Nat} (h : Own w G d a k g cap b c) (hk : k < a.n) : Calls Try.prog 23 #[.pointer (some ⟨d, 0, none⟩), .int .i64 (k : Int)] w fun e w' => e = .returned (.slice (some ⟨b, 0, none⟩) 6 c) ∧ w = w' := by
  have c0 := h.hd
  have c1 := h.sl
  have hkz : (k : Int) < (a.n : Int) := by omega
  clear h
  go_enter Try.func23, Try.ntmps23
  go_wp2
  go_ret
  exact ⟨rfl, rfl⟩
end
end Go.Proofs.Ytcbefohnicjkjaa.HdC
