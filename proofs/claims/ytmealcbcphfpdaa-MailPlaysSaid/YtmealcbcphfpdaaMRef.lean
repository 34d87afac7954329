/-
  The document's slots (chapter 9, lavaboref4): how they lie in memory; Post.
-/
import Derived.Test.YtmealcbcphfpdaaMRefA
namespace Go.Proofs.Ytmealcbcphfpdaa.MRefC
open Go.ChangeShapes Go.WideShapes Go.ChangeAt Go.RowKit Go.Conc
open Go.Proofs.Ytmealcbcphfpdaa.Mem Go.Proofs.Ytmealcbcphfpdaa.Blk Go.Proofs.Ytmealcbcphfpdaa.Cells Go.Proofs.Ytmealcbcphfpdaa.Chan Go.Proofs.Ytmealcbcphfpdaa.Prs Go.Proofs.Ytmealcbcphfpdaa.App Go.Proofs.Ytmealcbcphfpdaa.MailM Go.Proofs.Ytmealcbcphfpdaa.MRefA Go.Proofs.Ytmealcbcphfpdaa.Stages

/-- The slice value lies in neither block. -/
def Off (m d : Nat) (A : Option Addr) : Prop := ∀ x, A = some x → x.block ≠ m ∧ x.block ≠ d
def mcell (A0 A1 A2 : Option Addr) (c0 c1 c2 : Nat) (b : Bx) (j : Nat) : Value := if j = 0 then .slice A0 b.W.length c0 else if j = 1 then .slice A1 b.A.length c1 else .slice A2 b.O.length c2
/-- At block m: the document's slots b; its slices lie outside m and d. -/
structure MRef (w : World) (m d : Nat) (b : Bx) : Prop where
  hd : ∃ A0 A1 A2 c0 c1 c2, Row w m 3 (mcell A0 A1 A2 c0 c1 c2 b) ∧ (Pl w w.heap.size A0 b.W.length b.W ∧ (b.W.length ≤ c0 ∧ c0 ≤ maxLen) ∧ Off m d A0) ∧ (Pl w w.heap.size A1 b.A.length b.A ∧ (b.A.length ≤ c1 ∧ c1 ≤ maxLen) ∧ Off m d A1) ∧ (Sl w w.heap.size .i64 A2 b.O.length b.O ∧ (b.O.length ≤ c2 ∧ c2 ≤ maxLen) ∧ Off m d A2)
  ne : m ≠ d

section
variable {w w' : World} {m d c : Nat} {b : Bx} {G : Nat → Prop} {A : Option Addr} {ys : List P2} {os : List Int}
theorem pl_of (h : Pl w w.heap.size A ys.length ys) (hk : Kept G w w') (hA : Off m d A) (hG : ∀ k, G k → k = m ∨ k = d ∨ IsChan w k) : Pl w' w'.heap.size A ys.length ys :=
  (h.more hk.size).keptC hk fun x hx hn e => by
    rcases hG _ e with e | e | e
    · exact (hA x hx).1 e
    · exact (hA x hx).2 e
    · exact hn e
theorem sl_of (h : Sl w w.heap.size .i64 A os.length os) (hk : Kept G w w') (hA : Off m d A) (hG : ∀ k, G k → k = m ∨ k = d ∨ IsChan w k) : Sl w' w'.heap.size .i64 A os.length os :=
  App.Sl.keptC (h.more hk.size) hk fun x hx hn e => by
    rcases hG _ e with e | e | e
    · exact (hA x hx).1 e
    · exact (hA x hx).2 e
    · exact hn e
theorem MRef.lt (h : MRef w m d b) : m < w.heap.size := by
  obtain ⟨A0, A1, A2, c0, c1, c2, hr, _⟩ := h.hd
  exact hr.lt
theorem MRef.notChan (h : MRef w m d b) : ¬ IsChan w m := by
  obtain ⟨A0, A1, A2, c0, c1, c2, ⟨cur, t, hb, _⟩, _⟩ := h.hd
  exact notChan_cells hb
theorem MRef.kept (h : MRef w m d b) (hk : Kept G w w') (hG : ∀ k, G k → k = d ∨ IsChan w k) : MRef w' m d b := by
  have hn := h.notChan
  obtain ⟨A0, A1, A2, c0, c1, c2, hr, ⟨p0, l0, o0⟩, ⟨p1, l1, o1⟩, ⟨p2, l2, o2⟩⟩ := h.hd
  have hG' : ∀ k, G k → k = m ∨ k = d ∨ IsChan w k := fun k x => .inr (hG k x)
  refine ⟨⟨A0, A1, A2, c0, c1, c2, hr.kept hk fun x => ?_, ⟨pl_of p0 hk o0 hG', l0, o0⟩, ⟨pl_of p1 hk o1 hG', l1, o1⟩, ⟨sl_of p2 hk o2 hG', l2, o2⟩⟩, h.ne⟩
  rcases hG _ x with e | e
  · exact h.ne e
  · exact hn e
theorem MRef.grow (h : MRef w m d b) (hk : Grow w w') : MRef w' m d b := h.kept hk fun _ x => x.elim
/-- Another slice is laid into it. -/
theorem MRef.putW (h : MRef w m d b) (hs : Pl w w.heap.size A ys.length ys) (hc : ys.length ≤ c ∧ c ≤ maxLen) (hA : Off m d A) : MRef (w.setCell ⟨m, 0, none⟩ (.slice A ys.length c)) m d ⟨ys, b.O, b.A⟩ := by
  obtain ⟨A0, A1, A2, c0, c1, c2, hr, ⟨p0, l0, o0⟩, ⟨p1, l1, o1⟩, ⟨p2, l2, o2⟩⟩ := h.hd
  have hk := kept_set w m 0 (.slice A ys.length c)
  have hG : ∀ k, k = m → k = m ∨ k = d ∨ IsChan w k := fun k e => .inl e
  refine ⟨⟨A, A1, A2, c, c1, c2, (hr.set 0 _).congr fun i hi => ?_, ⟨pl_of hs hk hA hG, hc, hA⟩, ⟨pl_of p1 hk o1 hG, l1, o1⟩, ⟨sl_of p2 hk o2 hG, l2, o2⟩⟩, h.ne⟩
  have : i = 0 ∨ i = 1 ∨ i = 2 := by omega
  rcases this with rfl | rfl | rfl <;> rfl
theorem MRef.putA (h : MRef w m d b) (hs : Pl w w.heap.size A ys.length ys) (hc : ys.length ≤ c ∧ c ≤ maxLen) (hA : Off m d A) : MRef (w.setCell ⟨m, 1, none⟩ (.slice A ys.length c)) m d ⟨b.W, b.O, ys⟩ := by
  obtain ⟨A0, A1, A2, c0, c1, c2, hr, ⟨p0, l0, o0⟩, ⟨p1, l1, o1⟩, ⟨p2, l2, o2⟩⟩ := h.hd
  have hk := kept_set w m 1 (.slice A ys.length c)
  have hG : ∀ k, k = m → k = m ∨ k = d ∨ IsChan w k := fun k e => .inl e
  refine ⟨⟨A0, A, A2, c0, c, c2, (hr.set 1 _).congr fun i hi => ?_, ⟨pl_of p0 hk o0 hG, l0, o0⟩, ⟨pl_of hs hk hA hG, hc, hA⟩, ⟨sl_of p2 hk o2 hG, l2, o2⟩⟩, h.ne⟩
  have : i = 0 ∨ i = 1 ∨ i = 2 := by omega
  rcases this with rfl | rfl | rfl <;> rfl
theorem MRef.putO (h : MRef w m d b) (hs : Sl w w.heap.size .i64 A os.length os) (hc : os.length ≤ c ∧ c ≤ maxLen) (hA : Off m d A) : MRef (w.setCell ⟨m, 2, none⟩ (.slice A os.length c)) m d ⟨b.W, os, b.A⟩ := by
  obtain ⟨A0, A1, A2, c0, c1, c2, hr, ⟨p0, l0, o0⟩, ⟨p1, l1, o1⟩, ⟨p2, l2, o2⟩⟩ := h.hd
  have hk := kept_set w m 2 (.slice A os.length c)
  have hG : ∀ k, k = m → k = m ∨ k = d ∨ IsChan w k := fun k e => .inl e
  refine ⟨⟨A0, A1, A, c0, c1, c, (hr.set 2 _).congr fun i hi => ?_, ⟨pl_of p0 hk o0 hG, l0, o0⟩, ⟨pl_of p1 hk o1 hG, l1, o1⟩, ⟨sl_of hs hk hA hG, hc, hA⟩⟩, h.ne⟩
  have : i = 0 ∨ i = 1 ∨ i = 2 := by omega
  rcases this with rfl | rfl | rfl <;> rfl
theorem off_new {B : Nat} (hm : m < B) (hd : d < B) (h : ∀ x, A = some x → B ≤ x.block) : Off m d A := fun x hx => by have := h x hx; omega

/-- What a call answers; what it makes of the slots. -/
def QPost (m d : Nat) (w : World) (r : Value) (b' : Bx) (e : Ending) (w' : World) : Prop := e = .returned r ∧ MRef w' m d b' ∧ Kept (· = m) w w'

/-! ### Post -/
theorem rpost_bad (h : MRef w m d b) (f x : Int) (hf : isT f = false) : Calls Try.prog 9 #[.pointer (some ⟨m, 0, none⟩), .int .i64 f, .int .i64 x] w fun e w' => e = .returned (.int .i64 1) ∧ w = w' := by
  have HT := Lib.hid (task_any (w := w) f)
  rw [hf] at HT
  clear h hf
  go_enter Try.func9, Try.ntmps9
  go_wp2_with (go_at_call 20; (with_reducible refine HT.out.mono ?_); rintro e w' ⟨rfl, rfl⟩)
  go_ret
  exact ⟨rfl, rfl⟩
set_option maxHeartbeats 1000000 in
theorem rpost_held (h : MRef w m d b) (g : Fit b) (f x : Int) (hf : isT f = true) (hw : f ∈ b.who) : Calls Try.prog 9 #[.pointer (some ⟨m, 0, none⟩), .int .i64 f, .int .i64 x] w fun e w' => e = .returned (.int .i64 13) ∧ w = w' := by
  have HT := Lib.hid (task_any (w := w) f)
  rw [hf] at HT
  obtain ⟨A0, A1, A2, k0, k1, k2, hr, ⟨p0, l0, o0⟩, ⟨p1, l1, o1⟩, ⟨p2, l2, o2⟩⟩ := h.hd
  obtain ⟨n0, n2, n1, _, _⟩ := g.parts
  have hl := g.lens
  have H0 := Lib.hid (at_any A0 k0 _ b.W f n0 (by omega) p0)
  have H1 := Lib.hid (at_any A1 k1 _ b.A f n1 (by omega) p1)
  have H2 := Lib.hid (place_any A2 k2 _ b.O f n2 (by omega) p2)
  have r0 := hr.cell (i := 0) (by omega)
  have r1 := hr.cell (i := 1) (by omega)
  have r2 := hr.cell (i := 2) (by omega)
  simp only [mcell, Nat.one_ne_zero, if_true, if_false, Nat.succ_ne_zero, Nat.reduceEqDiff] at r0 r1 r2
  have hlA : (b.A.length : Int) ≤ 64 ∧ (b.O.length : Int) ≤ 64 ∧ (b.W.length : Int) ≤ 64 := by omega
  have hI1 := idx_neg (fsts b.A) f
  have hI0 := idx_neg (fsts b.W) f
  have hI2 := idx_neg b.O f
  rw [mem_who] at hw
  clear h g hr p0 p1 p2 l0 l1 l2 o0 o1 o2 n0 n1 n2 hf
  obtain ⟨hlA, hlO, hlW⟩ := hlA
  rw [fsts_len] at hI0 hI1
  rcases hI0 with ⟨m0, e0⟩ | ⟨m0, j0, lt0, e0, _⟩
  · rw [e0] at H0
    rcases hI1 with ⟨m1, e1⟩ | ⟨m1, j1, lt1, e1, _⟩
    · rw [e1] at H1
      rcases hI2 with ⟨m2, e2⟩ | ⟨m2, j2, lt2, e2, _⟩
      · exact absurd hw (by simp [m0, m1, m2])
      · rw [e2] at H2
        clear hw e0 e1 e2 m0 m1 m2 hl
        go_enter Try.func9, Try.ntmps9
        go_wp2_with (first
          | (go_at_call 20; (with_reducible refine HT.out.mono ?_); rintro e w' ⟨rfl, rfl⟩)
          | (go_at_call 21; (with_reducible refine H0.out.mono ?_); rintro e w' ⟨rfl, rfl⟩)
          | (go_at_call 21; (with_reducible refine H1.out.mono ?_); rintro e w' ⟨rfl, rfl⟩)
          | (go_at_call 22; (with_reducible refine H2.out.mono ?_); rintro e w' ⟨rfl, rfl⟩))
        go_ret
        exact ⟨rfl, rfl⟩
    · rw [e1] at H1
      clear hw e0 e1 m0 m1 hl hI2
      go_enter Try.func9, Try.ntmps9
      go_wp2_with (first
        | (go_at_call 20; (with_reducible refine HT.out.mono ?_); rintro e w' ⟨rfl, rfl⟩)
        | (go_at_call 21; (with_reducible refine H0.out.mono ?_); rintro e w' ⟨rfl, rfl⟩)
        | (go_at_call 21; (with_reducible refine H1.out.mono ?_); rintro e w' ⟨rfl, rfl⟩))
      go_ret
      exact ⟨rfl, rfl⟩
  · rw [e0] at H0
    clear hw e0 m0 hl hI2 hI1
    go_enter Try.func9, Try.ntmps9
    go_wp2_with (first
      | (go_at_call 20; (with_reducible refine HT.out.mono ?_); rintro e w' ⟨rfl, rfl⟩)
      | (go_at_call 21; (with_reducible refine H0.out.mono ?_); rintro e w' ⟨rfl, rfl⟩))
    go_ret
    exact ⟨rfl, rfl⟩
end
end Go.Proofs.Ytmealcbcphfpdaa.MRefC
