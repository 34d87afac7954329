/-
  Frames in memory (package arena, chapter 10): how an arena lies; used, Find, Free, Pin, Unpin, Mark.
-/
import Derived.Test.YtcmhkknoffeebaaRows
import Derived.Test.YtcmhkknoffeebaaArMath
import Derived.Test.YtcmhkknoffeebaaOrow
import Derived.Test.YtcmhkknoffeebaaListMore
import Derived.Test.YtcmhkknoffeebaaTabOps
namespace Go.Proofs.Ytcmhkknoffeebaa.ArC
open Go.ChangeShapes Go.WideShapes Go.ChangeAt Go.RowKit
open Go.Proofs.Ytcmhkknoffeebaa.Mem Go.Proofs.Ytcmhkknoffeebaa.Blk Go.Proofs.Ytcmhkknoffeebaa.Cells Go.Proofs.Ytcmhkknoffeebaa.Orow Go.Proofs.Ytcmhkknoffeebaa.TabM Go.Proofs.Ytcmhkknoffeebaa.ArM Go.Proofs.Ytcmhkknoffeebaa.Stages

/-! ### A frame's cells -/
def fpart (x : Fr) (k : Nat) : Value := if k = 0 then .int .i64 x.st else if k = 1 then .int .i64 x.pg else if k = 2 then .int .i64 x.pn else if k = 3 then .int .i64 0 else .bool x.di
def fcell (F : Nat → Fr) (j : Nat) : Value := fpart (F (j / 5)) (j % 5)
theorem fcell_at (F : Nat → Fr) (p k : Nat) (hk : k < 5) : fcell F (p * 5 + k) = fpart (F p) k := by
  unfold fcell
  rw [show (p * 5 + k) / 5 = p by omega, show (p * 5 + k) % 5 = k by omega]
theorem fcell_0 (F : Nat → Fr) (p : Nat) : fcell F (p * 5) = .int .i64 (F p).st := by
  unfold fcell
  rw [show p * 5 / 5 = p by omega, show p * 5 % 5 = 0 by omega]; rfl
theorem fcell_1 (F : Nat → Fr) (p : Nat) : fcell F (p * 5 + 1) = .int .i64 (F p).pg := fcell_at F p 1 (by omega)
theorem fcell_2 (F : Nat → Fr) (p : Nat) : fcell F (p * 5 + 2) = .int .i64 (F p).pn := fcell_at F p 2 (by omega)
theorem fcell_3 (F : Nat → Fr) (p : Nat) : fcell F (p * 5 + 3) = .int .i64 0 := fcell_at F p 3 (by omega)
theorem fcell_4 (F : Nat → Fr) (p : Nat) : fcell F (p * 5 + 4) = .bool (F p).di := fcell_at F p 4 (by omega)
/-- One part of a frame is another one. -/
theorem fset {F : Nat → Fr} {f k : Nat} {v : Fr} {x : Value} (hk : k < 5) (hx : x = fpart v k) (hs : ∀ q, q < 5 → q ≠ k → fpart v q = fpart (F f) q) (i : Nat) : (if i = f * 5 + k then x else fcell F i) = fcell (upd F f v) i := by
  by_cases e : i = f * 5 + k
  · rw [if_pos e, e, fcell_at _ _ _ hk, upd_same, hx]
  · rw [if_neg e]
    unfold fcell
    by_cases e2 : i / 5 = f
    · rw [e2, upd_same, hs _ (by omega) (by omega)]
    · rw [upd_other _ _ e2]

/-! ### Frames in a block -/
abbrev FR (w : World) (g cap n : Nat) (F : Nat → Fr) : Prop := OR w g 36 5 cap n (fcell F)
section
variable {w : World} {g cap n f : Nat} {F : Nat → Fr} {v : Fr}
theorem FR.c0 (h : FR w g cap n F) (hf : f < n) : w.cell? ⟨g, f * 5, none⟩ = some (.int .i64 (F f).st) := by rw [OR.cell h (by omega), fcell_0]
theorem FR.c1 (h : FR w g cap n F) (hf : f < n) : w.cell? ⟨g, f * 5 + 1, none⟩ = some (.int .i64 (F f).pg) := by rw [OR.cell h (by omega), fcell_1]
theorem FR.c2 (h : FR w g cap n F) (hf : f < n) : w.cell? ⟨g, f * 5 + 2, none⟩ = some (.int .i64 (F f).pn) := by rw [OR.cell h (by omega), fcell_2]
theorem FR.c3 (h : FR w g cap n F) (hf : f < n) : w.cell? ⟨g, f * 5 + 3, none⟩ = some (.int .i64 0) := by rw [OR.cell h (by omega), fcell_3]
theorem FR.c4 (h : FR w g cap n F) (hf : f < n) : w.cell? ⟨g, f * 5 + 4, none⟩ = some (.bool (F f).di) := by rw [OR.cell h (by omega), fcell_4]
theorem four {P : Nat → Prop} (h0 : P 0) (h1 : P 1) (h2 : P 2) (h3 : P 3) (h4 : P 4) (q : Nat) (hq : q < 5) : P q := by
  have : q = 0 ∨ q = 1 ∨ q = 2 ∨ q = 3 ∨ q = 4 := by omega
  rcases this with rfl | rfl | rfl | rfl | rfl
  · exact h0
  · exact h1
  · exact h2
  · exact h3
  · exact h4
theorem FR.set0 (h : FR w g cap n F) (f : Nat) (x : Int) : FR (w.setCell ⟨g, f * 5, none⟩ (.int .i64 x)) g cap n (upd F f ⟨x, (F f).pg, (F f).pn, (F f).di⟩) :=
  (OR.set h (f * 5) _).congr fun i _ => fset (F := F) (f := f) (k := 0) (v := ⟨x, (F f).pg, (F f).pn, (F f).di⟩) (by omega) rfl (fun q hq => four (P := fun q => q ≠ 0 → fpart ⟨x, (F f).pg, (F f).pn, (F f).di⟩ q = fpart (F f) q) (fun h => absurd rfl h) (fun _ => rfl) (fun _ => rfl) (fun _ => rfl) (fun _ => rfl) q hq) i
theorem FR.set2 (h : FR w g cap n F) (f : Nat) (x : Int) : FR (w.setCell ⟨g, f * 5 + 2, none⟩ (.int .i64 x)) g cap n (upd F f ⟨(F f).st, (F f).pg, x, (F f).di⟩) :=
  (OR.set h (f * 5 + 2) _).congr fun i _ => fset (F := F) (f := f) (k := 2) (v := ⟨(F f).st, (F f).pg, x, (F f).di⟩) (by omega) rfl (fun q hq => four (P := fun q => q ≠ 2 → fpart ⟨(F f).st, (F f).pg, x, (F f).di⟩ q = fpart (F f) q) (fun _ => rfl) (fun _ => rfl) (fun h => absurd rfl h) (fun _ => rfl) (fun _ => rfl) q hq) i
theorem FR.set4 (h : FR w g cap n F) (f : Nat) (x : Bool) : FR (w.setCell ⟨g, f * 5 + 4, none⟩ (.bool x)) g cap n (upd F f ⟨(F f).st, (F f).pg, (F f).pn, x⟩) :=
  (OR.set h (f * 5 + 4) _).congr fun i _ => fset (F := F) (f := f) (k := 4) (v := ⟨(F f).st, (F f).pg, (F f).pn, x⟩) (by omega) rfl (fun q hq => four (P := fun q => q ≠ 4 → fpart ⟨(F f).st, (F f).pg, (F f).pn, x⟩ q = fpart (F f) q) (fun _ => rfl) (fun _ => rfl) (fun _ => rfl) (fun _ => rfl) (fun h => absurd rfl h) q hq) i
/-- A frame stored whole. -/
def setF (w : World) (g f : Nat) (v : Fr) : World :=
  ((((w.setCell ⟨g, f * 5, none⟩ (.int .i64 v.st)).setCell ⟨g, f * 5 + 1, none⟩ (.int .i64 v.pg)).setCell ⟨g, f * 5 + 2, none⟩ (.int .i64 v.pn)).setCell ⟨g, f * 5 + 3, none⟩ (.int .i64 0)).setCell ⟨g, f * 5 + 4, none⟩ (.bool v.di)
theorem FR.setF (h : FR w g cap n F) (f : Nat) (v : Fr) : FR (setF w g f v) g cap n (upd F f v) := by
  refine (((((OR.set h (f * 5) _).set (f * 5 + 1) _).set (f * 5 + 2) _).set (f * 5 + 3) _).set (f * 5 + 4) _).congr fun i _ => ?_
  by_cases e2 : i / 5 = f
  · have : i = f * 5 ∨ i = f * 5 + 1 ∨ i = f * 5 + 2 ∨ i = f * 5 + 3 ∨ i = f * 5 + 4 := by omega
    rcases this with rfl | rfl | rfl | rfl | rfl
    · rw [if_neg (by omega), if_neg (by omega), if_neg (by omega), if_neg (by omega), if_pos rfl, fcell_0, upd_same]
    · rw [if_neg (by omega), if_neg (by omega), if_neg (by omega), if_pos rfl, fcell_1, upd_same]
    · rw [if_neg (by omega), if_neg (by omega), if_pos rfl, fcell_2, upd_same]
    · rw [if_neg (by omega), if_pos rfl, fcell_3]
    · rw [if_pos rfl, fcell_4, upd_same]
  · rw [if_neg (by omega), if_neg (by omega), if_neg (by omega), if_neg (by omega), if_neg (by omega)]
    unfold fcell
    rw [upd_other _ _ e2]
theorem kept_setF (w : World) (g f : Nat) (v : Fr) : Kept (· = g) w (ArC.setF w g f v) :=
  ((((kept_set w g _ _).trans (kept_set _ g _ _)).trans (kept_set _ g _ _)).trans (kept_set _ g _ _)).trans (kept_set _ g _ _)
end

/-! ### An arena in memory -/
def acell (v : Value) (B : Nat → List Int) (pl pt : Value) (j : Nat) : Value := if j = 0 then v else if j ≤ 512 then .int .u8 ((B ((j - 1) / 16)).getD ((j - 1) % 16) 0) else if j = 513 then pl else pt
structure Apart (d g dl Dl dt Dt : Nat) : Prop where
  dg : d ≠ g
  ddl : d ≠ dl
  dDl : d ≠ Dl
  ddt : d ≠ dt
  dDt : d ≠ Dt
  gdl : g ≠ dl
  gDl : g ≠ Dl
  gdt : g ≠ dt
  gDt : g ≠ Dt
  ldt : dl ≠ dt
  lDt : dl ≠ Dt
  Ldt : Dl ≠ dt
  LDt : Dl ≠ Dt
/-- An arena that has frames. -/
structure Big (w : World) (G : Nat → Prop) (d g cap dl Dl dt Dt : Nat) (T : Tb) (a : Ar) : Prop where
  hd : Row w d 515 (acell (.slice (some ⟨g, 0, none⟩) a.n cap) a.B (.pointer (some ⟨dl, 0, none⟩)) (.pointer (some ⟨dt, 0, none⟩)))
  fr : FR w g cap a.n a.F
  li : Rowed.ListAt w dl Dl 32 a.Q
  ta : TabC.TabAt w dt Dt T
  ts : Tabs T a
  ne : Apart d g dl Dl dt Dt
  inG : G d ∧ G g ∧ G dl ∧ G Dl ∧ G dt ∧ G Dt
  pos : 0 < a.n
/-- The same, whatever the table tells. -/
structure Core (w : World) (G : Nat → Prop) (d g cap dl Dl dt Dt : Nat) (T : Tb) (a : Ar) : Prop where
  hd : Row w d 515 (acell (.slice (some ⟨g, 0, none⟩) a.n cap) a.B (.pointer (some ⟨dl, 0, none⟩)) (.pointer (some ⟨dt, 0, none⟩)))
  fr : FR w g cap a.n a.F
  li : Rowed.ListAt w dl Dl 32 a.Q
  ta : TabC.TabAt w dt Dt T
  ne : Apart d g dl Dl dt Dt
  inG : G d ∧ G g ∧ G dl ∧ G Dl ∧ G dt ∧ G Dt
/-- One that has none. -/
structure Nil (w : World) (G : Nat → Prop) (d : Nat) (a : Ar) : Prop where
  hd : Row w d 515 (acell (.slice none 0 0) a.B (.pointer none) (.pointer none))
  inG : G d
  zero : a.n = 0
/-- At block d: the arena a; its blocks lie in G. -/
structure ArAt (w : World) (G : Nat → Prop) (d : Nat) (a : Ar) : Prop where
  good : ArM.Good a
  mem : Nil w G d a ∨ ∃ g cap dl Dl dt Dt T, Big w G d g cap dl Dl dt Dt T a

section
variable {w w' : World} {G H F : Nat → Prop} {d g cap dl Dl dt Dt : Nat} {T : Tb} {a : Ar}
theorem Big.lt (h : Big w G d g cap dl Dl dt Dt T a) : d < w.heap.size ∧ g < w.heap.size ∧ dl < w.heap.size ∧ Dl < w.heap.size ∧ dt < w.heap.size ∧ Dt < w.heap.size :=
  ⟨h.hd.lt, OR.lt h.fr, h.li.lt.1, h.li.lt.2, TabC.Raw.lt h.ta |>.1, TabC.Raw.lt h.ta |>.2⟩
theorem Big.kept (h : Big w G d g cap dl Dl dt Dt T a) (hk : Kept F w w') (hF : ∀ k, G k → ¬ F k) : Big w' G d g cap dl Dl dt Dt T a := by
  obtain ⟨i0, i1, i2, i3, i4, i5⟩ := h.inG
  exact ⟨h.hd.kept hk (hF _ i0), OR.kept h.fr hk (hF _ i1), h.li.kept hk fun k x y => by
      rcases y with rfl | rfl
      · exact hF _ i2 x
      · exact hF _ i3 x, TabC.Raw.kept h.ta hk fun k x y => by
      rcases y with rfl | rfl
      · exact hF _ i4 x
      · exact hF _ i5 x, h.ts, h.ne, h.inG, h.pos⟩
theorem Big.mono (h : Big w G d g cap dl Dl dt Dt T a) (hH : ∀ k, k < w.heap.size → G k → H k) : Big w H d g cap dl Dl dt Dt T a := by
  obtain ⟨i0, i1, i2, i3, i4, i5⟩ := h.inG
  obtain ⟨l0, l1, l2, l3, l4, l5⟩ := h.lt
  exact ⟨h.hd, h.fr, h.li, h.ta, h.ts, h.ne, ⟨hH _ l0 i0, hH _ l1 i1, hH _ l2 i2, hH _ l3 i3, hH _ l4 i4, hH _ l5 i5⟩, h.pos⟩
theorem Nil.kept (h : Nil w G d a) (hk : Kept F w w') (hF : ∀ k, G k → ¬ F k) : Nil w' G d a := ⟨h.hd.kept hk (hF _ h.inG), h.inG, h.zero⟩
theorem ArAt.kept (h : ArAt w G d a) (hk : Kept F w w') (hF : ∀ k, G k → ¬ F k) : ArAt w' G d a := by
  refine ⟨h.good, ?_⟩
  rcases h.mem with h | ⟨g, cap, dl, Dl, dt, Dt, T, h⟩
  · exact .inl (h.kept hk hF)
  · exact .inr ⟨g, cap, dl, Dl, dt, Dt, T, h.kept hk hF⟩
theorem ArAt.grow (h : ArAt w G d a) (hk : Grow w w') : ArAt w' G d a := h.kept hk fun _ _ x => x
theorem ArAt.mono (h : ArAt w G d a) (hH : ∀ k, k < w.heap.size → G k → H k) : ArAt w H d a := by
  refine ⟨h.good, ?_⟩
  rcases h.mem with h | ⟨g, cap, dl, Dl, dt, Dt, T, h⟩
  · exact .inl ⟨h.hd, hH _ h.hd.lt h.inG, h.zero⟩
  · exact .inr ⟨g, cap, dl, Dl, dt, Dt, T, h.mono hH⟩
theorem ArAt.lt (h : ArAt w G d a) : d < w.heap.size ∧ G d := by
  rcases h.mem with h | ⟨g, cap, dl, Dl, dt, Dt, T, h⟩
  · exact ⟨h.hd.lt, h.inG⟩
  · exact ⟨h.hd.lt, h.inG.1⟩
theorem Big.h0 (h : Big w G d g cap dl Dl dt Dt T a) : w.cell? ⟨d, 0, none⟩ = some (.slice (some ⟨g, 0, none⟩) a.n cap) := h.hd.cell (i := 0) (by omega)
theorem Big.h1 (h : Big w G d g cap dl Dl dt Dt T a) : w.cell? ⟨d, 513, none⟩ = some (.pointer (some ⟨dl, 0, none⟩)) := h.hd.cell (i := 513) (by omega)
theorem Big.h2 (h : Big w G d g cap dl Dl dt Dt T a) : w.cell? ⟨d, 514, none⟩ = some (.pointer (some ⟨dt, 0, none⟩)) := h.hd.cell (i := 514) (by omega)
theorem Nil.h0 (h : Nil w G d a) : w.cell? ⟨d, 0, none⟩ = some (.slice none 0 0) := h.hd.cell (i := 0) (by omega)
theorem Nil.h1 (h : Nil w G d a) : w.cell? ⟨d, 513, none⟩ = some (.pointer none) := h.hd.cell (i := 513) (by omega)
theorem Nil.h2 (h : Nil w G d a) : w.cell? ⟨d, 514, none⟩ = some (.pointer none) := h.hd.cell (i := 514) (by omega)

theorem Big.core (h : Big w G d g cap dl Dl dt Dt T a) : Core w G d g cap dl Dl dt Dt T a := ⟨h.hd, h.fr, h.li, h.ta, h.ne, h.inG⟩
theorem Core.big (h : Core w G d g cap dl Dl dt Dt T a) (hs : Tabs T a) (hp : 0 < a.n) : Big w G d g cap dl Dl dt Dt T a := ⟨h.hd, h.fr, h.li, h.ta, hs, h.ne, h.inG, hp⟩
theorem Core.h0 (h : Core w G d g cap dl Dl dt Dt T a) : w.cell? ⟨d, 0, none⟩ = some (.slice (some ⟨g, 0, none⟩) a.n cap) := h.hd.cell (i := 0) (by omega)
theorem Core.h1 (h : Core w G d g cap dl Dl dt Dt T a) : w.cell? ⟨d, 513, none⟩ = some (.pointer (some ⟨dl, 0, none⟩)) := h.hd.cell (i := 513) (by omega)
theorem Core.h2 (h : Core w G d g cap dl Dl dt Dt T a) : w.cell? ⟨d, 514, none⟩ = some (.pointer (some ⟨dt, 0, none⟩)) := h.hd.cell (i := 514) (by omega)
theorem Core.lst {Q' : List Nat} (h : Core w G d g cap dl Dl dt Dt T a) (hl : Rowed.ListAt w' dl Dl 32 Q') (hk : Kept (Rowed.Own dl Dl) w w') : Core w' G d g cap dl Dl dt Dt T ⟨a.n, a.F, a.B, Q'⟩ := by
  refine ⟨h.hd.kept hk fun x => ?_, OR.kept h.fr hk fun x => ?_, hl, TabC.Raw.kept h.ta hk fun k x y => ?_, h.ne, h.inG⟩
  · rcases x with x | x
    · exact h.ne.ddl x
    · exact h.ne.dDl x
  · rcases x with x | x
    · exact h.ne.gdl x
    · exact h.ne.gDl x
  · rcases x with rfl | rfl
    · rcases y with y | y
      · exact h.ne.ldt y
      · exact h.ne.lDt y
    · rcases y with y | y
      · exact h.ne.Ldt y
      · exact h.ne.LDt y
theorem Core.tab {T' : Tb} (h : Core w G d g cap dl Dl dt Dt T a) (ht : TabC.TabAt w' dt Dt T') (hk : Kept (TabC.Own dt Dt) w w') : Core w' G d g cap dl Dl dt Dt T' a := by
  refine ⟨h.hd.kept hk fun x => ?_, OR.kept h.fr hk fun x => ?_, h.li.kept hk fun k x y => ?_, ht, h.ne, h.inG⟩
  · rcases x with x | x
    · exact h.ne.ddt x
    · exact h.ne.dDt x
  · rcases x with x | x
    · exact h.ne.gdt x
    · exact h.ne.gDt x
  · rcases x with rfl | rfl
    · rcases y with y | y
      · exact h.ne.ldt y.symm
      · exact h.ne.Ldt y.symm
    · rcases y with y | y
      · exact h.ne.lDt y.symm
      · exact h.ne.LDt y.symm
theorem Core.frm {F' : Nat → Fr} (h : Core w G d g cap dl Dl dt Dt T a) (hf : FR w' g cap a.n F') (hk : Kept (· = g) w w') : Core w' G d g cap dl Dl dt Dt T ⟨a.n, F', a.B, a.Q⟩ := by
  refine ⟨h.hd.kept hk h.ne.dg, hf, h.li.kept hk fun k x y => ?_, TabC.Raw.kept h.ta hk fun k x y => ?_, h.ne, h.inG⟩
  · subst x
    rcases y with y | y
    · exact h.ne.gdl y
    · exact h.ne.gDl y
  · subst x
    rcases y with y | y
    · exact h.ne.gdt y
    · exact h.ne.gDt y
theorem Core.hdr {B' : Nat → List Int} (h : Core w G d g cap dl Dl dt Dt T a) (hf : Row w' d 515 (acell (.slice (some ⟨g, 0, none⟩) a.n cap) B' (.pointer (some ⟨dl, 0, none⟩)) (.pointer (some ⟨dt, 0, none⟩)))) (hk : Kept (· = d) w w') : Core w' G d g cap dl Dl dt Dt T ⟨a.n, a.F, B', a.Q⟩ := by
  refine ⟨hf, OR.kept h.fr hk h.ne.dg.symm, h.li.kept hk fun k x y => ?_, TabC.Raw.kept h.ta hk fun k x y => ?_, h.ne, h.inG⟩
  · subst x
    rcases y with y | y
    · exact h.ne.ddl y
    · exact h.ne.dDl y
  · subst x
    rcases y with y | y
    · exact h.ne.ddt y
    · exact h.ne.dDt y
theorem Core.kl (h : Core w G d g cap dl Dl dt Dt T a) {u u' : World} (hk : Kept (Rowed.Own dl Dl) u u') : Kept G u u' := hk.mono fun k _ x => by
  rcases x with rfl | rfl
  · exact h.inG.2.2.1
  · exact h.inG.2.2.2.1
theorem Core.kt (h : Core w G d g cap dl Dl dt Dt T a) {u u' : World} (hk : Kept (TabC.Own dt Dt) u u') : Kept G u u' := hk.mono fun k _ x => by
  rcases x with rfl | rfl
  · exact h.inG.2.2.2.2.1
  · exact h.inG.2.2.2.2.2
theorem Core.kg (h : Core w G d g cap dl Dl dt Dt T a) {u u' : World} (hk : Kept (· = g) u u') : Kept G u u' := hk.mono fun k _ x => by subst x; exact h.inG.2.1
theorem Core.kd (h : Core w G d g cap dl Dl dt Dt T a) {u u' : World} (hk : Kept (· = d) u u') : Kept G u u' := hk.mono fun k _ x => by subst x; exact h.inG.1

/-- What a call answers; what it makes of the arena. -/
def APost (G : Nat → Prop) (d : Nat) (w : World) (r : Value) (a' : Ar) (e : Ending) (w' : World) : Prop := e = .returned r ∧ ArAt w' G d a' ∧ Kept G w w'

/-! ### used -/
theorem used_nil (k : Int) : Calls Try.prog 31 #[.pointer none, .int .i64 k] w fun e w' => e = .returned (.int .i64 12) ∧ w = w' := by
  go_enter Try.func31, Try.ntmps31
  go_wp2
  go_ret
  exact ⟨rfl, rfl⟩
theorem used_good (h : Big w G d g cap dl Dl dt Dt T a) (hn : a.n ≤ 32) (f : Nat) (hf : f < a.n) (hs : (a.F f).st = 1) :
    Calls Try.prog 31 #[.pointer (some ⟨d, 0, none⟩), .int .i64 (f : Int)] w fun e w' => e = .returned (.int .i64 0) ∧ w = w' := by
  have c0 := h.h0
  have f0 := h.fr.c0 hf
  rw [hs] at f0
  have hfz : (f : Int) < (a.n : Int) := by omega
  have hnz : (a.n : Int) ≤ 32 := by omega
  clear h hs
  go_enter Try.func31, Try.ntmps31
  go_wp2
  go_ret
  exact ⟨rfl, rfl⟩
theorem used_bad (h : ArAt w G d a) (k : Int) (hk : a.used k = false) :
    Calls Try.prog 31 #[.pointer (some ⟨d, 0, none⟩), .int .i64 k] w fun e w' => e = .returned (.int .i64 2) ∧ w = w' := by
  have hn := h.good.n
  by_cases h0 : k < 0
  · clear h hk hn
    go_enter Try.func31, Try.ntmps31
    go_wp2
    go_ret
    exact ⟨rfl, rfl⟩
  · obtain ⟨f, rfl⟩ := Int.eq_ofNat_of_zero_le (show 0 ≤ k by omega)
    rcases h.mem with h' | ⟨g, cap, dl, Dl, dt, Dt, T, h'⟩
    · have c0 := h'.h0
      clear h hk hn h0 h'
      go_enter Try.func31, Try.ntmps31
      go_wp2
      go_ret
      exact ⟨rfl, rfl⟩
    · have c0 := h'.h0
      by_cases hf : f < a.n
      · have f0 := h'.fr.c0 hf
        have hfz : (f : Int) < (a.n : Int) := by omega
        have hnz : (a.n : Int) ≤ 32 := by omega
        have hs : ((a.F f).st == 1) = false := by
          cases e : ((a.F f).st == 1) with
          | false => rfl
          | true => rw [used_iff.2 ⟨f, rfl, hf, by simpa using e⟩] at hk; cases hk
        have hs' : ((a.F f).st != 1) = true := by unfold bne; rw [hs]; rfl
        clear h hk hn h0 h'
        generalize (a.F f).st = st at *
        go_enter Try.func31, Try.ntmps31
        go_wp2
        go_ret
        exact ⟨rfl, rfl⟩
      · have hfz : (a.n : Int) ≤ (f : Int) := by omega
        clear h hk hn h0 h'
        go_enter Try.func31, Try.ntmps31
        go_wp2
        go_ret
        exact ⟨rfl, rfl⟩
end
#print axioms used_bad
end Go.Proofs.Ytcmhkknoffeebaa.ArC
