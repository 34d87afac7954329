/-
  Texts behind the statements of this seat: part 4.
-/
import Derived.Test.YtbnkpnllgoghnaaGreatRows
import Derived.Test.YtbnkpnllgoghnaaGreatQa
import Derived.Test.YtbnkpnllgoghnaaGreatQc
import Derived.Test.YtbnkpnllgoghnaaGreatQb
import Derived.Deep.LoopGhost
import Derived.Deep.Cut
import Derived.Deep.DeepCutAuto
import Derived.Deep.CutBlock
import Derived.Deep.CutRange
import Derived.RegionTactic
import Derived.WalkSpells
import Derived.Laws.ResultCell
set_option linter.unusedVariables false

namespace Go.Proofs.YtbnkpnllgoghnaaGreat.ArC
open Go.ChangeShapes Go.WideShapes Go.ChangeAt Go.RowKit
open Go.Proofs.YtbnkpnllgoghnaaGreat.Mem Go.Proofs.YtbnkpnllgoghnaaGreat.Blk Go.Proofs.YtbnkpnllgoghnaaGreat.Cells Go.Proofs.YtbnkpnllgoghnaaGreat.Orow Go.Proofs.YtbnkpnllgoghnaaGreat.TabM Go.Proofs.YtbnkpnllgoghnaaGreat.ArM Go.Proofs.YtbnkpnllgoghnaaGreat.Stages
/-! ### A frame's cells -/
def fpart (x : Fr) (k : Nat) : Value := if k = 0 then .int .i64 x.st else if k = 1 then .int .i64 x.pg else if k = 2 then .int .i64 x.pn else if k = 3 then .int .i64 0 else .bool x.di
def fcell (F : Nat → Fr) (j : Nat) : Value := fpart (F (j / 5)) (j % 5)
theorem fcell_at (F : Nat → Fr) (p k : Nat) (hk : k < 5) : fcell F (p * 5 + k) = fpart (F p) k := by
  unfold fcell
  rw [show (p * 5 + k) / 5 = p by omega, show (p * 5 + k) % 5 = k by omega]
theorem fcell_0 (F : Nat → Fr) (p : Nat) : fcell F (p * 5) = .int .i64 (F p).st := by
  unfold fcell
  rw [show p * 5 / 5 = p by omega, show p * 5 % 5 = 0 by omega]; rfl
theorem fcell_1 (F : Nat → Fr) (p : Nat) : fcell F (p * 5 + 1) = .int .i64 (F p).pg := fcell_at F p 1 (by omega)
theorem fcell_2 (F : Nat → Fr) (p : Nat) : fcell F (p * 5 + 2) = .int .i64 (F p).pn := fcell_at F p 2 (by omega)
theorem fcell_3 (F : Nat → Fr) (p : Nat) : fcell F (p * 5 + 3) = .int .i64 0 := fcell_at F p 3 (by omega)
theorem fcell_4 (F : Nat → Fr) (p : Nat) : fcell F (p * 5 + 4) = .bool (F p).di := fcell_at F p 4 (by omega)
/-- One part of a frame is another one. -/
theorem fset {F : Nat → Fr} {f k : Nat} {v : Fr} {x : Value} (hk : k < 5) (hx : x = fpart v k) (hs : ∀ q, q < 5 → q ≠ k → fpart v q = fpart (F f) q) (i : Nat) : (if i = f * 5 + k then x else fcell F i) = fcell (upd F f v) i := by
  by_cases e : i = f * 5 + k
  · rw [if_pos e, e, fcell_at _ _ _ hk, upd_same, hx]
  · rw [if_neg e]
    unfold fcell
    by_cases e2 : i / 5 = f
    · rw [e2, upd_same, hs _ (by omega) (by omega)]
    · rw [upd_other _ _ e2]
/-! ### Frames in a block -/
abbrev FR (w : World) (g cap n : Nat) (F : Nat → Fr) : Prop := OR w g 36 5 cap n (fcell F)
section
variable {w : World} {g cap n f : Nat} {F : Nat → Fr} {v : Fr}
theorem FR.c0 (h : FR w g cap n F) (hf : f < n) : w.cell? ⟨g, f * 5, none⟩ = some (.int .i64 (F f).st) := by rw [OR.cell h (by omega), fcell_0]
theorem FR.c1 (h : FR w g cap n F) (hf : f < n) : w.cell? ⟨g, f * 5 + 1, none⟩ = some (.int .i64 (F f).pg) := by rw [OR.cell h (by omega), fcell_1]
theorem FR.c2 (h : FR w g cap n F) (hf : f < n) : w.cell? ⟨g, f * 5 + 2, none⟩ = some (.int .i64 (F f).pn) := by rw [OR.cell h (by omega), fcell_2]
theorem FR.c3 (h : FR w g cap n F) (hf : f < n) : w.cell? ⟨g, f * 5 + 3, none⟩ = some (.int .i64 0) := by rw [OR.cell h (by omega), fcell_3]
theorem FR.c4 (h : FR w g cap n F) (hf : f < n) : w.cell? ⟨g, f * 5 + 4, none⟩ = some (.bool (F f).di) := by rw [OR.cell h (by omega), fcell_4]
theorem four {P : Nat → Prop} (h0 : P 0) (h1 : P 1) (h2 : P 2) (h3 : P 3) (h4 : P 4) (q : Nat) (hq : q < 5) : P q := by
  have : q = 0 ∨ q = 1 ∨ q = 2 ∨ q = 3 ∨ q = 4 := by omega
  rcases this with rfl | rfl | rfl | rfl | rfl
  · exact h0
  · exact h1
  · exact h2
  · exact h3
  · exact h4
theorem FR.set2 (h : FR w g cap n F) (f : Nat) (x : Int) : FR (w.setCell ⟨g, f * 5 + 2, none⟩ (.int .i64 x)) g cap n (upd F f ⟨(F f).st, (F f).pg, x, (F f).di⟩) :=
  (OR.set h (f * 5 + 2) _).congr fun i _ => fset (F := F) (f := f) (k := 2) (v := ⟨(F f).st, (F f).pg, x, (F f).di⟩) (by omega) rfl (fun q hq => four (P := fun q => q ≠ 2 → fpart ⟨(F f).st, (F f).pg, x, (F f).di⟩ q = fpart (F f) q) (fun _ => rfl) (fun _ => rfl) (fun h => absurd rfl h) (fun _ => rfl) (fun _ => rfl) q hq) i
theorem FR.set4 (h : FR w g cap n F) (f : Nat) (x : Bool) : FR (w.setCell ⟨g, f * 5 + 4, none⟩ (.bool x)) g cap n (upd F f ⟨(F f).st, (F f).pg, (F f).pn, x⟩) :=
  (OR.set h (f * 5 + 4) _).congr fun i _ => fset (F := F) (f := f) (k := 4) (v := ⟨(F f).st, (F f).pg, (F f).pn, x⟩) (by omega) rfl (fun q hq => four (P := fun q => q ≠ 4 → fpart ⟨(F f).st, (F f).pg, (F f).pn, x⟩ q = fpart (F f) q) (fun _ => rfl) (fun _ => rfl) (fun _ => rfl) (fun _ => rfl) (fun h => absurd rfl h) q hq) i
/-- A frame stored whole. -/
def setF (w : World) (g f : Nat) (v : Fr) : World :=
  ((((w.setCell ⟨g, f * 5, none⟩ (.int .i64 v.st)).setCell ⟨g, f * 5 + 1, none⟩ (.int .i64 v.pg)).setCell ⟨g, f * 5 + 2, none⟩ (.int .i64 v.pn)).setCell ⟨g, f * 5 + 3, none⟩ (.int .i64 0)).setCell ⟨g, f * 5 + 4, none⟩ (.bool v.di)
theorem FR.setF (h : FR w g cap n F) (f : Nat) (v : Fr) : FR (setF w g f v) g cap n (upd F f v) := by
  refine (((((OR.set h (f * 5) _).set (f * 5 + 1) _).set (f * 5 + 2) _).set (f * 5 + 3) _).set (f * 5 + 4) _).congr fun i _ => ?_
  by_cases e2 : i / 5 = f
  · have : i = f * 5 ∨ i = f * 5 + 1 ∨ i = f * 5 + 2 ∨ i = f * 5 + 3 ∨ i = f * 5 + 4 := by omega
    rcases this with rfl | rfl | rfl | rfl | rfl
    · rw [if_neg (by omega), if_neg (by omega), if_neg (by omega), if_neg (by omega), if_pos rfl, fcell_0, upd_same]
    · rw [if_neg (by omega), if_neg (by omega), if_neg (by omega), if_pos rfl, fcell_1, upd_same]
    · rw [if_neg (by omega), if_neg (by omega), if_pos rfl, fcell_2, upd_same]
    · rw [if_neg (by omega), if_pos rfl, fcell_3]
    · rw [if_pos rfl, fcell_4, upd_same]
  · rw [if_neg (by omega), if_neg (by omega), if_neg (by omega), if_neg (by omega), if_neg (by omega)]
    unfold fcell
    rw [upd_other _ _ e2]
theorem kept_setF (w : World) (g f : Nat) (v : Fr) : Kept (· = g) w (ArC.setF w g f v) :=
  ((((kept_set w g _ _).trans (kept_set _ g _ _)).trans (kept_set _ g _ _)).trans (kept_set _ g _ _)).trans (kept_set _ g _ _)
end
/-! ### An arena in memory -/
def acell (v : Value) (B : Nat → List Int) (pl pt : Value) (j : Nat) : Value := if j = 0 then v else if j ≤ 512 then .int .u8 ((B ((j - 1) / 16)).getD ((j - 1) % 16) 0) else if j = 513 then pl else pt
structure Apart (d g dl Dl dt Dt : Nat) : Prop where
  dg : d ≠ g
  ddl : d ≠ dl
  dDl : d ≠ Dl
  ddt : d ≠ dt
  dDt : d ≠ Dt
  gdl : g ≠ dl
  gDl : g ≠ Dl
  gdt : g ≠ dt
  gDt : g ≠ Dt
  ldt : dl ≠ dt
  lDt : dl ≠ Dt
  Ldt : Dl ≠ dt
  LDt : Dl ≠ Dt
/-- An arena that has frames. -/
structure Big (w : World) (G : Nat → Prop) (d g cap dl Dl dt Dt : Nat) (T : Tb) (a : Ar) : Prop where
  hd : Row w d 515 (acell (.slice (some ⟨g, 0, none⟩) a.n cap) a.B (.pointer (some ⟨dl, 0, none⟩)) (.pointer (some ⟨dt, 0, none⟩)))
  fr : FR w g cap a.n a.F
  li : Rowed.ListAt w dl Dl 32 a.Q
  ta : TabC.TabAt w dt Dt T
  ts : Tabs T a
  ne : Apart d g dl Dl dt Dt
  inG : G d ∧ G g ∧ G dl ∧ G Dl ∧ G dt ∧ G Dt
  pos : 0 < a.n
/-- The same, whatever the table tells. -/
structure Core (w : World) (G : Nat → Prop) (d g cap dl Dl dt Dt : Nat) (T : Tb) (a : Ar) : Prop where
  hd : Row w d 515 (acell (.slice (some ⟨g, 0, none⟩) a.n cap) a.B (.pointer (some ⟨dl, 0, none⟩)) (.pointer (some ⟨dt, 0, none⟩)))
  fr : FR w g cap a.n a.F
  li : Rowed.ListAt w dl Dl 32 a.Q
  ta : TabC.TabAt w dt Dt T
  ne : Apart d g dl Dl dt Dt
  inG : G d ∧ G g ∧ G dl ∧ G Dl ∧ G dt ∧ G Dt
/-- One that has none. -/
structure Nil (w : World) (G : Nat → Prop) (d : Nat) (a : Ar) : Prop where
  hd : Row w d 515 (acell (.slice none 0 0) a.B (.pointer none) (.pointer none))
  inG : G d
  zero : a.n = 0
/-- At block d: the arena a; its blocks lie in G. -/
structure ArAt (w : World) (G : Nat → Prop) (d : Nat) (a : Ar) : Prop where
  good : ArM.Good a
  mem : Nil w G d a ∨ ∃ g cap dl Dl dt Dt T, Big w G d g cap dl Dl dt Dt T a
section
variable {w w' : World} {G H F : Nat → Prop} {d g cap dl Dl dt Dt : Nat} {T : Tb} {a : Ar}
theorem Big.lt (h : Big w G d g cap dl Dl dt Dt T a) : d < w.heap.size ∧ g < w.heap.size ∧ dl < w.heap.size ∧ Dl < w.heap.size ∧ dt < w.heap.size ∧ Dt < w.heap.size :=
  ⟨h.hd.lt, OR.lt h.fr, h.li.lt.1, h.li.lt.2, TabC.Raw.lt h.ta |>.1, TabC.Raw.lt h.ta |>.2⟩
theorem Big.kept (h : Big w G d g cap dl Dl dt Dt T a) (hk : Kept F w w') (hF : ∀ k, G k → ¬ F k) : Big w' G d g cap dl Dl dt Dt T a := by
  obtain ⟨i0, i1, i2, i3, i4, i5⟩ := h.inG
  exact ⟨h.hd.kept hk (hF _ i0), OR.kept h.fr hk (hF _ i1), h.li.kept hk fun k x y => by
      rcases y with rfl | rfl
      · exact hF _ i2 x
      · exact hF _ i3 x, TabC.Raw.kept h.ta hk fun k x y => by
      rcases y with rfl | rfl
      · exact hF _ i4 x
      · exact hF _ i5 x, h.ts, h.ne, h.inG, h.pos⟩
theorem Big.mono (h : Big w G d g cap dl Dl dt Dt T a) (hH : ∀ k, k < w.heap.size → G k → H k) : Big w H d g cap dl Dl dt Dt T a := by
  obtain ⟨i0, i1, i2, i3, i4, i5⟩ := h.inG
  obtain ⟨l0, l1, l2, l3, l4, l5⟩ := h.lt
  exact ⟨h.hd, h.fr, h.li, h.ta, h.ts, h.ne, ⟨hH _ l0 i0, hH _ l1 i1, hH _ l2 i2, hH _ l3 i3, hH _ l4 i4, hH _ l5 i5⟩, h.pos⟩
theorem Nil.kept (h : Nil w G d a) (hk : Kept F w w') (hF : ∀ k, G k → ¬ F k) : Nil w' G d a := ⟨h.hd.kept hk (hF _ h.inG), h.inG, h.zero⟩
theorem ArAt.kept (h : ArAt w G d a) (hk : Kept F w w') (hF : ∀ k, G k → ¬ F k) : ArAt w' G d a := by
  refine ⟨h.good, ?_⟩
  rcases h.mem with h | ⟨g, cap, dl, Dl, dt, Dt, T, h⟩
  · exact .inl (h.kept hk hF)
  · exact .inr ⟨g, cap, dl, Dl, dt, Dt, T, h.kept hk hF⟩
theorem ArAt.grow (h : ArAt w G d a) (hk : Grow w w') : ArAt w' G d a := h.kept hk fun _ _ x => x
theorem ArAt.mono (h : ArAt w G d a) (hH : ∀ k, k < w.heap.size → G k → H k) : ArAt w H d a := by
  refine ⟨h.good, ?_⟩
  rcases h.mem with h | ⟨g, cap, dl, Dl, dt, Dt, T, h⟩
  · exact .inl ⟨h.hd, hH _ h.hd.lt h.inG, h.zero⟩
  · exact .inr ⟨g, cap, dl, Dl, dt, Dt, T, h.mono hH⟩
theorem ArAt.lt (h : ArAt w G d a) : d < w.heap.size ∧ G d := by
  rcases h.mem with h | ⟨g, cap, dl, Dl, dt, Dt, T, h⟩
  · exact ⟨h.hd.lt, h.inG⟩
  · exact ⟨h.hd.lt, h.inG.1⟩
theorem Big.h0 (h : Big w G d g cap dl Dl dt Dt T a) : w.cell? ⟨d, 0, none⟩ = some (.slice (some ⟨g, 0, none⟩) a.n cap) := h.hd.cell (i := 0) (by omega)
theorem Big.h1 (h : Big w G d g cap dl Dl dt Dt T a) : w.cell? ⟨d, 513, none⟩ = some (.pointer (some ⟨dl, 0, none⟩)) := h.hd.cell (i := 513) (by omega)
theorem Big.h2 (h : Big w G d g cap dl Dl dt Dt T a) : w.cell? ⟨d, 514, none⟩ = some (.pointer (some ⟨dt, 0, none⟩)) := h.hd.cell (i := 514) (by omega)
theorem Nil.h0 (h : Nil w G d a) : w.cell? ⟨d, 0, none⟩ = some (.slice none 0 0) := h.hd.cell (i := 0) (by omega)
theorem Nil.h1 (h : Nil w G d a) : w.cell? ⟨d, 513, none⟩ = some (.pointer none) := h.hd.cell (i := 513) (by omega)
theorem Nil.h2 (h : Nil w G d a) : w.cell? ⟨d, 514, none⟩ = some (.pointer none) := h.hd.cell (i := 514) (by omega)
theorem Big.core (h : Big w G d g cap dl Dl dt Dt T a) : Core w G d g cap dl Dl dt Dt T a := ⟨h.hd, h.fr, h.li, h.ta, h.ne, h.inG⟩
theorem Core.big (h : Core w G d g cap dl Dl dt Dt T a) (hs : Tabs T a) (hp : 0 < a.n) : Big w G d g cap dl Dl dt Dt T a := ⟨h.hd, h.fr, h.li, h.ta, hs, h.ne, h.inG, hp⟩
theorem Core.h0 (h : Core w G d g cap dl Dl dt Dt T a) : w.cell? ⟨d, 0, none⟩ = some (.slice (some ⟨g, 0, none⟩) a.n cap) := h.hd.cell (i := 0) (by omega)
theorem Core.h1 (h : Core w G d g cap dl Dl dt Dt T a) : w.cell? ⟨d, 513, none⟩ = some (.pointer (some ⟨dl, 0, none⟩)) := h.hd.cell (i := 513) (by omega)
theorem Core.h2 (h : Core w G d g cap dl Dl dt Dt T a) : w.cell? ⟨d, 514, none⟩ = some (.pointer (some ⟨dt, 0, none⟩)) := h.hd.cell (i := 514) (by omega)
theorem Core.lst {Q' : List Nat} (h : Core w G d g cap dl Dl dt Dt T a) (hl : Rowed.ListAt w' dl Dl 32 Q') (hk : Kept (Rowed.Own dl Dl) w w') : Core w' G d g cap dl Dl dt Dt T ⟨a.n, a.F, a.B, Q'⟩ := by
  refine ⟨h.hd.kept hk fun x => ?_, OR.kept h.fr hk fun x => ?_, hl, TabC.Raw.kept h.ta hk fun k x y => ?_, h.ne, h.inG⟩
  · rcases x with x | x
    · exact h.ne.ddl x
    · exact h.ne.dDl x
  · rcases x with x | x
    · exact h.ne.gdl x
    · exact h.ne.gDl x
  · rcases x with rfl | rfl
    · rcases y with y | y
      · exact h.ne.ldt y
      · exact h.ne.lDt y
    · rcases y with y | y
      · exact h.ne.Ldt y
      · exact h.ne.LDt y
theorem Core.tab {T' : Tb} (h : Core w G d g cap dl Dl dt Dt T a) (ht : TabC.TabAt w' dt Dt T') (hk : Kept (TabC.Own dt Dt) w w') : Core w' G d g cap dl Dl dt Dt T' a := by
  refine ⟨h.hd.kept hk fun x => ?_, OR.kept h.fr hk fun x => ?_, h.li.kept hk fun k x y => ?_, ht, h.ne, h.inG⟩
  · rcases x with x | x
    · exact h.ne.ddt x
    · exact h.ne.dDt x
  · rcases x with x | x
    · exact h.ne.gdt x
    · exact h.ne.gDt x
  · rcases x with rfl | rfl
    · rcases y with y | y
      · exact h.ne.ldt y.symm
      · exact h.ne.Ldt y.symm
    · rcases y with y | y
      · exact h.ne.lDt y.symm
      · exact h.ne.LDt y.symm
theorem Core.frm {F' : Nat → Fr} (h : Core w G d g cap dl Dl dt Dt T a) (hf : FR w' g cap a.n F') (hk : Kept (· = g) w w') : Core w' G d g cap dl Dl dt Dt T ⟨a.n, F', a.B, a.Q⟩ := by
  refine ⟨h.hd.kept hk h.ne.dg, hf, h.li.kept hk fun k x y => ?_, TabC.Raw.kept h.ta hk fun k x y => ?_, h.ne, h.inG⟩
  · subst x
    rcases y with y | y
    · exact h.ne.gdl y
    · exact h.ne.gDl y
  · subst x
    rcases y with y | y
    · exact h.ne.gdt y
    · exact h.ne.gDt y
theorem Core.hdr {B' : Nat → List Int} (h : Core w G d g cap dl Dl dt Dt T a) (hf : Row w' d 515 (acell (.slice (some ⟨g, 0, none⟩) a.n cap) B' (.pointer (some ⟨dl, 0, none⟩)) (.pointer (some ⟨dt, 0, none⟩)))) (hk : Kept (· = d) w w') : Core w' G d g cap dl Dl dt Dt T ⟨a.n, a.F, B', a.Q⟩ := by
  refine ⟨hf, OR.kept h.fr hk h.ne.dg.symm, h.li.kept hk fun k x y => ?_, TabC.Raw.kept h.ta hk fun k x y => ?_, h.ne, h.inG⟩
  · subst x
    rcases y with y | y
    · exact h.ne.ddl y
    · exact h.ne.dDl y
  · subst x
    rcases y with y | y
    · exact h.ne.ddt y
    · exact h.ne.dDt y
theorem Core.kl (h : Core w G d g cap dl Dl dt Dt T a) {u u' : World} (hk : Kept (Rowed.Own dl Dl) u u') : Kept G u u' := hk.mono fun k _ x => by
  rcases x with rfl | rfl
  · exact h.inG.2.2.1
  · exact h.inG.2.2.2.1
theorem Core.kt (h : Core w G d g cap dl Dl dt Dt T a) {u u' : World} (hk : Kept (TabC.Own dt Dt) u u') : Kept G u u' := hk.mono fun k _ x => by
  rcases x with rfl | rfl
  · exact h.inG.2.2.2.2.1
  · exact h.inG.2.2.2.2.2
theorem Core.kg (h : Core w G d g cap dl Dl dt Dt T a) {u u' : World} (hk : Kept (· = g) u u') : Kept G u u' := hk.mono fun k _ x => by subst x; exact h.inG.2.1
theorem Core.kd (h : Core w G d g cap dl Dl dt Dt T a) {u u' : World} (hk : Kept (· = d) u u') : Kept G u u' := hk.mono fun k _ x => by subst x; exact h.inG.1
/-- What a call answers; what it makes of the arena. -/
def APost (G : Nat → Prop) (d : Nat) (w : World) (r : Value) (a' : Ar) (e : Ending) (w' : World) : Prop := e = .returned r ∧ ArAt w' G d a' ∧ Kept G w w'
/-! ### used -/
theorem used_good (h : Big w G d g cap dl Dl dt Dt T a) (hn : a.n ≤ 32) (f : Nat) (hf : f < a.n) (hs : (a.F f).st = 1) :
    Calls Tryz.prog 148 #[.pointer (some ⟨d, 0, none⟩), .int .i64 (f : Int)] w fun e w' => e = .returned (.int .i64 0) ∧ w = w' := by
  have c0 := h.h0
  have f0 := h.fr.c0 hf
  rw [hs] at f0
  have hfz : (f : Int) < (a.n : Int) := by omega
  have hnz : (a.n : Int) ≤ 32 := by omega
  clear h hs
  go_enter Tryz.func148, Tryz.ntmps148
  go_wp2
  go_ret
  exact ⟨rfl, rfl⟩
theorem used_bad (h : ArAt w G d a) (k : Int) (hk : a.used k = false) :
    Calls Tryz.prog 148 #[.pointer (some ⟨d, 0, none⟩), .int .i64 k] w fun e w' => e = .returned (.int .i64 2) ∧ w = w' := by
  have hn := h.good.n
  by_cases h0 : k < 0
  · clear h hk hn
    go_enter Tryz.func148, Tryz.ntmps148
    go_wp2
    go_ret
    exact ⟨rfl, rfl⟩
  · obtain ⟨f, rfl⟩ := Int.eq_ofNat_of_zero_le (show 0 ≤ k by omega)
    rcases h.mem with h' | ⟨g, cap, dl, Dl, dt, Dt, T, h'⟩
    · have c0 := h'.h0
      clear h hk hn h0 h'
      go_enter Tryz.func148, Tryz.ntmps148
      go_wp2
      go_ret
      exact ⟨rfl, rfl⟩
    · have c0 := h'.h0
      by_cases hf : f < a.n
      · have f0 := h'.fr.c0 hf
        have hfz : (f : Int) < (a.n : Int) := by omega
        have hnz : (a.n : Int) ≤ 32 := by omega
        have hs : ((a.F f).st == 1) = false := by
          cases e : ((a.F f).st == 1) with
          | false => rfl
          | true => rw [used_iff.2 ⟨f, rfl, hf, by simpa using e⟩] at hk; cases hk
        have hs' : ((a.F f).st != 1) = true := by unfold bne; rw [hs]; rfl
        clear h hk hn h0 h'
        generalize (a.F f).st = st at *
        go_enter Tryz.func148, Tryz.ntmps148
        go_wp2
        go_ret
        exact ⟨rfl, rfl⟩
      · have hfz : (a.n : Int) ≤ (f : Int) := by omega
        clear h hk hn h0 h'
        go_enter Tryz.func148, Tryz.ntmps148
        go_wp2
        go_ret
        exact ⟨rfl, rfl⟩
end
end Go.Proofs.YtbnkpnllgoghnaaGreat.ArC

namespace Go.Proofs.YtbnkpnllgoghnaaGreat.ArRefC
open Go.ChangeShapes Go.WideShapes Go.ChangeAt Go.RowKit
open Go.Proofs.YtbnkpnllgoghnaaGreat.Mem Go.Proofs.YtbnkpnllgoghnaaGreat.Blk Go.Proofs.YtbnkpnllgoghnaaGreat.Cells Go.Proofs.YtbnkpnllgoghnaaGreat.Orow Go.Proofs.YtbnkpnllgoghnaaGreat.TabM Go.Proofs.YtbnkpnllgoghnaaGreat.ArM Go.Proofs.YtbnkpnllgoghnaaGreat.ArC Go.Proofs.YtbnkpnllgoghnaaGreat.Stages
open Go.Proofs.YtbnkpnllgoghnaaGreat.ListM (ints ints_len ints_get)
def rcell (vL vB vQ : Value) (j : Nat) : Value := if j = 0 then vL else if j = 1 then vB else vQ
def scell (S : Nat → List Int) (j : Nat) : Value := .string (strOfNums (S j))
/-- At block m: the document's arena a; S: its strings. -/
structure RMem (w : World) (G : Nat → Prop) (m : Nat) (vL vB : Value) (A : Option Addr) (c : Nat) (S : Nat → List Int) (a : Ar) : Prop where
  hd : Row w m 3 (rcell vL vB (.slice A a.Q.length c))
  fr : OS w (fun k => G k ∧ k ≠ m ∧ vB.ownBlock ≠ some k) vL 36 5 a.n (fcell a.F)
  bo : OS w (fun k => G k ∧ k ≠ m) vB 9 1 a.n (scell S)
  sb : ∀ x, x < a.n → (a.F x).st = 1 → S x = a.B x
  id : Sl w w.heap.size .i64 A a.Q.length (ints a.Q)
  cc : a.Q.length ≤ c ∧ c ≤ maxLen
  off : ∀ x, A = some x → G x.block ∧ x.block ≠ m ∧ vL.ownBlock ≠ some x.block ∧ vB.ownBlock ≠ some x.block
  inG : G m
  lt : ∀ x, A = some x → x.block < w.heap.size
structure RAt (w : World) (G : Nat → Prop) (m : Nat) (a : Ar) : Prop where
  good : ArM.Good a
  mem : ∃ vL vB A c S, RMem w G m vL vB A c S a
theorem sl_at {F : Nat → Prop} {w w' : World} {B n : Nat} {k : IntKind} {A : Option Addr} {zs : List Int} (h : Sl w B k A n zs) (hk : Kept F w w') (hA : ∀ x, A = some x → ¬ F x.block) : Sl w' w'.heap.size k A n zs :=
  ⟨h.1, fun hn => by
    obtain ⟨b, off, rfl, hb, hc⟩ := h.2 hn
    have h1 := hk.cellN (hc 0 hn) (hA ⟨b, off, none⟩ rfl)
    exact ⟨b, off, rfl, block_lt_of_cell h1, fun j hj => hk.cellN (hc j hj) (hA ⟨b, off, none⟩ rfl)⟩⟩
theorem os_sl {w : World} {G : Nat → Prop} {v : Value} {t : TypeId} {s n : Nat} {f : Nat → Value} (h : OS w G v t s n f) : ∃ A c, v = .slice A n c ∧ (0 < n → ∃ g, A = some ⟨g, 0, none⟩ ∧ OR w g t s c n f) := by
  rcases h with ⟨e, h0⟩ | ⟨g, c, e, ho, _⟩
  · exact ⟨none, 0, by rw [e, h0], fun h => by omega⟩
  · exact ⟨_, c, e, fun _ => ⟨g, rfl, ho⟩⟩
section
variable {w w' : World} {G H F : Nat → Prop} {m c g cap : Nat} {vL vB : Value} {A : Option Addr} {S : Nat → List Int} {a : Ar}
theorem RMem.kept (h : RMem w G m vL vB A c S a) (hk : Kept F w w') (hF : ∀ k, G k → ¬ F k) : RMem w' G m vL vB A c S a :=
  ⟨h.hd.kept hk (hF _ h.inG), h.fr.kept hk fun k x => hF k x.1, h.bo.kept hk fun k x => hF k x.1, h.sb, sl_at h.id hk fun x e => hF _ (h.off x e).1, h.cc, h.off, h.inG, fun x e => Nat.lt_of_lt_of_le (h.lt x e) hk.size⟩
theorem os_mono {v : Value} {t : TypeId} {s n : Nat} {f : Nat → Value} {P Q : Nat → Prop} (h : OS w P v t s n f) (hH : ∀ k, k < w.heap.size → P k → Q k) : OS w Q v t s n f := by
  rcases h with h | ⟨g, c, e, ho, hg⟩
  · exact .inl h
  · exact .inr ⟨g, c, e, ho, hH g ho.lt hg⟩
theorem RAt.kept (h : RAt w G m a) (hk : Kept F w w') (hF : ∀ k, G k → ¬ F k) : RAt w' G m a := by
  obtain ⟨vL, vB, A, c, S, h'⟩ := h.mem
  exact ⟨h.good, vL, vB, A, c, S, h'.kept hk hF⟩
theorem RAt.grow (h : RAt w G m a) (hk : Grow w w') : RAt w' G m a := h.kept hk fun _ _ x => x
theorem RAt.lt (h : RAt w G m a) : m < w.heap.size ∧ G m := by
  obtain ⟨vL, vB, A, c, S, h'⟩ := h.mem
  exact ⟨h'.hd.lt, h'.inG⟩
theorem RMem.c0 (h : RMem w G m vL vB A c S a) : w.cell? ⟨m, 0, none⟩ = some vL := h.hd.cell (i := 0) (by omega)
theorem RMem.c1 (h : RMem w G m vL vB A c S a) : w.cell? ⟨m, 1, none⟩ = some vB := h.hd.cell (i := 1) (by omega)
theorem RMem.c2 (h : RMem w G m vL vB A c S a) : w.cell? ⟨m, 2, none⟩ = some (.slice A a.Q.length c) := h.hd.cell (i := 2) (by omega)
/-- Frames that are turned in their block. -/
theorem RMem.frm {F' : Nat → Fr} (h : RMem w G m (.slice (some ⟨g, 0, none⟩) a.n cap) vB A c S a) (hf : FR w' g cap a.n F') (hk : Kept (· = g) w w') (hs : ∀ x, x < a.n → (F' x).st = 1 → S x = a.B x) : RMem w' G m (.slice (some ⟨g, 0, none⟩) a.n cap) vB A c S ⟨a.n, F', a.B, a.Q⟩ := by
  have hb : G g ∧ g ≠ m ∧ vB.ownBlock ≠ some g := by
    rcases h.fr with ⟨e, _⟩ | ⟨g', c', e, _, hb⟩
    · cases e
    · injection e with e1
      injection e1 with e1
      injection e1 with e1
      subst e1
      exact hb
  refine ⟨h.hd.kept hk hb.2.1.symm, .inr ⟨g, cap, rfl, hf, hb⟩, ?_, hs, sl_at h.id hk fun x e x2 => (h.off x e).2.2.1 (by rw [← x2]; rfl), h.cc, h.off, h.inG, fun x e => Nat.lt_of_lt_of_le (h.lt x e) hk.size⟩
  rcases h.bo with h' | ⟨g', c', e, ho, hb'⟩
  · exact .inl h'
  · exact .inr ⟨g', c', e, ho.kept hk fun x => hb.2.2 (by rw [e, ← x]; rfl), hb'⟩
theorem RAt.form (h : RAt w G m a) (hn : 0 < a.n) : ∃ g cap vB A c S, RMem w G m (.slice (some ⟨g, 0, none⟩) a.n cap) vB A c S a ∧ FR w g cap a.n a.F ∧ G g := by
  obtain ⟨vL, vB, A, c, S, h'⟩ := h.mem
  obtain ⟨g, cap, rfl, hf, hg⟩ := h'.fr.form hn
  exact ⟨g, cap, vB, A, c, S, h', hf, hg.1⟩
def RPost (G : Nat → Prop) (m : Nat) (w : World) (r : Value) (a' : Ar) (e : Ending) (w' : World) : Prop := e = .returned r ∧ RAt w' G m a' ∧ Kept G w w'
/-! ### used, Find -/
/-! ### Pin, Unpin, Mark -/
theorem RAt.turn {f : Nat} {v : Fr} (h : RAt w G m a) (hg : ArM.Good (a.turn f v)) (hM : RMem w G m (.slice (some ⟨g, 0, none⟩) a.n cap) vB A c S a) (hs : (a.F f).st = 1) (hf : f < a.n) (hfr : FR w' g cap a.n (upd a.F f v)) (hk : Kept (· = g) w w') : RAt w' G m (a.turn f v) := by
  refine ⟨hg, _, vB, A, c, S, hM.frm hfr hk fun x hx hx1 => hM.sb x hx ?_⟩
  by_cases e : x = f
  · subst e; exact hs
  · rw [upd_other _ _ e] at hx1; exact hx1
/-! ### Retire -/
/-- A shorter queue, laid into the head. -/
theorem RMem.cut {q : List Nat} {f : Nat} (h : RMem w G m vL vB A c S a) (hq : a.Q = f :: q) : ∃ A', (if c = 1 then A else A.map (·.add 1)) = A' ∧ RMem (w.setCell ⟨m, 2, none⟩ (.slice A' q.length (c - 1))) G m vL vB A' (c - 1) S ⟨a.n, a.F, a.B, q⟩ := by
  refine ⟨_, rfl, ?_⟩
  have hk := kept_set w m 2 (.slice (if c = 1 then A else A.map (·.add 1)) q.length (c - 1))
  have hid := h.id
  have hcc := h.cc
  have hl : a.Q.length = q.length + 1 := by rw [hq]; rfl
  rw [hl] at hid hcc
  have hcut := Sl.cut hid (m := 1) (cap := c) (by omega) hcc.1
  rw [show q.length + 1 - 1 = q.length by omega, show (ints a.Q).drop 1 = ints q by rw [hq]; rfl] at hcut
  have hoff : ∀ x, (if c = 1 then A else A.map (·.add 1)) = some x → (G x.block ∧ x.block ≠ m ∧ vL.ownBlock ≠ some x.block ∧ vB.ownBlock ≠ some x.block) ∧ x.block < w.heap.size := fun x hx => by
    split at hx
    · exact ⟨h.off x hx, h.lt x hx⟩
    · cases A with
      | none => cases hx
      | some y =>
        injection hx with hx
        have e : x.block = y.block := by rw [← hx]; unfold Addr.add; split <;> rfl
        rw [e]
        exact ⟨h.off y rfl, h.lt y rfl⟩
  refine ⟨(h.hd.set 2 _).congr fun i hi => ?_, h.fr.kept hk fun k x y => x.2.1 y, h.bo.kept hk fun k x y => x.2 y, h.sb, sl_at hcut hk fun x e y => (hoff x e).1.2.1 y, by show q.length ≤ _ ∧ _ ≤ _; omega, fun x hx => (hoff x hx).1, h.inG, fun x hx => Nat.lt_of_lt_of_le (hoff x hx).2 hk.size⟩
  have : i = 0 ∨ i = 1 ∨ i = 2 := by omega
  rcases this with rfl | rfl | rfl <;> rfl
end
end Go.Proofs.YtbnkpnllgoghnaaGreat.ArRefC

namespace Go.Proofs.YtbnkpnllgoghnaaGreat.GrC
open Go.ChangeShapes Go.WideShapes Go.ChangeAt Go.RowKit
open Go.Proofs.YtbnkpnllgoghnaaGreat.Mem Go.Proofs.YtbnkpnllgoghnaaGreat.Blk Go.Proofs.YtbnkpnllgoghnaaGreat.Cells Go.Proofs.YtbnkpnllgoghnaaGreat.Orow
theorem infoS : (Tryz.prog.info? 33).map (fun i => (i.zero, i.size, i.bytes)) = some (some (.slice none 0 0), 1, 24) := by kernel_rfl
def hcell (f : Nat → Int) (j : Nat) : Value := .int .i64 (f j)
def scell (q cp : Nat → Nat) (i : Nat) : Value := .slice (some ⟨q i, 0, none⟩) 6 (cp i)
structure Gr (w : World) (G : Nat → Prop) (v : Value) (n : Nat) (q cp : Nat → Nat) (H : Nat → Nat → Int) : Prop where
  out : OS w G v 33 1 n (scell q cp)
  row : ∀ i, i < n → OR w (q i) 3 1 (cp i) 6 (hcell (H i))
  inG : ∀ i, i < n → G (q i)
  off : ∀ i, i < n → v.ownBlock ≠ some (q i)
  ne : ∀ i j, i < n → j < n → q i = q j → i = j
section
variable {w w' : World} {G F X : Nat → Prop} {v : Value} {n d b cb c r g cap vb : Nat} {q cp : Nat → Nat} {H : Nat → Nat → Int} {f : Nat → Int}
theorem os_mono {t : TypeId} {s : Nat} {f : Nat → Value} (h : OS w G v t s n f) (hX : ∀ k, k < w.heap.size → G k → X k) : OS w X v t s n f := by
  rcases h with h | ⟨g, cap, e, ho, hg⟩
  · exact .inl h
  · exact .inr ⟨g, cap, e, ho, hX _ ho.lt hg⟩
theorem os_in {t : TypeId} {s : Nat} {f : Nat → Value} (h : OS w G v t s n f) {k : Nat} (hk : v.ownBlock = some k) : G k ∧ k < w.heap.size := h.own.2 k hk
theorem Gr.kept (h : Gr w G v n q cp H) (hk : Kept F w w') (hF : ∀ k, G k → ¬ F k) : Gr w' G v n q cp H :=
  ⟨h.out.kept hk hF, fun i hi => (h.row i hi).kept hk (hF _ (h.inG i hi)), h.inG, h.off, h.ne⟩
theorem Gr.keep (h : Gr w G v n q cp H) (hk : Kept F w w') (h1 : ∀ k, v.ownBlock = some k → ¬ F k) (h2 : ∀ i, i < n → ¬ F (q i)) : Gr w' G v n q cp H := by
  refine ⟨?_, fun i hi => (h.row i hi).kept hk (h2 i hi), h.inG, h.off, h.ne⟩
  rcases h.out with x | ⟨g, cap, rfl, ho, hg⟩
  · exact .inl x
  · exact .inr ⟨g, cap, rfl, ho.kept hk (h1 g rfl), hg⟩
theorem Gr.mono (h : Gr w G v n q cp H) (hX : ∀ k, k < w.heap.size → G k → X k) : Gr w X v n q cp H :=
  ⟨os_mono h.out hX, h.row, fun i hi => hX _ (h.row i hi).lt (h.inG i hi), h.off, h.ne⟩
theorem Gr.get (h : Gr w G v n q cp H) {i : Nat} (hi : i < n) : ∃ g cap, v = .slice (some ⟨g, 0, none⟩) n cap ∧ w.cell? ⟨g, i, none⟩ = some (.slice (some ⟨q i, 0, none⟩) 6 (cp i)) ∧ OR w (q i) 3 1 (cp i) 6 (hcell (H i)) := by
  obtain ⟨g, cap, rfl, ho, _⟩ := h.out.form (by omega)
  exact ⟨g, cap, rfl, ho.cell (by omega), h.row i hi⟩
theorem hcell_get (h : OR w b 3 1 c 6 (hcell f)) {j : Nat} (hj : j < 6) : w.cell? ⟨b, j, none⟩ = some (.int .i64 (f j)) := h.cell (by omega)
def up (q : Nat → Nat) (n r : Nat) (i : Nat) : Nat := if i = n then r else q i
theorem up_same : up q n r n = r := if_pos rfl
theorem up_other {i : Nat} (h : i < n) : up q n r i = q i := if_neg (by omega)
/-- The slice of a row that is to come. -/
def rcell (r c : Nat) (_ : Nat) : Value := .slice (some ⟨r, 0, none⟩) 6 c
theorem Gr.app (h : Gr w G v n q cp H) (hn : n ≤ 1000) (hx : w.cell? ⟨vb, 0, none⟩ = some (.slice (some ⟨r, 0, none⟩) 6 c)) :
    ∃ g cap w', (∀ ty, (Builtin.append_ #[48, 48] ty #[v, .slice (some ⟨vb, 0, none⟩) 1 1]).run Tryz.prog w = .ok (.slice (some ⟨g, 0, none⟩) (n + 1) cap) w') ∧ OR w' g 33 1 cap (n + 1) (joined (scell q cp) (rcell r c) (n * 1)) ∧ Kept (fun k => v.ownBlock = some k) w w' ∧ (v.ownBlock = some g ∨ g = w.heap.size) := by
  obtain ⟨i, hi, hz, hs, hb⟩ := info_parts infoS
  obtain ⟨g, cap, w', h1, h2, h3, h4⟩ := append_or (P := Tryz.prog) 48 3 i _ 24 Tryz.underlying48 hi hz hs hb rfl (by omega) h.out (by omega) (by omega) vb 1 (u := rcell r c) (fun j hj => by
    have : j = 0 := by omega
    subst this
    exact hx) (fun j hj => rfl)
  exact ⟨g, cap, w', fun ty => h1, h2, h3, h4⟩
theorem Gr.push (h : Gr w G v n q cp H) (hr : OR w r 3 1 c 6 (hcell (H n))) (hG : G r) (hnr : ∀ i, i < n → q i ≠ r) (hvr : v.ownBlock ≠ some r)
    (ho : OR w' g 33 1 cap (n + 1) (joined (scell q cp) (rcell r c) (n * 1))) (hk : Kept (fun k => v.ownBlock = some k) w w') (hg : v.ownBlock = some g ∨ g = w.heap.size) (hnew : ∀ k, w.heap.size ≤ k → G k) :
    Gr w' G (.slice (some ⟨g, 0, none⟩) (n + 1) cap) (n + 1) (up q n r) (up cp n c) H := by
  have hgG : G g := by
    rcases hg with e | e
    · exact (os_in h.out e).1
    · exact hnew _ (by omega)
  have hgr : g ≠ r := by
    rcases hg with e | e
    · rintro rfl; exact hvr e
    · have := hr.lt; omega
  refine ⟨.inr ⟨g, cap, rfl, ho.congr fun i hi => ?_, hgG⟩, fun i hi => ?_, fun i hi => ?_, fun i hi => ?_, fun i j hi hj e => ?_⟩
  · unfold joined
    by_cases e : i < n
    · rw [if_pos (by omega)]
      unfold scell
      rw [up_other e, up_other e]
    · have : i = n := by omega
      subst this
      rw [if_neg (by omega)]
      unfold scell
      rw [up_same, up_same]; rfl
  · by_cases e : i < n
    · rw [up_other e, up_other e]
      exact (h.row i e).kept hk (h.off i e)
    · have : i = n := by omega
      subst this
      rw [up_same, up_same]
      exact hr.kept hk hvr
  · by_cases e : i < n
    · rw [up_other e]; exact h.inG i e
    · have : i = n := by omega
      subst this
      rw [up_same]; exact hG
  · show some g ≠ some (up q n r i)
    rintro e2
    injection e2 with e2
    by_cases e : i < n
    · rw [up_other e] at e2
      rcases hg with x | x
      · exact h.off i e (e2 ▸ x)
      · have := (h.row i e).lt; omega
    · have : i = n := by omega
      subst this
      rw [up_same] at e2
      exact hgr e2
  · by_cases e1 : i < n
    · by_cases e2 : j < n
      · rw [up_other e1, up_other e2] at e
        exact h.ne i j e1 e2 e
      · have : j = n := by omega
        subst this
        rw [up_other e1, up_same] at e
        exact absurd e (hnr i e1)
    · have : i = n := by omega
      subst this
      by_cases e2 : j < i
      · rw [up_other e2, up_same] at e
        exact absurd e.symm (hnr j e2)
      · omega
theorem gr_nil (w : World) (G : Nat → Prop) (q cp : Nat → Nat) (H : Nat → Nat → Int) : Gr w G (.slice none 0 0) 0 q cp H :=
  ⟨.inl ⟨rfl, rfl⟩, fun i hi => absurd hi (Nat.not_lt_zero i), fun i hi => absurd hi (Nat.not_lt_zero i), fun i hi => absurd hi (Nat.not_lt_zero i), fun i _ hi => absurd hi (Nat.not_lt_zero i)⟩
/-- Six numbers, as a list. -/
def six (f : Nat → Int) : List Int := (List.range 6).map f
theorem six_get (f : Nat → Int) {j : Nat} (hj : j < 6) : (six f).getD j 0 = f j := by
  unfold six
  simp [List.getD_eq_getElem?_getD, hj]
theorem six_sl (h : OR w b 3 1 c 6 (hcell f)) : Sl w w.heap.size .i64 (some ⟨b, 0, none⟩) 6 (six f) :=
  ⟨by unfold six; simp, fun _ => ⟨b, 0, rfl, h.lt, fun j hj => by rw [Nat.zero_add, hcell_get h hj, six_get f hj]⟩⟩
end
end Go.Proofs.YtbnkpnllgoghnaaGreat.GrC

namespace Go.Proofs.YtbnkpnllgoghnaaGreat.MdC
open Go.ChangeShapes Go.WideShapes Go.ChangeAt Go.RowKit
open Go.Proofs.YtbnkpnllgoghnaaGreat.Mem Go.Proofs.YtbnkpnllgoghnaaGreat.Blk Go.Proofs.YtbnkpnllgoghnaaGreat.Cells Go.Proofs.YtbnkpnllgoghnaaGreat.Orow Go.Proofs.YtbnkpnllgoghnaaGreat.GrC Go.Proofs.YtbnkpnllgoghnaaGreat.MdM Go.Proofs.YtbnkpnllgoghnaaGreat.Stages
open Go.Proofs.YtbnkpnllgoghnaaGreat.HdM (lst hnd cnt sum lst_eq hnd_at hnd_none hnd_cases cnt_yes cnt_no cnt_le sum_le)
def tcell (T : Nat → Bool) (i : Nat) : Value := .bool (T i)
def bcell (B : Nat → List Int) (i : Nat) : Value := .string (strOfNums (B i))
/-- Three slices of the call's own, apart, in blocks of G. -/
structure SM (w : World) (G : Nat → Prop) (gT cT gB cB gH cH : Nat) (q cp : Nat → Nat) (a : Md) : Prop where
  tb : OR w gT 4 1 cT a.n (tcell a.T)
  bb : OR w gB 9 1 cB a.n (bcell a.B)
  hb : OR w gH 33 1 cH a.N (scell q cp)
  rb : ∀ i, i < a.N → OR w (q i) 3 1 (cp i) 6 (hcell (a.H i))
  inj : ∀ i j, i < a.N → j < a.N → q i = q j → i = j
  ne : gT ≠ gB ∧ gT ≠ gH ∧ gB ≠ gH
  nq : ∀ i, i < a.N → q i ≠ gT ∧ q i ≠ gB ∧ q i ≠ gH
  inG : G gT ∧ G gB ∧ G gH
  qG : ∀ i, i < a.N → G (q i)
abbrev sval (gT cT gB cB gH cH : Nat) (a : Md) : Value := .agg #[.slice (some ⟨gT, 0, none⟩) a.n cT, .slice (some ⟨gB, 0, none⟩) a.n cB, .slice (some ⟨gH, 0, none⟩) a.N cH]
/-- The value v is the state a; its blocks lie in G. -/
structure SAt (w : World) (G : Nat → Prop) (v : Value) (a : Md) : Prop where
  good : MdM.Good a
  mem : ∃ gT cT gB cB gH cH q cp, v = sval gT cT gB cB gH cH a ∧ SM w G gT cT gB cB gH cH q cp a
section
variable {w w' : World} {G F X : Nat → Prop} {v : Value} {gT cT gB cB gH cH : Nat} {q cp : Nat → Nat} {a : Md}
theorem SM.kept (h : SM w G gT cT gB cB gH cH q cp a) (hk : Kept F w w') (hF : ∀ k, G k → ¬ F k) : SM w' G gT cT gB cB gH cH q cp a :=
  ⟨h.tb.kept hk (hF _ h.inG.1), h.bb.kept hk (hF _ h.inG.2.1), h.hb.kept hk (hF _ h.inG.2.2), fun i hi => (h.rb i hi).kept hk (hF _ (h.qG i hi)), h.inj, h.ne, h.nq, h.inG, h.qG⟩
theorem SM.mono (h : SM w G gT cT gB cB gH cH q cp a) (hX : ∀ k, k < w.heap.size → G k → X k) : SM w X gT cT gB cB gH cH q cp a :=
  ⟨h.tb, h.bb, h.hb, h.rb, h.inj, h.ne, h.nq, ⟨hX _ h.tb.lt h.inG.1, hX _ h.bb.lt h.inG.2.1, hX _ h.hb.lt h.inG.2.2⟩, fun i hi => hX _ (h.rb i hi).lt (h.qG i hi)⟩
theorem SAt.kept (h : SAt w G v a) (hk : Kept F w w') (hF : ∀ k, G k → ¬ F k) : SAt w' G v a := by
  obtain ⟨gT, cT, gB, cB, gH, cH, q, cp, e, hm⟩ := h.mem
  exact ⟨h.good, gT, cT, gB, cB, gH, cH, q, cp, e, hm.kept hk hF⟩
theorem SAt.grow (h : SAt w G v a) (hk : Grow w w') : SAt w' G v a := h.kept hk fun _ _ x => x
theorem SAt.mono (h : SAt w G v a) (hX : ∀ k, k < w.heap.size → G k → X k) : SAt w X v a := by
  obtain ⟨gT, cT, gB, cB, gH, cH, q, cp, e, hm⟩ := h.mem
  exact ⟨h.good, gT, cT, gB, cB, gH, cH, q, cp, e, hm.mono hX⟩
/-- One handle has another page. -/
theorem SM.putH (h : SM w G gT cT gB cB gH cH q cp a) {c : Nat} (hc : c < a.N) (j : Nat) (p : Int) : SM (w.setCell ⟨q c, j, none⟩ (.int .i64 p)) G gT cT gB cB gH cH q cp (a.putH c j p) := by
  obtain ⟨n1, n2, n3⟩ := h.nq c hc
  refine ⟨h.tb.other (p := ⟨q c, j, none⟩) n1.symm _, h.bb.other (p := ⟨q c, j, none⟩) n2.symm _, h.hb.other (p := ⟨q c, j, none⟩) n3.symm _, fun i hi => ?_, h.inj, h.ne, h.nq, h.inG, h.qG⟩
  have hi : i < a.N := hi
  by_cases e : i = c
  · subst e
    refine ((h.rb i hi).set j _).congr fun y hy => ?_
    show (if y = j then Value.int .i64 p else .int .i64 (a.H i y)) = .int .i64 (if i = i ∧ y = j then p else a.H i y)
    by_cases e2 : y = j
    · rw [if_pos e2, if_pos ⟨rfl, e2⟩]
    · rw [if_neg e2, if_neg fun x => e2 x.2]
  · refine ((h.rb i hi).other (p := ⟨q c, j, none⟩) (fun e2 => e (h.inj i c hi hc e2)) _).congr fun y hy => ?_
    show Value.int .i64 (a.H i y) = .int .i64 (if i = c ∧ y = j then p else a.H i y)
    rw [if_neg fun x => e x.1]
/-- One body is another. -/
theorem SM.putB (h : SM w G gT cT gB cB gH cH q cp a) (p : Nat) (b : List Int) : SM (w.setCell ⟨gB, p, none⟩ (.string (strOfNums b))) G gT cT gB cB gH cH q cp (a.putB p b) :=
  ⟨h.tb.other (p := ⟨gB, p, none⟩) h.ne.1 _, (h.bb.set p _).congr fun i _ => by
    show (if i = p then Value.string (strOfNums b) else .string (strOfNums (a.B i))) = .string (strOfNums (upd a.B p b i))
    by_cases e : i = p
    · subst e; rw [if_pos rfl, upd_same]
    · rw [if_neg e, upd_other _ _ e], h.hb.other (p := ⟨gB, p, none⟩) h.ne.2.2.symm _, fun i hi => (h.rb i hi).other (p := ⟨gB, p, none⟩) (h.nq i hi).2.1 _, h.inj, h.ne, h.nq, h.inG, h.qG⟩
/-- One page is there, or not. -/
theorem SM.flag (h : SM w G gT cT gB cB gH cH q cp a) (p : Nat) (t : Bool) : SM (w.setCell ⟨gT, p, none⟩ (.bool t)) G gT cT gB cB gH cH q cp ⟨a.n, a.N, upd a.T p t, a.B, a.H⟩ :=
  ⟨(h.tb.set p _).congr fun i _ => by
    show (if i = p then Value.bool t else .bool (a.T i)) = .bool (upd a.T p t i)
    by_cases e : i = p
    · subst e; rw [if_pos rfl, upd_same]
    · rw [if_neg e, upd_other _ _ e], h.bb.other (p := ⟨gT, p, none⟩) h.ne.1.symm _, h.hb.other (p := ⟨gT, p, none⟩) h.ne.2.1.symm _, fun i hi => (h.rb i hi).other (p := ⟨gT, p, none⟩) (h.nq i hi).1 _, h.inj, h.ne, h.nq, h.inG, h.qG⟩
/-! ### An answer -/
/-- The value v is the answer r; its data lie in blocks from base on. -/
def ReV (w : World) (base : Nat) (v : Value) (r : Re) : Prop := ∃ A n cap, v = .agg #[.int .i64 r.c, .int .i64 r.p, .int .i64 r.h, .slice A n cap] ∧ Sl w w.heap.size .u8 A n r.d ∧ (0 < n → ∀ x, A = some x → base ≤ x.block)
theorem rev_none (w : World) (base : Nat) (c p h : Int) : ReV w base (.agg #[.int .i64 c, .int .i64 p, .int .i64 h, .slice none 0 0]) ⟨c, p, h, []⟩ :=
  ⟨none, 0, 0, rfl, Sl.nil _ _ _ _, fun h => absurd h (by omega)⟩
theorem ReV.grow {base : Nat} {r : Re} (h : ReV w base v r) (hk : Grow w w') : ReV w' base v r := by
  obtain ⟨A, n, cap, e, hs, h3⟩ := h
  exact ⟨A, n, cap, e, (Blk.Sl.kept hs hk (Nat.le_refl _) fun _ _ x => x).more hk.size, h3⟩
/-! ### A result that lies in a cell of the callee -/
theorem res_size : (Tryz.prog.info? 27).map (·.size) = some 4 := by kernel_rfl
theorem load_res {g : Nat} {t : TypeId} {x y z b : Value} (hg : Blk w g t [x, y, z, b]) : (loadVar 27 ⟨g, 0, none⟩).run Tryz.prog w = .ok (.agg #[x, y, z, b]) w :=
  run_loadVar_row w g t 27 #[x, y, z, b] (0, 0) _ hg Tryz.underlying27 rfl res_size
theorem ret_res {fn : Func} {R : Ending → World → Prop} {act : Act} {p g : Nat} {t : TypeId} {x y z b : Value} (h : fn.results = #[.cell p 27]) (hp : act.tmps.getD p undef = .pointer (some ⟨g, 0, none⟩)) (hg : Blk w g t [x, y, z, b]) (hd : act.defers = []) (hR : R (.returned (.agg #[x, y, z, b])) w) : bodyPost Tryz.prog fn R .ret act w := by
  refine bodyPost_ret ?_ hd hR
  have hp' : act.tmps[p]?.getD undef = .pointer (some ⟨g, 0, none⟩) := by simpa using hp
  simp [results, h, hp', asAddr, load_res hg]
/-! ### fail, Zeros -/
theorem infoU8 : (Tryz.prog.info? 5).map (fun i => (i.zero, i.size, i.bytes)) = some (some (.int .u8 0), 1, 1) := by kernel_rfl
theorem fail_any (w : World) (c : Int) : Calls Tryz.prog 65 #[.int .i64 c] w fun e w' => e = .returned (.agg #[.int .i64 c, .int .i64 0, .int .i64 0, .slice none 0 0]) ∧ Grow w w' := by
  go_enter Tryz.func65, Tryz.ntmps65
  go_wp2
  exact ret_res rfl rfl (Blk.new w 27 [.int .i64 c, .int .i64 0, .int .i64 0, .slice none 0 0]) rfl ⟨rfl, (Kept.refl _ _).alloc _⟩
theorem made16 (w : World) : (Instr.makeSlice 22 (.int .i64 16) (.int .i64 16)).run Tryz.prog w = .ok (.slice (some ⟨w.heap.size, 0, none⟩) 16 16) (w.alloc (.cells (madeCells #[.int .u8 0] 16) 5)) := by
  obtain ⟨i, hi, hz, hs, hb⟩ := info_parts infoU8
  have := run_make (P := Tryz.prog) w 22 5 i _ Tryz.underlying22 hi hz .i64 .i64 16 16 (by omega) (Int.le_refl _) (by rw [hb]; omega) (by omega)
  rw [hs, show (16 : Int).toNat = 16 by omega] at this
  exact this
/-! ### Held, room, give, Pins -/
/-- What a walk reads of one client, behind a box of the state's own. -/
structure Cl (w : World) (s gT cT gB cB gH cH : Nat) (k b c : Nat) (a : Md) : Prop where
  s0 : w.cell? ⟨s, 0, none⟩ = some (.slice (some ⟨gT, 0, none⟩) a.n cT)
  s1 : w.cell? ⟨s, 1, none⟩ = some (.slice (some ⟨gB, 0, none⟩) a.n cB)
  s2 : w.cell? ⟨s, 2, none⟩ = some (.slice (some ⟨gH, 0, none⟩) a.N cH)
  sl : w.cell? ⟨gH, k, none⟩ = some (.slice (some ⟨b, 0, none⟩) 6 c)
  row : OR w b 3 1 c 6 (hcell (a.H k))
theorem SM.client (h : SM w G gT cT gB cB gH cH q cp a) {k : Nat} (hk : k < a.N) : Cl (w.alloc (.cells #[.slice (some ⟨gT, 0, none⟩) a.n cT, .slice (some ⟨gB, 0, none⟩) a.n cB, .slice (some ⟨gH, 0, none⟩) a.N cH] 50)) w.heap.size gT cT gB cB gH cH k (q k) (cp k) a := by
  have hb := Blk.new w 50 [.slice (some ⟨gT, 0, none⟩) a.n cT, .slice (some ⟨gB, 0, none⟩) a.n cB, .slice (some ⟨gH, 0, none⟩) a.N cH]
  have hg : Grow w (w.alloc (.cells #[.slice (some ⟨gT, 0, none⟩) a.n cT, .slice (some ⟨gB, 0, none⟩) a.n cB, .slice (some ⟨gH, 0, none⟩) a.N cH] 50)) := (Kept.refl _ _).alloc _
  exact ⟨hb.cell 0, hb.cell 1, hb.cell 2, hg.cellN (h.hb.cell (i := k) (by omega)) id, (h.rb k hk).kept hg id⟩
theorem room_any (h : SAt w G v a) {k : Nat} (hk : k < a.N) : Calls Tryz.prog 112 #[v, .int .i64 (k : Int)] w fun e w' => e = .returned (.bool (!decide (a.free k = -1))) ∧ Grow w w' := by
  obtain ⟨gT, cT, gB, cB, gH, cH, q, cp, rfl, hm⟩ := h.mem
  unfold sval
  have HC := Lib.hid (hm.client hk)
  have HG0 : Hid (Grow w (w.alloc (.cells #[.slice (some ⟨gT, 0, none⟩) a.n cT, .slice (some ⟨gB, 0, none⟩) a.n cB, .slice (some ⟨gH, 0, none⟩) a.N cH] 50))) := (Kept.refl _ _).alloc _
  have HLO := Lib.hid fun (j : Nat) (hj : j < 6) => h.good.lo hk hj
  have hkz : (k : Int) < (a.N : Int) := by omega
  clear hm h hk
  go_enter Tryz.func112, Tryz.ntmps112
  go_upto_region 1 with (fail)
  generalize w.alloc (.cells #[.slice (some ⟨gT, 0, none⟩) a.n cT, .slice (some ⟨gB, 0, none⟩) a.n cB, .slice (some ⟨gH, 0, none⟩) a.N cH] 50) = w0 at HC HG0 ⊢
  generalize w.heap.size = s at HC ⊢
  have s2 := HC.out.s2
  have sl := HC.out.sl
  go_wp2
  go_loopg [5] 6 (fun gx i wr => ∃ j : Nat, j + gx = 6 ∧ i = .int .i64 (j : Int) ∧ w0 = wr ∧ ∀ t, t < j → a.H k t ≠ -1)
  case atStart => exact ⟨0, by omega, rfl, rfl, fun t h => absurd h (Nat.not_lt_zero t)⟩
  case round =>
    obtain ⟨j, hg, rfl, rfl, hno⟩ := hrel
    have HG := Lib.hid hg
    have HNO := Lib.hid hno
    clear hg hno
    by_cases hj : j < 6
    · have hjz : (j : Int) < 6 := by omega
      have r1 := hcell_get HC.out.row hj
      have hlo := HLO.out j hj
      by_cases hx : a.H k j = -1
      · have HE : Hid ((!decide (a.free k = -1)) = true) := by show (!decide (hnd (a.H k) 6 = -1)) = true; rw [hnd_at HNO.out hj hx]; simp
        rw [hx] at r1
        clear hx hlo hj
        go_wp2
        go_ret
        exact ⟨by rw [HE.out]; rfl, HG0.out⟩
      · have hx0 : 0 ≤ a.H k j := by omega
        have HX := Lib.hid hx
        clear hx hlo hj
        generalize a.H k j = x at r1 hx0
        go_wp2
        go_roundg (gk - 1)
        case measure => have := HG.out; omega
        case rel => exact ⟨j + 1, by have := HG.out; omega, by go_num, rfl, fun t ht => by
          by_cases e : t = j
          · subst e; exact HX.out
          · exact HNO.out t (by omega)⟩
    · have hj6 : j = 6 := by have := HG.out; omega
      subst hj6
      have HE : Hid ((!decide (a.free k = -1)) = false) := by show (!decide (hnd (a.H k) 6 = -1)) = false; rw [hnd_none HNO.out]; rfl
      clear hj
      go_wp2
      go_ret
      exact ⟨by rw [HE.out]; rfl, HG0.out⟩
end
end Go.Proofs.YtbnkpnllgoghnaaGreat.MdC

namespace Go.Proofs.YtbnkpnllgoghnaaGreat.RfP
open Go.ChangeShapes Go.WideShapes Go.ChangeAt Go.RowKit
open Go.Proofs.YtbnkpnllgoghnaaGreat.Mem Go.Proofs.YtbnkpnllgoghnaaGreat.Blk Go.Proofs.YtbnkpnllgoghnaaGreat.Cells Go.Proofs.YtbnkpnllgoghnaaGreat.Orow
open Go.Proofs.YtbnkpnllgoghnaaGreat.MdM (Md MdOp Re)
open Go.Proofs.YtbnkpnllgoghnaaGreat.ArM (Ar Fr)
open Go.Proofs.YtbnkpnllgoghnaaGreat.Dev (Dv)
open Go.Proofs.YtbnkpnllgoghnaaGreat.RefD (Rf POwn)
open Go.Proofs.YtbnkpnllgoghnaaGreat.MdC (SAt)
open Go.Proofs.YtbnkpnllgoghnaaGreat.ArRefC (RAt RMem)
/-- Old blocks keep their colour, new ones have another. -/
def paint (s c : Nat) (col : Nat → Nat) (k : Nat) : Nat := if k < s then col k else c
theorem paint_old {s c k : Nat} {col : Nat → Nat} (h : k < s) : paint s c col k = col k := if_pos h
theorem paint_new {s c k : Nat} {col : Nat → Nat} (h : s ≤ k) : paint s c col k = c := if_neg (by omega)
/-- The blocks of one colour, and new ones. -/
def Own (s c : Nat) (col : Nat → Nat) (k : Nat) : Prop := (k < s ∧ col k = c) ∨ s ≤ k
theorem own_paint {s c k : Nat} {col : Nat → Nat} (h : Own s c col k) : paint s c col k = c := by
  rcases h with ⟨h1, h2⟩ | h
  · rw [paint_old h1]; exact h2
  · exact paint_new h
section
variable {w w' : World} {F : Nat → Prop} {col : Nat → Nat} {c i m : Nat} {r : Rf} {v : Value} {D D' : Dv} {A A' : Ar} {L L' : List Nat} {X X' : Md}
/-! ### The state -/
def XAt (w : World) (col : Nat → Nat) (i : Nat) (v : Value) (X : Md) : Prop := SAt w (fun k => k < w.heap.size ∧ col k = i) v X
theorem XAt.keep (h : XAt w col i v X) (hk : Kept F w w') (hF : ∀ k, k < w.heap.size → F k → col k ≠ i) (c : Nat) : XAt w' (paint w.heap.size c col) i v X :=
  (SAt.kept h (hk.mono (G := fun k => k < w.heap.size ∧ F k) fun k h1 h2 => ⟨h1, h2⟩) fun k h1 h2 => hF k h2.1 h2.2 h1.2).mono fun k h1 h2 => ⟨h1, by rw [paint_old h2.1]; exact h2.2⟩
theorem XAt.same (h : XAt w col i v X) (hk : Kept F w w') (hF : ∀ k, k < w.heap.size → F k → col k ≠ i) : XAt w' col i v X :=
  (SAt.kept h (hk.mono (G := fun k => k < w.heap.size ∧ F k) fun _ h1 h2 => ⟨h1, h2⟩) fun k h1 h2 => hF k h2.1 h2.2 h1.2).mono fun _ h1 h2 => ⟨h1, h2.2⟩
/-- A state in new blocks has their colour. -/
theorem XAt.fresh (h : SAt w' (fun k => w.heap.size ≤ k) v X) (c : Nat) : XAt w' (paint w.heap.size c col) c v X := h.mono fun _ h1 h2 => ⟨h1, paint_new h2⟩
theorem XAt.turn (h : SAt w' (fun k => k < w.heap.size ∧ col k = i) v X') (c : Nat) : XAt w' (paint w.heap.size c col) i v X' := h.mono fun _ h1 h2 => ⟨h1, by rw [paint_old h2.1]; exact h2.2⟩
/-! ### The device -/
def DAt (w : World) (col : Nat → Nat) (r : Rf) (D : Dv) : Prop := RefD.RefAt w r D ∧ ∀ k, POwn r k → col k = 3
theorem DAt.keep (h : DAt w col r D) (hk : Kept F w w') (hF : ∀ k, k < w.heap.size → F k → col k ≠ 3) (c : Nat) : DAt w' (paint w.heap.size c col) r D :=
  ⟨h.1.kept hk fun k h1 h2 => hF k (h.1.lt k h1) h2 (h.2 k h1), fun k h1 => by rw [paint_old (h.1.lt k h1)]; exact h.2 k h1⟩
theorem DAt.turn (h : DAt w col r D) (h' : RefD.RefAt w' r D') (c : Nat) : DAt w' (paint w.heap.size c col) r D' := ⟨h', fun k h1 => by rw [paint_old (h.1.lt k h1)]; exact h.2 k h1⟩
theorem DAt.own (h : DAt w col r D) : ∀ k, k < w.heap.size → POwn r k → col k = 3 := fun k _ => h.2 k
/-! ### The frames -/
def AAt (w : World) (col : Nat → Nat) (m : Nat) (A : Ar) : Prop := RAt w (fun k => k < w.heap.size ∧ col k = 4) m A
theorem rat_mono {G H : Nat → Prop} (h : RAt w G m A) (hH : ∀ k, k < w.heap.size → G k → H k) : RAt w H m A := by
  have hl := h.lt
  obtain ⟨vL, vB, B, n, S, h'⟩ := h.mem
  exact ⟨h.good, vL, vB, B, n, S, h'.hd, ArRefC.os_mono h'.fr fun k hk x => ⟨hH k hk x.1, x.2⟩, ArRefC.os_mono h'.bo fun k hk x => ⟨hH k hk x.1, x.2⟩, h'.sb, h'.id, h'.cc, fun x e => ⟨hH _ (h'.lt x e) (h'.off x e).1, (h'.off x e).2⟩, hH _ hl.1 hl.2, h'.lt⟩
theorem AAt.keep (h : AAt w col m A) (hk : Kept F w w') (hF : ∀ k, k < w.heap.size → F k → col k ≠ 4) (c : Nat) : AAt w' (paint w.heap.size c col) m A :=
  rat_mono (RAt.kept h (hk.mono (G := fun k => k < w.heap.size ∧ F k) fun k h1 h2 => ⟨h1, h2⟩) fun k h1 h2 => hF k h2.1 h2.2 h1.2) fun k h1 h2 => ⟨h1, by rw [paint_old h2.1]; exact h2.2⟩
/-- As the calls ask for it: with new blocks. -/
theorem AAt.use (h : AAt w col m A) : RAt w (Own w.heap.size 4 col) m A := rat_mono h fun _ _ h => .inl h
theorem AAt.turn (h : RAt w' (Own w.heap.size 4 col) m A') : AAt w' (paint w.heap.size 4 col) m A' := rat_mono h fun _ h1 h2 => ⟨h1, own_paint h2⟩
/-! ### The order -/
def LAt (w : World) (col : Nat → Nat) (m : Nat) (L : List Nat) : Prop := ListR.RefAt w m 32 (fun k => k < w.heap.size ∧ col k ≠ 5) L
theorem LAt.keep (h : LAt w col m L) (hk : Kept F w w') (hF : ∀ k, k < w.heap.size → F k → col k ≠ 5) (c : Nat) : LAt w' (paint w.heap.size c col) m L := by
  have hs := hk.size
  have h1 : ListR.RefAt w m 32 (fun k => k < w'.heap.size ∧ paint w.heap.size c col k ≠ 5) L := ListR.RefAt.widen h fun k h1 h2 => ⟨h1, by have := h2.2; rw [paint_old h1] at this; exact this⟩
  exact h1.kept (hk.mono (G := fun k => k < w.heap.size ∧ F k) fun k h1 h2 => ⟨h1, h2⟩) fun k h2 => ⟨by have := h2.1; omega, by rw [paint_old h2.1]; exact hF k h2.1 h2.2⟩
theorem LAt.low : ∀ k, (k < w.heap.size ∧ col k ≠ 5) → k < w.heap.size := fun _ h => h.1
theorem LAt.turn (h : ListR.RefAt w' m 32 (fun k => k < w.heap.size ∧ col k ≠ 5) L') : LAt w' (paint w.heap.size 5 col) m L' := ListR.RefAt.widen h fun k h1 h2 => by
  by_cases e : k < w.heap.size
  · exact ⟨e, by have := h2.2; rw [paint_old e] at this; exact this⟩
  · exact absurd (paint_new (by omega)) h2.2
theorem LAt.at_ (h : LAt w col m L) : m < w.heap.size ∧ col m = 5 := by
  have h1 := ListR.RefAt.lt h
  refine ⟨h1, ?_⟩
  by_cases e : col m = 5
  · exact e
  · exact absurd ⟨h1, e⟩ h.fm
theorem AAt.at_ (h : AAt w col m A) : m < w.heap.size ∧ col m = 4 := RAt.lt h |>.2
/-! ### The three together -/
/-- Device, frames and order: colours 3, 4, 5. -/
structure Three (w : World) (col : Nat → Nat) (r : Rf) (a l : Nat) (D : Dv) (A : Ar) (L : List Nat) : Prop where
  d : DAt w col r D
  a : AAt w col a A
  l : LAt w col l L
variable {a l : Nat}
/-- Other blocks are turned, or made. -/
theorem Three.keep (h : Three w col r a l D A L) (hk : Kept F w w') (hF : ∀ k, k < w.heap.size → F k → col k ≠ 3 ∧ col k ≠ 4 ∧ col k ≠ 5) (c : Nat) : Three w' (paint w.heap.size c col) r a l D A L :=
  ⟨h.d.keep hk (fun k h1 h2 => (hF k h1 h2).1) c, h.a.keep hk (fun k h1 h2 => (hF k h1 h2).2.1) c, h.l.keep hk (fun k h1 h2 => (hF k h1 h2).2.2) c⟩
theorem Three.setD (h : Three w col r a l D A L) (h' : RefD.RefAt w' r D') (hk : Kept (POwn r) w w') (c : Nat) : Three w' (paint w.heap.size c col) r a l D' A L :=
  ⟨h.d.turn h' c, h.a.keep hk (fun k h1 h2 => by rw [h.d.2 k h2]; decide) c, h.l.keep hk (fun k h1 h2 => by rw [h.d.2 k h2]; decide) c⟩
theorem own_old {s c k : Nat} {col : Nat → Nat} (h1 : k < s) (h : Own s c col k) : col k = c := by
  rcases h with ⟨_, h⟩ | h
  · exact h
  · omega
theorem Three.setA (h : Three w col r a l D A L) (h' : RAt w' (Own w.heap.size 4 col) a A') (hk : Kept (Own w.heap.size 4 col) w w') : Three w' (paint w.heap.size 4 col) r a l D A' L :=
  ⟨h.d.keep hk (fun k h1 h2 => by rw [own_old h1 h2]; decide) 4, AAt.turn h', h.l.keep hk (fun k h1 h2 => by rw [own_old h1 h2]; decide) 4⟩
theorem Three.setL (h : Three w col r a l D A L) (h' : ListR.RefAt w' l 32 (fun k => k < w.heap.size ∧ col k ≠ 5) L') (hk : Kept (· = l) w w') : Three w' (paint w.heap.size 5 col) r a l D A L' :=
  ⟨h.d.keep hk (fun k _ h2 => by rw [h2, h.l.at_.2]; decide) 5, h.a.keep hk (fun k _ h2 => by rw [h2, h.l.at_.2]; decide) 5, LAt.turn h'⟩
end
end Go.Proofs.YtbnkpnllgoghnaaGreat.RfP

namespace Go.Proofs.YtbnkpnllgoghnaaGreat.HdC
open Go.ChangeShapes Go.WideShapes Go.ChangeAt Go.RowKit
open Go.Proofs.YtbnkpnllgoghnaaGreat.Mem Go.Proofs.YtbnkpnllgoghnaaGreat.Blk Go.Proofs.YtbnkpnllgoghnaaGreat.Cells Go.Proofs.YtbnkpnllgoghnaaGreat.Orow Go.Proofs.YtbnkpnllgoghnaaGreat.HdM Go.Proofs.YtbnkpnllgoghnaaGreat.Stages
def hcell (f : Nat → Int) (j : Nat) : Value := .int .i64 (f j)
def scell (q cp : Nat → Nat) (i : Nat) : Value := .slice (some ⟨q i, 0, none⟩) 6 (cp i)
/-- Rows of six numbers each, told by the slice v of their slices; all blocks lie in G. -/
structure Gr (w : World) (G : Nat → Prop) (v : Value) (n : Nat) (q cp : Nat → Nat) (H : Nat → Nat → Int) : Prop where
  out : OS w G v 33 1 n (scell q cp)
  row : ∀ i, i < n → OR w (q i) 3 1 (cp i) 6 (hcell (H i))
  inG : ∀ i, i < n → G (q i)
  off : ∀ i, i < n → v.ownBlock ≠ some (q i)
  ne : ∀ i j, i < n → j < n → q i = q j → i = j
/-- At block d: the handles a; their blocks lie in G. -/
structure HAt (w : World) (G : Nat → Prop) (d : Nat) (a : Hs) : Prop where
  good : HdM.Good a
  mem : ∃ v q cp, Row w d 1 (fun _ => v) ∧ Gr w G v a.n q cp a.H ∧ G d ∧ v.ownBlock ≠ some d ∧ ∀ i, i < a.n → q i ≠ d
section
variable {w w' : World} {G F X : Nat → Prop} {v : Value} {n d : Nat} {q cp : Nat → Nat} {H : Nat → Nat → Int} {a : Hs}
theorem os_mono {t : TypeId} {s : Nat} {f : Nat → Value} (h : OS w G v t s n f) (hX : ∀ k, k < w.heap.size → G k → X k) : OS w X v t s n f := by
  rcases h with h | ⟨g, cap, e, ho, hg⟩
  · exact .inl h
  · exact .inr ⟨g, cap, e, ho, hX _ ho.lt hg⟩
theorem os_in {t : TypeId} {s : Nat} {f : Nat → Value} (h : OS w G v t s n f) {k : Nat} (hk : v.ownBlock = some k) : G k ∧ k < w.heap.size := h.own.2 k hk
theorem Gr.kept (h : Gr w G v n q cp H) (hk : Kept F w w') (hF : ∀ k, G k → ¬ F k) : Gr w' G v n q cp H :=
  ⟨h.out.kept hk hF, fun i hi => (h.row i hi).kept hk (hF _ (h.inG i hi)), h.inG, h.off, h.ne⟩
theorem Gr.mono (h : Gr w G v n q cp H) (hX : ∀ k, k < w.heap.size → G k → X k) : Gr w X v n q cp H :=
  ⟨os_mono h.out hX, h.row, fun i hi => hX _ (h.row i hi).lt (h.inG i hi), h.off, h.ne⟩
theorem Gr.get (h : Gr w G v n q cp H) {i : Nat} (hi : i < n) : ∃ g cap, v = .slice (some ⟨g, 0, none⟩) n cap ∧ w.cell? ⟨g, i, none⟩ = some (.slice (some ⟨q i, 0, none⟩) 6 (cp i)) ∧ OR w (q i) 3 1 (cp i) 6 (hcell (H i)) := by
  obtain ⟨g, cap, rfl, ho, _⟩ := h.out.form (by omega)
  exact ⟨g, cap, rfl, ho.cell (by omega), h.row i hi⟩
theorem hcell_get {b c : Nat} {f : Nat → Int} (h : OR w b 3 1 c 6 (hcell f)) {j : Nat} (hj : j < 6) : w.cell? ⟨b, j, none⟩ = some (.int .i64 (f j)) := h.cell (by omega)
/-- One handle has another page. -/
theorem Gr.put (h : Gr w G v a.n q cp a.H) {c : Nat} (j : Nat) (p : Int) : Gr (w.setCell ⟨q c, j, none⟩ (.int .i64 p)) G v (a.put c j p).n q cp (a.put c j p).H ∨ ¬ c < a.n := by
  by_cases hc : c < a.n
  · left
    refine ⟨?_, fun i hi => ?_, h.inG, h.off, h.ne⟩
    · rcases h.out with x | ⟨g, cap, e, ho, hg⟩
      · exact .inl x
      · refine .inr ⟨g, cap, e, ho.other (p := ⟨q c, j, none⟩) (fun e2 => h.off c hc ?_) _, hg⟩
        rw [e, e2]; rfl
    · have hi : i < a.n := hi
      by_cases e : i = c
      · subst e
        refine ((h.row i hi).set j _).congr fun y hy => ?_
        show (if y = j then Value.int .i64 p else .int .i64 (a.H i y)) = .int .i64 (if i = i ∧ y = j then p else a.H i y)
        by_cases e2 : y = j
        · rw [if_pos e2, if_pos ⟨rfl, e2⟩]
        · rw [if_neg e2, if_neg fun x => e2 x.2]
      · refine ((h.row i hi).other (p := ⟨q c, j, none⟩) (fun e2 => e (h.ne i c hi hc e2)) _).congr fun y hy => ?_
        show Value.int .i64 (a.H i y) = .int .i64 (if i = c ∧ y = j then p else a.H i y)
        rw [if_neg fun x => e x.1]
  · exact .inr hc
theorem HAt.kept (h : HAt w G d a) (hk : Kept F w w') (hF : ∀ k, G k → ¬ F k) : HAt w' G d a := by
  obtain ⟨v, q, cp, h0, h1, h2, h3, h4⟩ := h.mem
  exact ⟨h.good, v, q, cp, h0.kept hk (hF _ h2), h1.kept hk hF, h2, h3, h4⟩
theorem HAt.grow (h : HAt w G d a) (hk : Grow w w') : HAt w' G d a := h.kept hk fun _ _ x => x
theorem HAt.mono (h : HAt w G d a) (hX : ∀ k, k < w.heap.size → G k → X k) : HAt w X d a := by
  obtain ⟨v, q, cp, h0, h1, h2, h3, h4⟩ := h.mem
  exact ⟨h.good, v, q, cp, h0, h1.mono hX, hX _ h0.lt h2, h3, h4⟩
theorem HAt.lt (h : HAt w G d a) : d < w.heap.size ∧ G d := by
  obtain ⟨v, q, cp, h0, _, h2, _⟩ := h.mem
  exact ⟨h0.lt, h2⟩
/-- What a walk reads of one client. -/
structure Own (w : World) (G : Nat → Prop) (d : Nat) (a : Hs) (k g cap b c : Nat) : Prop where
  hd : w.cell? ⟨d, 0, none⟩ = some (.slice (some ⟨g, 0, none⟩) a.n cap)
  sl : w.cell? ⟨g, k, none⟩ = some (.slice (some ⟨b, 0, none⟩) 6 c)
  row : OR w b 3 1 c 6 (hcell (a.H k))
  put : ∀ j p, -1 ≤ p → HAt (w.setCell ⟨b, j, none⟩ (.int .i64 p)) G d (a.put k j p)
  inG : G b
theorem HAt.own (h : HAt w G d a) {k : Nat} (hk : k < a.n) : ∃ g cap b c, Own w G d a k g cap b c := by
  obtain ⟨v, q, cp, h0, h1, h2, h3, h4⟩ := h.mem
  obtain ⟨g, cap, rfl, hs, hr⟩ := h1.get hk
  refine ⟨g, cap, q k, cp k, h0.cell (i := 0) (by omega), hs, hr, fun j p hp => ⟨h.good.put k j hp, _, q, cp, h0.other (p := ⟨q k, j, none⟩) (fun e => h4 k hk e.symm) _, ?_, h2, h3, h4⟩, h1.inG k hk⟩
  rcases h1.put (c := k) j p with h | h
  · exact h
  · exact absurd hk h
theorem HAt.head (h : HAt w G d a) : ∃ A cap, w.cell? ⟨d, 0, none⟩ = some (.slice A a.n cap) := by
  obtain ⟨v, q, cp, h0, h1, _⟩ := h.mem
  have c0 := h0.cell (i := 0) (by omega)
  rcases h1.out with ⟨rfl, e⟩ | ⟨g, cap, rfl, _⟩
  · exact ⟨none, 0, by rw [c0, e]⟩
  · exact ⟨_, _, c0⟩
/-- What a call answers; what it makes of the handles. -/
def HPost (G : Nat → Prop) (d : Nat) (w : World) (r : Value) (a' : Hs) (e : Ending) (w' : World) : Prop := e = .returned r ∧ HAt w' G d a' ∧ Kept G w w'
/-! ### least -/
theorem least_nil (w : World) (A : Option Addr) (c : Nat) : Calls Tryz.prog 143 #[.slice A 0 c] w fun e w' => e = .returned (.int .i64 (-1)) ∧ w = w' := by
  go_enter Tryz.func143, Tryz.ntmps143
  go_wp2
  go_step3
  go_wp2
  go_step3
  go_wp2
  go_loopg [3, 8] 0 (fun _ x i wr => i = .int .i64 0 ∧ x = .int .i64 (-1) ∧ wr = w)
  case atStart => exact ⟨rfl, rfl, rfl⟩
  case round =>
    obtain ⟨rfl, rfl, rfl⟩ := hrel
    go_wp2
    try rw [Exit.noGoto_ret]
    go_ret
    exact ⟨rfl, rfl⟩
theorem least_six {w : World} {b cb c : Nat} {f : Nat → Int} (h : OR w b 3 1 cb 6 (hcell f)) : Calls Tryz.prog 143 #[.slice (some ⟨b, 0, none⟩) 6 c] w fun e w' => e = .returned (.int .i64 (hnd f 6)) ∧ w = w' := by
  have HR := Lib.hid h
  clear h
  go_enter Tryz.func143, Tryz.ntmps143
  go_wp2
  go_step3
  go_wp2
  go_step3
  go_wp2
  go_loopg [3, 8] 6 (fun gx x i wr => ∃ j : Nat, j + gx = 6 ∧ i = .int .i64 (j : Int) ∧ x = .int .i64 (-1) ∧ wr = w ∧ ∀ k, k < j → f k ≠ -1)
  case atStart => exact ⟨0, by omega, rfl, rfl, rfl, fun k h => absurd h (Nat.not_lt_zero k)⟩
  case round =>
    obtain ⟨j, hg, rfl, rfl, rfl, hno⟩ := hrel
    have HG := Lib.hid hg
    have HNO := Lib.hid hno
    clear hg hno
    by_cases hj : j < 6
    · have hjz : (j : Int) < 6 := by omega
      have r1 := hcell_get HR.out hj
      by_cases hx : f j = -1
      · have hd := hnd_at HNO.out hj hx
        have HD := Lib.hid hd
        rw [hx] at r1
        clear hd hx
        go_wp2
        try rw [Exit.noGoto_ret]
        go_ret
        exact ⟨by rw [HD.out]; rfl, rfl⟩
      · have hx' : (f j == -1) = false := by simpa using hx
        have HX := Lib.hid hx
        clear hx
        go_wp2
        go_roundg (gk - 1)
        case measure => have := HG.out; omega
        case rel => exact ⟨j + 1, by have := HG.out; omega, by go_num, rfl, rfl, fun k hk => by
          by_cases e : k = j
          · subst e; exact HX.out
          · exact HNO.out k (by omega)⟩
    · have hd := hnd_none (m := 6) fun k hk => HNO.out k (by omega)
      have hj6 : j = 6 := by have := HG.out; omega
      subst hj6
      have HD := Lib.hid hd
      clear hd hj
      go_wp2
      try rw [Exit.noGoto_ret]
      go_ret
      exact ⟨by rw [HD.out]; rfl, rfl⟩
/-! ### of -/
theorem of_bad (h : HAt w G d a) (c : Int) (hc : ¬ (0 ≤ c ∧ c < (a.n : Int))) : Calls Tryz.prog 144 #[.pointer (some ⟨d, 0, none⟩), .int .i64 c] w fun e w' => e = .returned (.slice none 0 0) ∧ w = w' := by
  obtain ⟨A, cap, c0⟩ := h.head
  clear h
  by_cases h0 : c < 0
  · clear hc
    go_enter Tryz.func144, Tryz.ntmps144
    go_wp2
    go_ret
    exact ⟨rfl, rfl⟩
  · have h1 : (a.n : Int) ≤ c := by omega
    have h2 : 0 ≤ c := by omega
    clear hc h0
    go_enter Tryz.func144, Tryz.ntmps144
    go_wp2
    go_ret
    exact ⟨rfl, rfl⟩
theorem of_good {k g cap b c : Nat} (h : Own w G d a k g cap b c) (hk : k < a.n) : Calls Tryz.prog 144 #[.pointer (some ⟨d, 0, none⟩), .int .i64 (k : Int)] w fun e w' => e = .returned (.slice (some ⟨b, 0, none⟩) 6 c) ∧ w = w' := by
  have c0 := h.hd
  have c1 := h.sl
  have hkz : (k : Int) < (a.n : Int) := by omega
  clear h
  go_enter Tryz.func144, Tryz.ntmps144
  go_wp2
  go_ret
  exact ⟨rfl, rfl⟩
end
end Go.Proofs.YtbnkpnllgoghnaaGreat.HdC

namespace Go.Proofs.YtbnkpnllgoghnaaGreat.RgP
open Go.ChangeShapes Go.WideShapes Go.ChangeAt Go.RowKit
open Go.Proofs.YtbnkpnllgoghnaaGreat.Mem Go.Proofs.YtbnkpnllgoghnaaGreat.Blk Go.Proofs.YtbnkpnllgoghnaaGreat.RfP
open Go.Proofs.YtbnkpnllgoghnaaGreat.ArM (Ar Fr)
open Go.Proofs.YtbnkpnllgoghnaaGreat.Dev (Dv DevAt)
open Go.Proofs.YtbnkpnllgoghnaaGreat.ArC (ArAt)
open Go.Proofs.YtbnkpnllgoghnaaGreat.Rowed (ListAt)
open Go.Proofs.YtbnkpnllgoghnaaGreat.HdM (Hs)
open Go.Proofs.YtbnkpnllgoghnaaGreat.HdC (HAt)
section
variable {w w' : World} {F : Nat → Prop} {col : Nat → Nat} {c d D W a b B h n : Nat} {S S' : Dv} {A A' : Ar} {L L' : List Nat} {H H' : Hs}
/-! ### The device: what others may write, and its own three blocks -/
def Bar (s : Nat) (col : Nat → Nat) (d D W : Nat) (k : Nat) : Prop := (k < s ∧ col k ≠ 7) ∨ Dev.Own d D W k
structure PD (w : World) (col : Nat → Nat) (d D W : Nat) (S : Dv) : Prop where
  at_ : DevAt w d D W (Bar w.heap.size col d D W) S
  own : ∀ k, Dev.Own d D W k → k < w.heap.size ∧ col k = 7
theorem Bar.low (h : PD w col d D W S) : ∀ k, Bar w.heap.size col d D W k → k < w.heap.size := fun k x => x.elim (fun x => x.1) fun x => (h.own k x).1
theorem PD.keep (h : PD w col d D W S) (hk : Kept F w w') (hF : ∀ k, k < w.heap.size → F k → col k ≠ 7) (c : Nat) : PD w' (paint w.heap.size c col) d D W S := by
  have hs := hk.size
  refine ⟨?_, fun k x => ⟨Nat.lt_of_lt_of_le (h.own k x).1 hs, by rw [paint_old (h.own k x).1]; exact (h.own k x).2⟩⟩
  have h1 : DevAt w d D W (Bar w'.heap.size (paint w.heap.size c col) d D W) S := h.at_.turn (fun k hk x => x.elim (fun x => .inl ⟨hk, by have := x.2; rw [paint_old hk] at this; exact this⟩) .inr) fun k x => .inr x
  exact h1.kept (hk.mono (G := fun k => k < w.heap.size ∧ F k) fun _ h1 h2 => ⟨h1, h2⟩) (fun k x => .inl ⟨by have := x.1; omega, by rw [paint_old x.1]; exact hF k x.1 x.2⟩) fun k x y => hF k y.1 y.2 (h.own k x).2
/-- It was turned; new blocks are its own. -/
theorem PD.turn (h : PD w col d D W S) (h' : DevAt w' d D W (Bar w.heap.size col d D W) S') (hs : w.heap.size ≤ w'.heap.size) : PD w' (paint w.heap.size 7 col) d D W S' := by
  refine ⟨h'.turn (fun k _ x => x.elim (fun x => ?_) .inr) fun k x => .inr x, fun k x => ⟨Nat.lt_of_lt_of_le (h.own k x).1 hs, by rw [paint_old (h.own k x).1]; exact (h.own k x).2⟩⟩
  by_cases e : k < w.heap.size
  · exact .inl ⟨e, by have := x.2; rw [paint_old e] at this; exact this⟩
  · exact absurd (paint_new (by omega)) x.2
/-- It was read: new blocks are not its own. -/
theorem PD.read (h : PD w col d D W S) (h' : DevAt w' d D W (fun k => Bar w.heap.size col d D W k ∨ w.heap.size ≤ k) S') (hs : w.heap.size ≤ w'.heap.size) (c : Nat) : PD w' (paint w.heap.size c col) d D W S' := by
  refine ⟨h'.turn (fun k _ x => x.elim (fun x => ?_) fun x => .inl (.inr x)) fun k x => .inr x, fun k x => ⟨Nat.lt_of_lt_of_le (h.own k x).1 hs, by rw [paint_old (h.own k x).1]; exact (h.own k x).2⟩⟩
  by_cases e : k < w.heap.size
  · exact .inl (.inl ⟨e, by have := x.2; rw [paint_old e] at this; exact this⟩)
  · exact .inr (by omega)
/-! ### The frames, the order, the handles -/
def PA (w : World) (col : Nat → Nat) (a : Nat) (A : Ar) : Prop := ArAt w (fun k => k < w.heap.size ∧ col k = 8) a A
theorem PA.keep (h : PA w col a A) (hk : Kept F w w') (hF : ∀ k, k < w.heap.size → F k → col k ≠ 8) (c : Nat) : PA w' (paint w.heap.size c col) a A :=
  (ArAt.kept h (hk.mono (G := fun k => k < w.heap.size ∧ F k) fun _ h1 h2 => ⟨h1, h2⟩) fun k h1 h2 => hF k h2.1 h2.2 h1.2).mono fun k h1 h2 => ⟨h1, by rw [paint_old h2.1]; exact h2.2⟩
theorem PA.turn (h : ArAt w' (fun k => k < w.heap.size ∧ col k = 8) a A') (c : Nat) : PA w' (paint w.heap.size c col) a A' := h.mono fun _ h1 h2 => ⟨h1, by rw [paint_old h2.1]; exact h2.2⟩
structure PL (w : World) (col : Nat → Nat) (b B n : Nat) (L : List Nat) : Prop where
  at_ : ListAt w b B n L
  own : ∀ k, Rowed.Own b B k → k < w.heap.size ∧ col k = 9
theorem PL.keep (h : PL w col b B n L) (hk : Kept F w w') (hF : ∀ k, k < w.heap.size → F k → col k ≠ 9) (c : Nat) : PL w' (paint w.heap.size c col) b B n L :=
  ⟨h.at_.kept (hk.mono (G := fun k => k < w.heap.size ∧ F k) fun _ h1 h2 => ⟨h1, h2⟩) fun k x y => hF k x.1 x.2 (h.own k y).2, fun k x => ⟨Nat.lt_of_lt_of_le (h.own k x).1 hk.size, by rw [paint_old (h.own k x).1]; exact (h.own k x).2⟩⟩
theorem PL.turn (h : PL w col b B n L) (h' : ListAt w' b B n L') (hs : w.heap.size ≤ w'.heap.size) (c : Nat) : PL w' (paint w.heap.size c col) b B n L' :=
  ⟨h', fun k x => ⟨Nat.lt_of_lt_of_le (h.own k x).1 hs, by rw [paint_old (h.own k x).1]; exact (h.own k x).2⟩⟩
def PH (w : World) (col : Nat → Nat) (h : Nat) (H : Hs) : Prop := HAt w (fun k => k < w.heap.size ∧ col k = 10) h H
theorem PH.keep (x : PH w col h H) (hk : Kept F w w') (hF : ∀ k, k < w.heap.size → F k → col k ≠ 10) (c : Nat) : PH w' (paint w.heap.size c col) h H :=
  (HAt.kept x (hk.mono (G := fun k => k < w.heap.size ∧ F k) fun _ h1 h2 => ⟨h1, h2⟩) fun k h1 h2 => hF k h2.1 h2.2 h1.2).mono fun k h1 h2 => ⟨h1, by rw [paint_old h2.1]; exact h2.2⟩
theorem PH.turn (x : HAt w' (fun k => k < w.heap.size ∧ col k = 10) h H') (c : Nat) : PH w' (paint w.heap.size c col) h H' := x.mono fun _ h1 h2 => ⟨h1, by rw [paint_old h2.1]; exact h2.2⟩
/-! ### The four together -/
structure Four (w : World) (col : Nat → Nat) (d D W a b B n h : Nat) (S : Dv) (A : Ar) (L : List Nat) (H : Hs) : Prop where
  d : PD w col d D W S
  a : PA w col a A
  l : PL w col b B n L
  h : PH w col h H
theorem Four.keep (x : Four w col d D W a b B n h S A L H) (hk : Kept F w w') (hF : ∀ k, k < w.heap.size → F k → col k < 7 ∨ 10 < col k) (c : Nat) : Four w' (paint w.heap.size c col) d D W a b B n h S A L H :=
  ⟨x.d.keep hk (fun k h1 h2 => by have := hF k h1 h2; omega) c, x.a.keep hk (fun k h1 h2 => by have := hF k h1 h2; omega) c, x.l.keep hk (fun k h1 h2 => by have := hF k h1 h2; omega) c, x.h.keep hk (fun k h1 h2 => by have := hF k h1 h2; omega) c⟩
theorem Four.setD (x : Four w col d D W a b B n h S A L H) (h' : DevAt w' d D W (Bar w.heap.size col d D W) S') (hk : Kept (Dev.Own d D W) w w') : Four w' (paint w.heap.size 7 col) d D W a b B n h S' A L H :=
  ⟨x.d.turn h' hk.size, x.a.keep hk (fun k _ h2 => by rw [(x.d.own k h2).2]; decide) 7, x.l.keep hk (fun k _ h2 => by rw [(x.d.own k h2).2]; decide) 7, x.h.keep hk (fun k _ h2 => by rw [(x.d.own k h2).2]; decide) 7⟩
theorem Four.readD (x : Four w col d D W a b B n h S A L H) (h' : DevAt w' d D W (fun k => Bar w.heap.size col d D W k ∨ w.heap.size ≤ k) S') (hk : Kept (Dev.Own d D W) w w') (c : Nat) : Four w' (paint w.heap.size c col) d D W a b B n h S' A L H :=
  ⟨x.d.read h' hk.size c, x.a.keep hk (fun k _ h2 => by rw [(x.d.own k h2).2]; decide) c, x.l.keep hk (fun k _ h2 => by rw [(x.d.own k h2).2]; decide) c, x.h.keep hk (fun k _ h2 => by rw [(x.d.own k h2).2]; decide) c⟩
theorem Four.setA (x : Four w col d D W a b B n h S A L H) (h' : ArAt w' (fun k => k < w.heap.size ∧ col k = 8) a A') (hk : Kept (fun k => k < w.heap.size ∧ col k = 8) w w') (c : Nat) : Four w' (paint w.heap.size c col) d D W a b B n h S A' L H :=
  ⟨x.d.keep hk (fun k _ h2 => by rw [h2.2]; decide) c, PA.turn h' c, x.l.keep hk (fun k _ h2 => by rw [h2.2]; decide) c, x.h.keep hk (fun k _ h2 => by rw [h2.2]; decide) c⟩
theorem Four.setL (x : Four w col d D W a b B n h S A L H) (h' : ListAt w' b B n L') (hk : Kept (Rowed.Own b B) w w') (c : Nat) : Four w' (paint w.heap.size c col) d D W a b B n h S A L' H :=
  ⟨x.d.keep hk (fun k _ h2 => by rw [(x.l.own k h2).2]; decide) c, x.a.keep hk (fun k _ h2 => by rw [(x.l.own k h2).2]; decide) c, x.l.turn h' hk.size c, x.h.keep hk (fun k _ h2 => by rw [(x.l.own k h2).2]; decide) c⟩
theorem Four.setH (x : Four w col d D W a b B n h S A L H) (h' : HAt w' (fun k => k < w.heap.size ∧ col k = 10) h H') (hk : Kept (fun k => k < w.heap.size ∧ col k = 10) w w') (c : Nat) : Four w' (paint w.heap.size c col) d D W a b B n h S A L H' :=
  ⟨x.d.keep hk (fun k _ h2 => by rw [h2.2]; decide) c, x.a.keep hk (fun k _ h2 => by rw [h2.2]; decide) c, x.l.keep hk (fun k _ h2 => by rw [h2.2]; decide) c, PH.turn h' c⟩
end
end Go.Proofs.YtbnkpnllgoghnaaGreat.RgP

namespace Go.Proofs.YtbnkpnllgoghnaaGreat.RgS
open Go.ChangeShapes Go.WideShapes Go.ChangeAt Go.RowKit
open Go.Proofs.YtbnkpnllgoghnaaGreat.Mem Go.Proofs.YtbnkpnllgoghnaaGreat.Blk Go.Proofs.YtbnkpnllgoghnaaGreat.Cells Go.Proofs.YtbnkpnllgoghnaaGreat.RfP Go.Proofs.YtbnkpnllgoghnaaGreat.RgP
open Go.Proofs.YtbnkpnllgoghnaaGreat.ArM (Ar Fr)
open Go.Proofs.YtbnkpnllgoghnaaGreat.Dev (Dv DevAt)
open Go.Proofs.YtbnkpnllgoghnaaGreat.ArC (ArAt)
open Go.Proofs.YtbnkpnllgoghnaaGreat.Rowed (ListAt)
open Go.Proofs.YtbnkpnllgoghnaaGreat.HdM (Hs)
open Go.Proofs.YtbnkpnllgoghnaaGreat.HdC (HAt)
/-- Where all lies, and what never turns. -/
structure Nm where
  r : Nat
  d : Nat
  D : Nat
  W : Nat
  a : Nat
  b : Nat
  B : Nat
  h : Nat
  t : Nat
  n : Nat
  N : Nat
  K : Nat
def rcell (ν : Nm) (j : Nat) : Value :=
  if j = 0 then .pointer (some ⟨ν.d, 0, none⟩) else if j = 1 then .pointer (some ⟨ν.a, 0, none⟩) else if j = 2 then .pointer (some ⟨ν.h, 0, none⟩)
  else if j = 3 then .pointer (some ⟨ν.b, 0, none⟩) else if j = 4 then .slice (some ⟨ν.t, 0, none⟩) ν.n ν.n else .int .i64 (ν.N : Int)
def tcell (T : Nat → Bool) (j : Nat) : Value := .bool (T j)
structure MAt (w : World) (col : Nat → Nat) (ν : Nm) (S : Dv) (A : Ar) (L : List Nat) (H : Hs) (T : Nat → Bool) : Prop where
  own : Row w ν.r 6 (rcell ν)
  th : Row w ν.t ν.n (tcell T)
  four : Four w col ν.d ν.D ν.W ν.a ν.b ν.B ν.K ν.h S A L H
  cr : col ν.r = 6
  ct : col ν.t = 11
/-- The pool's blocks. -/
def Mine (w : World) (col : Nat → Nat) (k : Nat) : Prop := k < w.heap.size ∧ 6 ≤ col k ∧ col k ≤ 11
/-- What turned is the pool's; old blocks keep their colour. -/
structure Went (w : World) (col : Nat → Nat) (w' : World) (col' : Nat → Nat) : Prop where
  old : ∀ k, k < w.heap.size → col' k = col k
  kept : Kept (Mine w col) w w'
theorem Went.refl (w : World) (col : Nat → Nat) : Went w col w col := ⟨fun _ _ => rfl, Kept.refl _ _⟩
theorem Went.trans {a b c : World} {x y z : Nat → Nat} (h : Went a x b y) (k : Went b y c z) : Went a x c z :=
  ⟨fun i hi => (k.old i (Nat.lt_of_lt_of_le hi h.kept.size)).trans (h.old i hi), h.kept.then k.kept fun i hi m => ⟨hi, by have := m.2; rw [h.old i hi] at this; exact this⟩⟩
/-- A call's answer, and the pool behind it. -/
def Post (ν : Nm) (w : World) (col : Nat → Nat) (v : Value) (S : Dv) (A : Ar) (L : List Nat) (H : Hs) (T : Nat → Bool) (e : Ending) (w' : World) : Prop :=
  e = .returned v ∧ ∃ col', Went w col w' col' ∧ MAt w' col' ν S A L H T
section
variable {w w' : World} {F : Nat → Prop} {col col' : Nat → Nat} {c s d D W a b B h n : Nat} {ν : Nm} {S S' : Dv} {A A' : Ar} {L L' : List Nat} {H H' : Hs} {T : Nat → Bool}
/-! ### Colours of new blocks -/
theorem PD.recol (x : PD w (paint s 0 col) d D W S) (hc : ∀ k, k < s → col' k = col k) : PD w col' d D W S := by
  have hp : ∀ k, paint s 0 col k = 7 → k < s ∧ col' k = 7 := fun k e => by
    by_cases hk : k < s
    · rw [paint_old hk] at e; exact ⟨hk, (hc k hk).trans e⟩
    · rw [paint_new (by omega)] at e; omega
  refine ⟨x.at_.turn (fun k _ y => y.elim (fun y => .inl ⟨y.1, fun e => y.2 (hp k e).2⟩) .inr) fun k y => .inr y, fun k y => ⟨(x.own k y).1, (hp k (x.own k y).2).2⟩⟩
theorem paint_pos {k i : Nat} (hi : i ≠ 0) (e : paint s 0 col k = i) (hc : ∀ k, k < s → col' k = col k) : col' k = i := by
  by_cases hk : k < s
  · rw [paint_old hk] at e; exact (hc k hk).trans e
  · rw [paint_new (by omega)] at e; omega
theorem Four.recol (x : Four w (paint s 0 col) d D W a b B n h S A L H) (hc : ∀ k, k < s → col' k = col k) : Four w col' d D W a b B n h S A L H :=
  ⟨PD.recol x.d hc, x.a.mono fun _ h1 h2 => ⟨h1, paint_pos (by decide) h2.2 hc⟩, ⟨x.l.at_, fun k y => ⟨(x.l.own k y).1, paint_pos (by decide) (x.l.own k y).2 hc⟩⟩, x.h.mono fun _ h1 h2 => ⟨h1, paint_pos (by decide) h2.2 hc⟩⟩
/-! ### What it reads of its own -/
theorem MAt.c0 (x : MAt w col ν S A L H T) : w.cell? ⟨ν.r, 0, none⟩ = some (.pointer (some ⟨ν.d, 0, none⟩)) := x.own.cell (by omega)
theorem MAt.c1 (x : MAt w col ν S A L H T) : w.cell? ⟨ν.r, 1, none⟩ = some (.pointer (some ⟨ν.a, 0, none⟩)) := x.own.cell (by omega)
theorem MAt.c2 (x : MAt w col ν S A L H T) : w.cell? ⟨ν.r, 2, none⟩ = some (.pointer (some ⟨ν.h, 0, none⟩)) := x.own.cell (by omega)
theorem MAt.c3 (x : MAt w col ν S A L H T) : w.cell? ⟨ν.r, 3, none⟩ = some (.pointer (some ⟨ν.b, 0, none⟩)) := x.own.cell (by omega)
theorem MAt.c4 (x : MAt w col ν S A L H T) : w.cell? ⟨ν.r, 4, none⟩ = some (.slice (some ⟨ν.t, 0, none⟩) ν.n ν.n) := x.own.cell (by omega)
theorem MAt.c5 (x : MAt w col ν S A L H T) : w.cell? ⟨ν.r, 5, none⟩ = some (.int .i64 (ν.N : Int)) := x.own.cell (by omega)
theorem MAt.dev (x : MAt w col ν S A L H T) : DevAt w ν.d ν.D ν.W (Bar w.heap.size col ν.d ν.D ν.W) S := x.four.d.at_
theorem MAt.arena (x : MAt w col ν S A L H T) : ArAt w (fun k => k < w.heap.size ∧ col k = 8) ν.a A := x.four.a
theorem MAt.order (x : MAt w col ν S A L H T) : ListAt w ν.b ν.B ν.K L := x.four.l.at_
theorem MAt.hand (x : MAt w col ν S A L H T) : HAt w (fun k => k < w.heap.size ∧ col k = 10) ν.h H := x.four.h
/-! ### What turns it -/
/-- Others are turned, or made. -/
theorem MAt.keep (x : MAt w col ν S A L H T) (hk : Kept F w w') (hF : ∀ k, k < w.heap.size → F k → col k < 6 ∨ 11 < col k) (hc : ∀ k, k < w.heap.size → col' k = col k) : MAt w' col' ν S A L H T :=
  ⟨x.own.kept hk fun e => by have := hF _ x.own.lt e; rw [x.cr] at this; omega, x.th.kept hk fun e => by have := hF _ x.th.lt e; rw [x.ct] at this; omega,
    Four.recol (x.four.keep hk (fun k h1 h2 => by have := hF k h1 h2; omega) 0) hc, (hc _ x.own.lt).trans x.cr, (hc _ x.th.lt).trans x.ct⟩
theorem Went.grow (hk : Grow w w') : Went w col w' (paint w.heap.size 0 col) := ⟨fun _ h => paint_old h, Grow.kept hk⟩
theorem MAt.grow (x : MAt w col ν S A L H T) (hk : Grow w w') : MAt w' (paint w.heap.size 0 col) ν S A L H T := x.keep hk (fun _ _ f => f.elim) fun _ h => paint_old h
theorem MAt.drew (x : MAt w col ν S A L H T) : MAt w.drew col ν S A L H T := x.keep (Kept.drew' (F := fun _ => False) w) (fun _ _ f => f.elim) fun _ _ => rfl
theorem MAt.grow' (x : MAt w col ν S A L H T) (hk : Grow w w') : ∃ col', Went w col w' col' ∧ MAt w' col' ν S A L H T := ⟨_, Went.grow hk, x.grow hk⟩
theorem Went.drew (w : World) (col : Nat → Nat) : Went w col w.drew col := ⟨fun _ _ => rfl, Kept.drew' w⟩
theorem MAt.rest (x : MAt w col ν S A L H T) (hk : Kept F w w') (hF : ∀ k, k < w.heap.size → F k → col k ≠ 6 ∧ col k ≠ 11) (c : Nat) (hf : Four w' (paint w.heap.size c col) ν.d ν.D ν.W ν.a ν.b ν.B ν.K ν.h S' A' L' H') : MAt w' (paint w.heap.size c col) ν S' A' L' H' T :=
  ⟨x.own.kept hk fun e => (hF _ x.own.lt e).1 x.cr, x.th.kept hk fun e => (hF _ x.th.lt e).2 x.ct, hf, (paint_old x.own.lt).trans x.cr, (paint_old x.th.lt).trans x.ct⟩
theorem went (hk : Kept F w w') (hF : ∀ k, k < w.heap.size → F k → 6 ≤ col k ∧ col k ≤ 11) (c : Nat) : Went w col w' (paint w.heap.size c col) := ⟨fun _ h => paint_old h, hk.mono fun k h1 h2 => ⟨h1, hF k h1 h2⟩⟩
theorem MAt.setD (x : MAt w col ν S A L H T) (h' : DevAt w' ν.d ν.D ν.W (Bar w.heap.size col ν.d ν.D ν.W) S') (hk : Kept (Dev.Own ν.d ν.D ν.W) w w') : ∃ col', Went w col w' col' ∧ MAt w' col' ν S' A L H T :=
  have h7 := fun k y => (x.four.d.own k y).2
  ⟨_, went hk (fun k _ y => by rw [h7 k y]; omega) 7, x.rest hk (fun k _ y => by rw [h7 k y]; omega) 7 (x.four.setD h' hk)⟩
theorem MAt.readD (x : MAt w col ν S A L H T) (h' : DevAt w' ν.d ν.D ν.W (fun k => Bar w.heap.size col ν.d ν.D ν.W k ∨ w.heap.size ≤ k) S') (hk : Kept (Dev.Own ν.d ν.D ν.W) w w') : Went w col w' (paint w.heap.size 0 col) ∧ MAt w' (paint w.heap.size 0 col) ν S' A L H T :=
  have h7 := fun k y => (x.four.d.own k y).2
  ⟨went hk (fun k _ y => by rw [h7 k y]; omega) 0, x.rest hk (fun k _ y => by rw [h7 k y]; omega) 0 (x.four.readD h' hk 0)⟩
theorem MAt.setA (x : MAt w col ν S A L H T) (h' : ArAt w' (fun k => k < w.heap.size ∧ col k = 8) ν.a A') (hk : Kept (fun k => k < w.heap.size ∧ col k = 8) w w') : ∃ col', Went w col w' col' ∧ MAt w' col' ν S A' L H T :=
  ⟨_, went hk (fun k _ y => by rw [y.2]; omega) 0, x.rest hk (fun k _ y => by rw [y.2]; omega) 0 (x.four.setA h' hk 0)⟩
theorem MAt.setL (x : MAt w col ν S A L H T) (h' : ListAt w' ν.b ν.B ν.K L') (hk : Kept (Rowed.Own ν.b ν.B) w w') : ∃ col', Went w col w' col' ∧ MAt w' col' ν S A L' H T :=
  have h9 := fun k y => (x.four.l.own k y).2
  ⟨_, went hk (fun k _ y => by rw [h9 k y]; omega) 0, x.rest hk (fun k _ y => by rw [h9 k y]; omega) 0 (x.four.setL h' hk 0)⟩
theorem MAt.setH (x : MAt w col ν S A L H T) (h' : HAt w' (fun k => k < w.heap.size ∧ col k = 10) ν.h H') (hk : Kept (fun k => k < w.heap.size ∧ col k = 10) w w') : ∃ col', Went w col w' col' ∧ MAt w' col' ν S A L H' T :=
  ⟨_, went hk (fun k _ y => by rw [y.2]; omega) 0, x.rest hk (fun k _ y => by rw [y.2]; omega) 0 (x.four.setH h' hk 0)⟩
/-- One page comes, or goes. -/
theorem MAt.setT (x : MAt w col ν S A L H T) (q : Nat) (t : Bool) : ∃ col', Went w col (w.setCell ⟨ν.t, q, none⟩ (.bool t)) col' ∧ MAt (w.setCell ⟨ν.t, q, none⟩ (.bool t)) col' ν S A L H (TabM.upd T q t) := by
  have hk := kept_set w ν.t q (.bool t)
  have hs : ∀ k, k = ν.t → col k = 11 := fun k e => e ▸ x.ct
  have hne : ν.r ≠ ν.t := fun e => by have := x.cr; rw [e, x.ct] at this; omega
  refine ⟨_, went hk (fun k _ y => by rw [hs k y]; omega) 0, x.own.kept hk hne, ?_, x.four.keep hk (fun k _ y => by rw [hs k y]; omega) 0, (paint_old x.own.lt).trans x.cr, (paint_old x.th.lt).trans x.ct⟩
  refine (x.th.set q _).congr fun i _ => ?_
  show (if i = q then Value.bool t else .bool (T i)) = .bool (TabM.upd T q t i)
  by_cases e : i = q
  · subst e; rw [if_pos rfl, TabM.upd_same]
  · rw [if_neg e, TabM.upd_other _ _ e]
/-- A slice that is no part of the pool stays as it is. -/
theorem sl_off {k : IntKind} {m : Nat} {P : Option Addr} {zs : List Int} (h : Sl w m k P n zs) (hk : Kept F w w') (ho : ∀ x, P = some x → ¬ F x.block) : Sl w' m k P n zs :=
  ⟨h.1, fun h0 => by
    obtain ⟨g, o, e, hb, hc⟩ := h.2 h0
    exact ⟨g, o, e, hb, fun j hj => hk.cellN (hc j hj) (show ¬ F g from ho _ e)⟩⟩
end
end Go.Proofs.YtbnkpnllgoghnaaGreat.RgS

namespace Go.Proofs.YtbnkpnllgoghnaaGreat.ArD
open Go.ChangeShapes Go.WideShapes Go.ChangeAt Go.RowKit
open Go.Proofs.YtbnkpnllgoghnaaGreat.Mem Go.Proofs.YtbnkpnllgoghnaaGreat.Blk Go.Proofs.YtbnkpnllgoghnaaGreat.Cells Go.Proofs.YtbnkpnllgoghnaaGreat.Orow Go.Proofs.YtbnkpnllgoghnaaGreat.TabM Go.Proofs.YtbnkpnllgoghnaaGreat.ArM Go.Proofs.YtbnkpnllgoghnaaGreat.ArC Go.Proofs.YtbnkpnllgoghnaaGreat.Stages
section
variable {w w' : World} {G H F : Nat → Prop} {d g cap dl Dl dt Dt : Nat} {T : Tb} {a : Ar}
theorem get_big (h : Big w G d g cap dl Dl dt Dt T a) (hg : ArM.Good a) (p : Int) : Calls Tryz.prog 156 #[.pointer (some ⟨dt, 0, none⟩), .int .i64 p] w fun e w' => e = .returned (.int .i64 (a.find p)) ∧ w = w' := by
  have := TabO.get_any h.ta p
  rwa [h.ts.get hg p] at this
theorem find_any (h : ArAt w G d a) (p : Int) : Calls Tryz.prog 102 #[.pointer (some ⟨d, 0, none⟩), .int .i64 p] w fun e w' => e = .returned (.int .i64 (a.find p)) ∧ w = w' := by
  rcases h.mem with h' | ⟨g, cap, dl, Dl, dt, Dt, T, h'⟩
  · have c0 := h'.h2
    have HG := Lib.hid (TabO.get_nil (w := w) (key := p))
    have HE : Hid (a.find p = -1) := find_none fun x hx => by have := h'.zero; omega
    clear h h'
    go_enter Tryz.func102, Tryz.ntmps102
    go_wp2_with (go_at_call 156; (with_reducible refine HG.out.mono ?_); rintro e w' ⟨rfl, rfl⟩)
    go_ret
    exact ⟨by rw [HE.out]; rfl, rfl⟩
  · have c0 := h'.h2
    have HG := Lib.hid (get_big h' h.good p)
    clear h h'
    go_enter Tryz.func102, Tryz.ntmps102
    go_wp2_with (go_at_call 156; (with_reducible refine HG.out.mono ?_); rintro e w' ⟨rfl, rfl⟩)
    go_ret
    exact ⟨rfl, rfl⟩
theorem free_any (h : ArAt w G d a) : Calls Tryz.prog 145 #[.pointer (some ⟨d, 0, none⟩)] w fun e w' => e = .returned (.int .i64 (a.Q.length : Int)) ∧ w = w' := by
  rcases h.mem with h' | ⟨g, cap, dl, Dl, dt, Dt, T, h'⟩
  · have c0 := h'.h1
    have HE : Hid (a.Q = []) := h.good.empty h'.zero
    clear h h'
    go_enter Tryz.func145, Tryz.ntmps145
    go_wp2_with (go_at_call 139; (with_reducible refine ListC.len_nil.mono ?_); rintro e w' ⟨rfl, rfl⟩)
    go_ret
    exact ⟨by rw [HE.out]; rfl, rfl⟩
  · have c0 := h'.h1
    have HG := Lib.hid (ListC.len_any h'.li)
    clear h h'
    go_enter Tryz.func145, Tryz.ntmps145
    go_wp2_with (go_at_call 139; (with_reducible refine HG.out.mono ?_); rintro e w' ⟨rfl, rfl⟩)
    go_ret
    exact ⟨rfl, rfl⟩
theorem ArAt.big (h : ArAt w G d a) (hn : 0 < a.n) : ∃ g cap dl Dl dt Dt T, Big w G d g cap dl Dl dt Dt T a := by
  rcases h.mem with h' | h'
  · have := h'.zero; omega
  · exact h'
/-- Frames that are turned in their block. -/
theorem Big.turn {F' : Nat → Fr} {T' : Tb} {n' : Nat} (h : Big w G d g cap dl Dl dt Dt T a) (hn : n' = a.n) (hk : Kept (· = g) w w') (hf : FR w' g cap n' F') (ht : T' = T) (hs : Tabs T' ⟨n', F', a.B, a.Q⟩) : Big w' G d g cap dl Dl dt Dt T' ⟨n', F', a.B, a.Q⟩ := by
  subst hn ht
  refine ⟨h.hd.kept hk h.ne.dg, hf, h.li.kept hk fun k x y => ?_, TabC.Raw.kept h.ta hk fun k x y => ?_, hs, h.ne, h.inG, h.pos⟩
  · subst x
    rcases y with y | y
    · exact h.ne.gdl y
    · exact h.ne.gDl y
  · subst x
    rcases y with y | y
    · exact h.ne.gdt y
    · exact h.ne.gDt y
theorem pin_bad (h : ArAt w G d a) (k : Int) (hk : a.used k = false) : Calls Tryz.prog 149 #[.pointer (some ⟨d, 0, none⟩), .int .i64 k] w fun e w' => e = .returned (.int .i64 2) ∧ w = w' := by
  have HU := Lib.hid (used_bad h k hk)
  clear h hk
  go_enter Tryz.func149, Tryz.ntmps149
  go_wp2_with (go_at_call 148; (with_reducible refine HU.out.mono ?_); rintro e w' ⟨rfl, rfl⟩)
  go_ret
  exact ⟨rfl, rfl⟩
theorem pin_any (h : ArAt w G d a) (k : Int) : Calls Tryz.prog 149 #[.pointer (some ⟨d, 0, none⟩), .int .i64 k] w (APost G d w (.int .i64 (a.pinC k)) (a.pin k)) := by
  cases hu : a.used k with
  | false =>
    have e1 : a.pinC k = 2 := by unfold Ar.pinC; rw [hu]; rfl
    have e2 : a.pin k = a := by unfold Ar.pin; rw [e1]; rfl
    rw [e1, e2]
    exact (pin_bad h k hu).mono fun e w' ⟨h1, h2⟩ => ⟨h1, h2 ▸ h, h2 ▸ Kept.refl _ _⟩
  | true =>
    obtain ⟨f, rfl, hf, hs⟩ := used_iff.1 hu
    have HG := Lib.hid (h.good.pin (f : Int))
    have hbd := h.good.use f hf hs
    have hn32 := h.good.n
    obtain ⟨g, cap, dl, Dl, dt, Dt, T, hb⟩ := ArAt.big h (by omega)
    have HU := Lib.hid (used_good hb h.good.n f hf hs)
    have c0 := hb.h0
    have f2 := hb.fr.c2 hf
    have fz := hb.fr.frozen (f * 5 + 2)
    have hfz : (f : Int) < (a.n : Int) := by omega
    have hnz : (a.n : Int) ≤ 32 := by omega
    by_cases h1000 : 1000 ≤ (a.F f).pn
    · have e1 : a.pinC (f : Int) = 12 := by unfold Ar.pinC; rw [if_pos hu, Int.toNat_natCast, if_pos h1000]
      have e2 : a.pin (f : Int) = a := by unfold Ar.pin; rw [e1]; rfl
      have h1e : (a.F f).pn = 1000 := by omega
      rw [h1e] at f2
      have HA := Lib.hid h
      rw [e1, e2]
      clear h hb hbd h1000 h1e e1 e2 HG hu hs
      go_enter Tryz.func149, Tryz.ntmps149
      go_wp2_with (go_at_call 148; (with_reducible refine HU.out.mono ?_); rintro e w' ⟨rfl, rfl⟩)
      go_ret
      exact ⟨rfl, HA.out, Kept.refl _ _⟩
    · have e1 : a.pinC (f : Int) = 0 := by unfold Ar.pinC; rw [if_pos hu, Int.toNat_natCast, if_neg h1000]
      have e2 : a.pin (f : Int) = a.turn f ⟨(a.F f).st, (a.F f).pg, (a.F f).pn + 1, (a.F f).di⟩ := by unfold Ar.pin; rw [if_pos e1, Int.toNat_natCast]
      rw [e2] at HG
      rw [e1, e2]
      have HK := Lib.hid (kept_set w g (f * 5 + 2) (.int .i64 ((a.F f).pn + 1)))
      have HB := Lib.hid (Big.turn hb rfl HK.out (hb.fr.set2 f ((a.F f).pn + 1)) rfl (hb.ts.turn (v := ⟨(a.F f).st, (a.F f).pg, (a.F f).pn + 1, (a.F f).di⟩) (B' := a.B) (Q' := a.Q) hf Iff.rfl fun _ => rfl))
      have HI := Lib.hid hb.inG
      have h1p : ((a.F f).pn == 1000) = false := by rw [beq_eq_false_iff_ne]; omega
      obtain ⟨_, _, hp0, hp1⟩ := hbd
      clear h hb h1000 e1 e2 hu hs
      unfold Ar.turn at HG ⊢
      generalize (a.F f).pn = pn at *
      go_enter Tryz.func149, Tryz.ntmps149
      go_wp2_with (go_at_call 148; (with_reducible refine HU.out.mono ?_); rintro e w' ⟨rfl, rfl⟩)
      go_ret
      exact ⟨rfl, ⟨HG.out, .inr ⟨_, _, _, _, _, _, _, HB.out⟩⟩, HK.out.mono fun k _ e => by subst e; exact HI.out.2.1⟩
theorem unpin_bad (h : ArAt w G d a) (k : Int) (hk : a.used k = false) : Calls Tryz.prog 100 #[.pointer (some ⟨d, 0, none⟩), .int .i64 k] w fun e w' => e = .returned (.int .i64 2) ∧ w = w' := by
  have HU := Lib.hid (used_bad h k hk)
  clear h hk
  go_enter Tryz.func100, Tryz.ntmps100
  go_wp2_with (go_at_call 148; (with_reducible refine HU.out.mono ?_); rintro e w' ⟨rfl, rfl⟩)
  go_ret
  exact ⟨rfl, rfl⟩
theorem unpin_any (h : ArAt w G d a) (k : Int) : Calls Tryz.prog 100 #[.pointer (some ⟨d, 0, none⟩), .int .i64 k] w (APost G d w (.int .i64 (a.unpinC k)) (a.unpin k)) := by
  cases hu : a.used k with
  | false =>
    have e1 : a.unpinC k = 2 := by unfold Ar.unpinC; rw [hu]; rfl
    have e2 : a.unpin k = a := by unfold Ar.unpin; rw [e1]; rfl
    rw [e1, e2]
    exact (unpin_bad h k hu).mono fun e w' ⟨h1, h2⟩ => ⟨h1, h2 ▸ h, h2 ▸ Kept.refl _ _⟩
  | true =>
    obtain ⟨f, rfl, hf, hs⟩ := used_iff.1 hu
    have HG := Lib.hid (h.good.unpin (f : Int))
    have hbd := h.good.use f hf hs
    have hn32 := h.good.n
    obtain ⟨g, cap, dl, Dl, dt, Dt, T, hb⟩ := ArAt.big h (by omega)
    have HU := Lib.hid (used_good hb h.good.n f hf hs)
    have c0 := hb.h0
    have f2 := hb.fr.c2 hf
    have fz := hb.fr.frozen (f * 5 + 2)
    have hfz : (f : Int) < (a.n : Int) := by omega
    have hnz : (a.n : Int) ≤ 32 := by omega
    by_cases hz0 : (a.F f).pn = 0
    · have e1 : a.unpinC (f : Int) = 12 := by unfold Ar.unpinC; rw [if_pos hu, Int.toNat_natCast, if_pos hz0]
      have e2 : a.unpin (f : Int) = a := by unfold Ar.unpin; rw [e1]; rfl
      have h1e : (a.F f).pn = 0 := hz0
      rw [h1e] at f2
      have HA := Lib.hid h
      rw [e1, e2]
      clear h hb hbd hz0 h1e e1 e2 HG hu hs
      go_enter Tryz.func100, Tryz.ntmps100
      go_wp2_with (go_at_call 148; (with_reducible refine HU.out.mono ?_); rintro e w' ⟨rfl, rfl⟩)
      go_ret
      exact ⟨rfl, HA.out, Kept.refl _ _⟩
    · have e1 : a.unpinC (f : Int) = 0 := by unfold Ar.unpinC; rw [if_pos hu, Int.toNat_natCast, if_neg hz0]
      have e2 : a.unpin (f : Int) = a.turn f ⟨(a.F f).st, (a.F f).pg, (a.F f).pn - 1, (a.F f).di⟩ := by unfold Ar.unpin; rw [if_pos e1, Int.toNat_natCast]
      rw [e2] at HG
      rw [e1, e2]
      have HK := Lib.hid (kept_set w g (f * 5 + 2) (.int .i64 ((a.F f).pn - 1)))
      have HB := Lib.hid (Big.turn hb rfl HK.out (hb.fr.set2 f ((a.F f).pn - 1)) rfl (hb.ts.turn (v := ⟨(a.F f).st, (a.F f).pg, (a.F f).pn - 1, (a.F f).di⟩) (B' := a.B) (Q' := a.Q) hf Iff.rfl fun _ => rfl))
      have HI := Lib.hid hb.inG
      have h1p : ((a.F f).pn == 0) = false := by rw [beq_eq_false_iff_ne]; omega
      obtain ⟨_, _, hp0, hp1⟩ := hbd
      clear h hb hz0 e1 e2 hu hs
      unfold Ar.turn at HG ⊢
      generalize (a.F f).pn = pn at *
      go_enter Tryz.func100, Tryz.ntmps100
      go_wp2_with (go_at_call 148; (with_reducible refine HU.out.mono ?_); rintro e w' ⟨rfl, rfl⟩)
      go_ret
      exact ⟨rfl, ⟨HG.out, .inr ⟨_, _, _, _, _, _, _, HB.out⟩⟩, HK.out.mono fun k _ e => by subst e; exact HI.out.2.1⟩
theorem mark_any (h : ArAt w G d a) (k : Int) (q : Bool) : Calls Tryz.prog 91 #[.pointer (some ⟨d, 0, none⟩), .int .i64 k, .bool q] w (APost G d w (.int .i64 (a.markC k)) (a.mark k q)) := by
  cases hu : a.used k with
  | false =>
    have e1 : a.markC k = 2 := by unfold Ar.markC; rw [hu]; rfl
    have e2 : a.mark k q = a := by unfold Ar.mark; rw [hu]; rfl
    rw [e1, e2]
    have HU := Lib.hid (used_bad h k hu)
    have HA := Lib.hid h
    clear h hu e1 e2
    go_enter Tryz.func91, Tryz.ntmps91
    go_wp2_with (go_at_call 148; (with_reducible refine HU.out.mono ?_); rintro e w' ⟨rfl, rfl⟩)
    go_ret
    exact ⟨rfl, HA.out, Kept.refl _ _⟩
  | true =>
    obtain ⟨f, rfl, hf, hs⟩ := used_iff.1 hu
    have HG := Lib.hid (h.good.mark (f : Int) q)
    have hn32 := h.good.n
    obtain ⟨g, cap, dl, Dl, dt, Dt, T, hb⟩ := ArAt.big h (by omega)
    have HU := Lib.hid (used_good hb h.good.n f hf hs)
    have c0 := hb.h0
    have f4 := hb.fr.c4 hf
    have fz := hb.fr.frozen (f * 5 + 4)
    have hfz : (f : Int) < (a.n : Int) := by omega
    have hnz : (a.n : Int) ≤ 32 := by omega
    have e1 : a.markC (f : Int) = 0 := by unfold Ar.markC; rw [if_pos hu]
    have e2 : a.mark (f : Int) q = a.turn f ⟨(a.F f).st, (a.F f).pg, (a.F f).pn, q⟩ := by unfold Ar.mark; rw [if_pos hu, Int.toNat_natCast]
    rw [e2] at HG
    rw [e1, e2]
    have HK := Lib.hid (kept_set w g (f * 5 + 4) (.bool q))
    have HB := Lib.hid (Big.turn hb rfl HK.out (hb.fr.set4 f q) rfl (hb.ts.turn (v := ⟨(a.F f).st, (a.F f).pg, (a.F f).pn, q⟩) (B' := a.B) (Q' := a.Q) hf Iff.rfl fun _ => rfl))
    have HI := Lib.hid hb.inG
    clear h hb e1 e2 hu hs
    unfold Ar.turn at HG ⊢
    go_enter Tryz.func91, Tryz.ntmps91
    go_wp2_with (go_at_call 148; (with_reducible refine HU.out.mono ?_); rintro e w' ⟨rfl, rfl⟩)
    go_ret
    exact ⟨rfl, ⟨HG.out, .inr ⟨_, _, _, _, _, _, _, HB.out⟩⟩, HK.out.mono fun k _ e => by subst e; exact HI.out.2.1⟩
end
end Go.Proofs.YtbnkpnllgoghnaaGreat.ArD

namespace Go.Proofs.YtbnkpnllgoghnaaGreat.ArR
open Go.ChangeShapes Go.WideShapes Go.ChangeAt Go.RowKit
open Go.Proofs.YtbnkpnllgoghnaaGreat.Mem Go.Proofs.YtbnkpnllgoghnaaGreat.Blk Go.Proofs.YtbnkpnllgoghnaaGreat.Cells Go.Proofs.YtbnkpnllgoghnaaGreat.Orow Go.Proofs.YtbnkpnllgoghnaaGreat.TabM Go.Proofs.YtbnkpnllgoghnaaGreat.ArM Go.Proofs.YtbnkpnllgoghnaaGreat.ArC Go.Proofs.YtbnkpnllgoghnaaGreat.ArD Go.Proofs.YtbnkpnllgoghnaaGreat.Stages
section
variable {w w' : World} {G H F : Nat → Prop} {d g cap dl Dl dt Dt : Nat} {T : Tb} {a : Ar}
theorem release_any (h : Core w G d g cap dl Dl dt Dt T a) (hn : a.n ≤ 32) (f : Nat) (hf : f < a.n) (hq : f ∉ a.Q) :
    Calls Tryz.prog 142 #[.pointer (some ⟨d, 0, none⟩), .int .i64 (f : Int)] w fun e w' => e = .returned (.tuple #[]) ∧ Core w' G d g cap dl Dl dt Dt T (a.dropF f) ∧ Kept G w w' := by
  have c0 := h.h0
  have f0 := h.fr.c0 hf
  have f1 := h.fr.c1 hf
  have f2 := h.fr.c2 hf
  have f3 := h.fr.c3 hf
  have f4 := h.fr.c4 hf
  have fz := h.fr.frozen
  have hfz : (f : Int) < (a.n : Int) := by omega
  have hnz : (a.n : Int) ≤ 32 := by omega
  have HF : Hid (FR (setF w g f fFree) g cap a.n (upd a.F f fFree)) := h.fr.setF f fFree
  have HK := Lib.hid (kept_setF w g f fFree)
  have H := Lib.hid h
  clear h
  go_enter Tryz.func142, Tryz.ntmps142
  go_upto_region 1 with (fail)
  rw [show (((((w.setCell ⟨g, f * 5, none⟩ (.int .i64 0)).setCell ⟨g, f * 5 + 1, none⟩ (.int .i64 (-1))).setCell ⟨g, f * 5 + 2, none⟩ (.int .i64 0)).setCell ⟨g, f * 5 + 3, none⟩ (.int .i64 0)).setCell ⟨g, f * 5 + 4, none⟩ (.bool false)) = setF w g f fFree from rfl]
  have H1 := Lib.hid (H.out.frm HF.out HK.out)
  have HK1 := Lib.hid (H.out.kg HK.out)
  clear HF HK c0 f0 f1 f2 f3 f4 fz
  generalize setF w g f fFree = w1 at *
  have c1 := H1.out.h1
  have HB := Lib.hid (ListC.back_good H1.out.li f (by omega) hq)
  go_wp2_with (go_at_call 176; (with_reducible refine HB.out.mono ?_); rintro e w2 ⟨rfl, hl, hk, _⟩; have HL := Lib.hid hl; have HK2 := Lib.hid hk; clear hl hk)
  go_end0
  exact ⟨rfl, H1.out.lst HL.out HK2.out, HK1.out.trans (H.out.kl HK2.out)⟩
theorem drop_bad (h : ArAt w G d a) (k : Int) (hk : a.used k = false) : Calls Tryz.prog 159 #[.pointer (some ⟨d, 0, none⟩), .int .i64 k] w fun e w' => e = .returned (.int .i64 2) ∧ w = w' := by
  have HU := Lib.hid (used_bad h k hk)
  clear h hk
  go_enter Tryz.func159, Tryz.ntmps159
  go_wp2_with (go_at_call 148; (with_reducible refine HU.out.mono ?_); rintro e w' ⟨rfl, rfl⟩)
  go_ret
  exact ⟨rfl, rfl⟩
theorem drop_any (h : ArAt w G d a) (k : Int) : Calls Tryz.prog 159 #[.pointer (some ⟨d, 0, none⟩), .int .i64 k] w (APost G d w (.int .i64 (a.dropC k)) (a.drop k)) := by
  cases hu : a.used k with
  | false =>
    have e1 : a.dropC k = 2 := by unfold Ar.dropC; rw [hu]; rfl
    have e2 : a.drop k = a := by unfold Ar.drop; rw [e1]; rfl
    rw [e1, e2]
    exact (drop_bad h k hu).mono fun e w' ⟨h1, h2⟩ => ⟨h1, h2 ▸ h, h2 ▸ Kept.refl _ _⟩
  | true =>
    obtain ⟨f, rfl, hf, hs⟩ := used_iff.1 hu
    have HG := Lib.hid (h.good.drop (f : Int))
    have hbd := h.good.use f hf hs
    have hn32 := h.good.n
    obtain ⟨g, cap, dl, Dl, dt, Dt, T, hb⟩ := ArAt.big h (by omega)
    have HU := Lib.hid (used_good hb h.good.n f hf hs)
    have c0 := hb.h0
    have f2 := hb.fr.c2 hf
    have f1 := hb.fr.c1 hf
    have c2 := hb.h2
    have hfz : (f : Int) < (a.n : Int) := by omega
    have hnz : (a.n : Int) ≤ 32 := by omega
    by_cases hpos : 0 < (a.F f).pn
    · have e1 : a.dropC (f : Int) = 7 := by unfold Ar.dropC; rw [if_pos hu, Int.toNat_natCast, if_pos hpos]
      have e2 : a.drop (f : Int) = a := by unfold Ar.drop; rw [e1]; rfl
      have HA := Lib.hid h
      rw [e1, e2]
      clear h hb hbd e1 e2 HG hu hs
      generalize (a.F f).pn = pn at *
      go_enter Tryz.func159, Tryz.ntmps159
      go_wp2_with (go_at_call 148; (with_reducible refine HU.out.mono ?_); rintro e w' ⟨rfl, rfl⟩)
      go_ret
      exact ⟨rfl, HA.out, Kept.refl _ _⟩
    · have e1 : a.dropC (f : Int) = 0 := by unfold Ar.dropC; rw [if_pos hu, Int.toNat_natCast, if_neg hpos]
      have e2 : a.drop (f : Int) = a.dropF f := by unfold Ar.drop; rw [if_pos e1, Int.toNat_natCast]
      rw [e2] at HG
      rw [e1, e2]
      have hbd2 := hb.kept (Kept.drew' (F := fun _ => False) w) fun _ _ x => x
      have HO := Lib.hid (TabO.out_any hbd2.ta (a.F f).pg)
      have HT : Hid (Tabs (T.out (a.F f).pg) (a.dropF f)) := hb.ts.out h.good hf hs (by show (0 : Int) ≠ 1; omega)
      have HR : Hid (∀ w1, TabC.TabAt w1 dt Dt (T.out (a.F f).pg) → Kept (TabC.Own dt Dt) w.drew w1 → Calls Tryz.prog 142 #[.pointer (some ⟨d, 0, none⟩), .int .i64 (f : Int)] w1 fun e w' => e = .returned (.tuple #[]) ∧ Core w' G d g cap dl Dl dt Dt (T.out (a.F f).pg) (a.dropF f) ∧ Kept G w1 w') := fun w1 ht hk => release_any (hbd2.core.tab ht hk) hn32 f hf (fun hm => by have := (h.good.q f).1 hm; omega)
      have HI := Lib.hid hb.core
      have HP := Lib.hid hb.pos
      have h0 : (a.F f).pn = 0 := by omega
      rw [h0] at f2
      clear h hb e1 e2 hu hs hbd hpos h0 hbd2
      generalize T.get (a.F f).pg = tg at *
      generalize T.out (a.F f).pg = T2 at *
      generalize (a.F f).pg = pg at *
      go_enter Tryz.func159, Tryz.ntmps159
      go_upto_region 6 with (go_at_call 148; (with_reducible refine HU.out.mono ?_); rintro e w' ⟨rfl, rfl⟩)
      have hne := HI.out.ne
      have q0 := up_cell (F := TabC.Own dt Dt) (w := w.drew) (p := ⟨d, 0, none⟩) c0 (fun x => x.elim hne.ddt hne.dDt)
      have q1 := up_cell (F := TabC.Own dt Dt) (w := w.drew) (p := ⟨d, 514, none⟩) c2 (fun x => x.elim hne.ddt hne.dDt)
      have q2 := up_cell (F := TabC.Own dt Dt) (w := w.drew) (p := ⟨g, f * 5 + 1, none⟩) f1 (fun x => x.elim hne.gdt hne.gDt)
      clear hne
      refine wp_region_stages (Kept (TabC.Own dt Dt)) (kept_refl _) (kept_trans _) [([0, 1, 2, 3, 4, 5, 6, 7, 8, 9, 10, 11], 12)] [] (by kernel_rfl) (by kernel_rfl) ?_
      simp only [selSt, sel, List.map_cons, List.map_nil, List.getD_cons_succ, List.getD_cons_zero]
      refine st_cons fun K1 hK1 => ?_
      repeat (go_big_quiet_step (fail))
      refine wpQuiet_nil ?_
      clear q0 q1 q2
      go_wp2_with (go_at_call 188; (with_reducible refine HO.out.mono ?_); rintro e w1 ⟨rfl, ht, hk⟩; have HT1 := Lib.hid ht; have HK1 := Lib.hid hk; clear ht hk)
      refine norm_up (hK1 _ _ HK1.out (st_nil fun K2 hK2 => wpQuiet_nil (hK2 _ ?_)))
      clear hK1 hK2 K1 K2
      go_wp2_with (go_at_call 142; (with_reducible refine (HR.out _ HT1.out HK1.out).mono ?_); rintro e w2 ⟨rfl, hc, hk⟩; have HC := Lib.hid hc; have HK2 := Lib.hid hk; clear hc hk)
      go_ret
      exact ⟨rfl, ⟨HG.out, .inr ⟨_, _, _, _, _, _, _, HC.out.big HT.out HP.out⟩⟩, ((Kept.drew' w).trans (HI.out.kt HK1.out)).trans HK2.out⟩
end
end Go.Proofs.YtbnkpnllgoghnaaGreat.ArR

namespace Go.Proofs.YtbnkpnllgoghnaaGreat.HdO
open Go.ChangeShapes Go.WideShapes Go.ChangeAt Go.RowKit
open Go.Proofs.YtbnkpnllgoghnaaGreat.Mem Go.Proofs.YtbnkpnllgoghnaaGreat.Blk Go.Proofs.YtbnkpnllgoghnaaGreat.Cells Go.Proofs.YtbnkpnllgoghnaaGreat.Orow Go.Proofs.YtbnkpnllgoghnaaGreat.HdM Go.Proofs.YtbnkpnllgoghnaaGreat.HdC Go.Proofs.YtbnkpnllgoghnaaGreat.Stages
section
variable {w w' : World} {G F X : Nat → Prop} {v : Value} {n d : Nat} {a : Hs}
theorem client_cases (a : Hs) (c : Int) : (¬ (0 ≤ c ∧ c < (a.n : Int))) ∨ ∃ k : Nat, c = (k : Int) ∧ k < a.n := by
  by_cases h : 0 ≤ c ∧ c < (a.n : Int)
  · obtain ⟨k, rfl⟩ := Int.eq_ofNat_of_zero_le h.1
    exact .inr ⟨k, rfl, by omega⟩
  · exact .inl h
theorem page_any (h : HAt w G d a) (c j : Int) : Calls Tryz.prog 152 #[.pointer (some ⟨d, 0, none⟩), .int .i64 c, .int .i64 j] w fun e w' => e = .returned (.int .i64 (a.page c j)) ∧ w = w' := by
  rcases client_cases a c with hc | ⟨k, rfl, hk⟩
  · rw [page_out hc]
    have HF := Lib.hid (of_bad h c hc)
    clear h hc
    by_cases h0 : j < 0
    · go_enter Tryz.func152, Tryz.ntmps152
      go_wp2_with (go_at_call 144; (with_reducible refine HF.out.mono ?_); rintro e w' ⟨rfl, rfl⟩)
      go_ret
      exact ⟨rfl, rfl⟩
    · have h1 : 0 ≤ j := by omega
      clear h0
      go_enter Tryz.func152, Tryz.ntmps152
      go_wp2_with (go_at_call 144; (with_reducible refine HF.out.mono ?_); rintro e w' ⟨rfl, rfl⟩)
      go_ret
      exact ⟨rfl, rfl⟩
  · obtain ⟨g, cap, b, c, ho⟩ := h.own hk
    have HF := Lib.hid (of_good ho hk)
    have HR := Lib.hid ho.row
    clear h ho
    by_cases hj : 0 ≤ j ∧ j < 6
    · obtain ⟨h0, h6⟩ := hj
      obtain ⟨i, rfl⟩ := Int.eq_ofNat_of_zero_le h0
      have hi : i < 6 := by omega
      rw [page_in hk hi]
      have r1 := hcell_get HR.out hi
      clear hk h0 hi
      go_enter Tryz.func152, Tryz.ntmps152
      go_wp2_with (go_at_call 144; (with_reducible refine HF.out.mono ?_); rintro e w' ⟨rfl, rfl⟩)
      go_ret
      exact ⟨rfl, rfl⟩
    · rw [page_off hk hj]
      clear hk
      by_cases h0 : j < 0
      · clear hj
        go_enter Tryz.func152, Tryz.ntmps152
        go_wp2_with (go_at_call 144; (with_reducible refine HF.out.mono ?_); rintro e w' ⟨rfl, rfl⟩)
        go_ret
        exact ⟨rfl, rfl⟩
      · have h1 : 0 ≤ j := by omega
        have h6 : 6 ≤ j := by omega
        clear h0 hj
        go_enter Tryz.func152, Tryz.ntmps152
        go_wp2_with (go_at_call 144; (with_reducible refine HF.out.mono ?_); rintro e w' ⟨rfl, rfl⟩)
        go_ret
        exact ⟨rfl, rfl⟩
theorem give_any (h : HAt w G d a) (c p : Int) : Calls Tryz.prog 150 #[.pointer (some ⟨d, 0, none⟩), .int .i64 c, .int .i64 p] w (HPost G d w (.int .i64 (a.give c p)) (a.gave c p)) := by
  rcases client_cases a c with hc | ⟨k, rfl, hk⟩
  · rw [gave_not (give_out hc p), give_out hc p]
    have HF := Lib.hid (of_bad h c hc)
    have HL := Lib.hid (least_nil w none 0)
    have HA := Lib.hid h
    clear h hc
    by_cases h0 : p < 0
    · go_enter Tryz.func150, Tryz.ntmps150
      go_wp2_with (first
        | (go_at_call 144; (with_reducible refine HF.out.mono ?_); rintro e w' ⟨rfl, rfl⟩)
        | (go_at_call 143; (with_reducible refine HL.out.mono ?_); rintro e w' ⟨rfl, rfl⟩))
      go_ret
      exact ⟨rfl, HA.out, Kept.refl _ _⟩
    · have h1 : 0 ≤ p := by omega
      clear h0
      go_enter Tryz.func150, Tryz.ntmps150
      go_wp2_with (first
        | (go_at_call 144; (with_reducible refine HF.out.mono ?_); rintro e w' ⟨rfl, rfl⟩)
        | (go_at_call 143; (with_reducible refine HL.out.mono ?_); rintro e w' ⟨rfl, rfl⟩))
      go_ret
      exact ⟨rfl, HA.out, Kept.refl _ _⟩
  · obtain ⟨g, cap, b, c, ho⟩ := h.own hk
    have HF := Lib.hid (of_good ho hk)
    have HL := Lib.hid (least_six (c := c) ho.row)
    have HA := Lib.hid h
    have HO := Lib.hid ho
    clear h ho
    by_cases h0 : p < 0
    · rw [gave_not (give_low h0 _), give_low h0]
      generalize hnd (a.H k) 6 = z at HL
      clear hk
      go_enter Tryz.func150, Tryz.ntmps150
      go_wp2_with (first
        | (go_at_call 144; (with_reducible refine HF.out.mono ?_); rintro e w' ⟨rfl, rfl⟩)
        | (go_at_call 143; (with_reducible refine HL.out.mono ?_); rintro e w' ⟨rfl, rfl⟩))
      go_ret
      exact ⟨rfl, HA.out, Kept.refl _ _⟩
    · have h1 : 0 ≤ p := by omega
      have hgi := give_in hk h0
      clear h0 hk
      rcases hnd_cases (a.H k) 6 with ⟨e1, _⟩ | ⟨j, hj, e1, e2, _⟩
      · rw [e1] at HL hgi
        rw [gave_not hgi, hgi]
        clear e1 hgi
        go_enter Tryz.func150, Tryz.ntmps150
        go_wp2_with (first
          | (go_at_call 144; (with_reducible refine HF.out.mono ?_); rintro e w' ⟨rfl, rfl⟩)
          | (go_at_call 143; (with_reducible refine HL.out.mono ?_); rintro e w' ⟨rfl, rfl⟩))
        go_ret
        exact ⟨rfl, HA.out, Kept.refl _ _⟩
      · rw [e1] at HL hgi
        rw [gave_at hgi, hgi]
        have r1 := hcell_get HO.out.row hj
        have rf := HO.out.row.frozen j
        have hjz : (j : Int) < 6 := by omega
        have hjn : ((j : Int) == -1) = false := by simp
        have HP : Hid (HAt (w.setCell ⟨b, j, none⟩ (.int .i64 p)) G d (a.put k j p)) := HO.out.put j p (by omega)
        have HI := Lib.hid HO.out.inG
        clear e1 e2 hgi hj HO HA
        go_enter Tryz.func150, Tryz.ntmps150
        go_wp2_with (first
          | (go_at_call 144; (with_reducible refine HF.out.mono ?_); rintro e w' ⟨rfl, rfl⟩)
          | (go_at_call 143; (with_reducible refine HL.out.mono ?_); rintro e w' ⟨rfl, rfl⟩))
        go_ret
        exact ⟨rfl, HP.out, (kept_set w b j _).mono fun x _ e => by rw [e]; exact HI.out⟩
theorem back_any (h : HAt w G d a) (c j : Int) : Calls Tryz.prog 99 #[.pointer (some ⟨d, 0, none⟩), .int .i64 c, .int .i64 j] w (HPost G d w (.int .i64 (a.page c j)) (a.back c j)) := by
  have HG := Lib.hid (page_any h c j)
  by_cases hp : a.page c j = -1
  · rw [back_not hp, hp]
    rw [hp] at HG
    have HA := Lib.hid h
    clear h hp
    go_enter Tryz.func99, Tryz.ntmps99
    go_wp2_with (go_at_call 152; (with_reducible refine HG.out.mono ?_); rintro e w' ⟨rfl, rfl⟩)
    go_ret
    exact ⟨rfl, HA.out, Kept.refl _ _⟩
  · rcases client_cases a c with hc | ⟨k, rfl, hk⟩
    · exact absurd (page_out hc j) hp
    · by_cases hj : 0 ≤ j ∧ j < 6
      · obtain ⟨h0, h6⟩ := hj
        obtain ⟨i, rfl⟩ := Int.eq_ofNat_of_zero_le h0
        have hi : i < 6 := by omega
        obtain ⟨g, cap, b, c, ho⟩ := h.own hk
        have HF := Lib.hid (of_good ho hk)
        have r1 := hcell_get ho.row hi
        have rf := ho.row.frozen i
        have HP : Hid (HAt (w.setCell ⟨b, i, none⟩ (.int .i64 (-1))) G d (a.put k i (-1))) := ho.put i (-1) (by omega)
        have HI := Lib.hid ho.inG
        rw [back_at hp]
        have hp' : (a.page (k : Int) (i : Int) != -1) = true := by simpa using hp
        generalize a.page (k : Int) (i : Int) = z at HG hp' ⊢
        clear h ho hp hk hi h0
        go_enter Tryz.func99, Tryz.ntmps99
        go_wp2_with (first
          | (go_at_call 152; (with_reducible refine HG.out.mono ?_); rintro e w' ⟨rfl, rfl⟩)
          | (go_at_call 144; (with_reducible refine HF.out.mono ?_); rintro e w' ⟨rfl, rfl⟩))
        go_ret
        exact ⟨rfl, HP.out, (kept_set w b i _).mono fun x _ e => by rw [e]; exact HI.out⟩
      · exact absurd (page_off hk hj) hp
theorem room_any (h : HAt w G d a) (c : Int) : Calls Tryz.prog 89 #[.pointer (some ⟨d, 0, none⟩), .int .i64 c] w fun e w' => e = .returned (.bool (a.room c)) ∧ w = w' := by
  rcases client_cases a c with hc | ⟨k, rfl, hk⟩
  · rw [room_out hc]
    have HF := Lib.hid (of_bad h c hc)
    have HL := Lib.hid (least_nil w none 0)
    clear h hc
    go_enter Tryz.func89, Tryz.ntmps89
    go_wp2_with (first
      | (go_at_call 144; (with_reducible refine HF.out.mono ?_); rintro e w' ⟨rfl, rfl⟩)
      | (go_at_call 143; (with_reducible refine HL.out.mono ?_); rintro e w' ⟨rfl, rfl⟩))
    go_ret
    exact ⟨rfl, rfl⟩
  · obtain ⟨g, cap, b, c, ho⟩ := h.own hk
    have HF := Lib.hid (of_good ho hk)
    have HL := Lib.hid (least_six (c := c) ho.row)
    rw [room_in hk]
    clear h ho hk
    rcases hnd_cases (a.H k) 6 with ⟨e1, _⟩ | ⟨j, hj, e1, e2, _⟩
    · rw [e1] at HL ⊢
      clear e1
      go_enter Tryz.func89, Tryz.ntmps89
      go_wp2_with (first
        | (go_at_call 144; (with_reducible refine HF.out.mono ?_); rintro e w' ⟨rfl, rfl⟩)
        | (go_at_call 143; (with_reducible refine HL.out.mono ?_); rintro e w' ⟨rfl, rfl⟩))
      go_ret
      exact ⟨rfl, rfl⟩
    · rw [e1] at HL ⊢
      have hjn : ((j : Int) != -1) = true := by simp
      have hjd : (!decide ((j : Int) = -1)) = true := by simp
      rw [hjd]
      clear e1 e2 hj hjd
      go_enter Tryz.func89, Tryz.ntmps89
      go_wp2_with (first
        | (go_at_call 144; (with_reducible refine HF.out.mono ?_); rintro e w' ⟨rfl, rfl⟩)
        | (go_at_call 143; (with_reducible refine HL.out.mono ?_); rintro e w' ⟨rfl, rfl⟩))
      go_ret
      exact ⟨rfl, rfl⟩
/-- The rows, as a walk over all of them wants them. -/
structure Rows6 (w : World) (A : Option Addr) (d : Nat) (a : Hs) : Prop where
  get : ∀ i, i < a.n → ∃ g b c, A = some ⟨g, 0, none⟩ ∧ w.cell? ⟨g, i, none⟩ = some (.slice (some ⟨b, 0, none⟩) 6 c) ∧ OR w b 3 1 c 6 (hcell (a.H i))
theorem HAt.rows (h : HAt w G d a) : ∃ A cap, w.cell? ⟨d, 0, none⟩ = some (.slice A a.n cap) ∧ Rows6 w A d a := by
  obtain ⟨v, q, cp, h0, h1, _⟩ := h.mem
  have c0 := h0.cell (i := 0) (by omega)
  rcases h1.out with ⟨rfl, e⟩ | ⟨g, cap, rfl, hr⟩
  · exact ⟨none, 0, by rw [c0, e], ⟨fun i hi => by omega⟩⟩
  · refine ⟨_, _, c0, ⟨fun i hi => ?_⟩⟩
    obtain ⟨g', cap', e, hs, ho⟩ := h1.get hi
    injection e with e _ _
    injection e with e
    injection e with e
    subst e
    exact ⟨g, q i, cp i, rfl, hs, ho⟩
set_option maxHeartbeats 1000000 in
theorem pins_any (h : HAt w G d a) (p : Int) : Calls Tryz.prog 106 #[.pointer (some ⟨d, 0, none⟩), .int .i64 p] w fun e w' => e = .returned (.int .i64 (a.pins p : Int)) ∧ w = w' := by
  by_cases hp : p < 0
  · rw [pins_low hp]
    clear h
    go_enter Tryz.func106, Tryz.ntmps106
    go_wp2
    go_ret
    exact ⟨rfl, rfl⟩
  · have h1 : 0 ≤ p := by omega
    obtain ⟨A, cap, c0, hr⟩ := HAt.rows h
    have HR := Lib.hid hr
    have HN := Lib.hid h.good.n
    have HSU : Hid (∀ i j, i < a.n → j ≤ 6 → sum (a.has p) i + cnt (a.H i) p j ≤ 42) := fun i j hi hj => by
      have e1 := sum_le (g := a.has p) (b := 6) (fun i => cnt_le _ _ _) i
      have e2 := cnt_le (a.H i) p j
      have := HN.out
      omega
    rw [pins_up hp]
    clear h hr hp
    have hnz : (a.n : Int) ≤ 6 := by have := HN.out; omega
    go_enter Tryz.func106, Tryz.ntmps106
    go_wp2
    go_loopg [5, 21] a.n (fun gx s i wr => ∃ j : Nat, j + gx = a.n ∧ i = .int .i64 (j : Int) ∧ s = .int .i64 (sum (a.has p) j : Int) ∧ w = wr)
    case atStart => exact ⟨0, by omega, rfl, rfl, rfl⟩
    case round =>
      obtain ⟨j, hg, rfl, rfl, rfl⟩ := hrel
      have HG := Lib.hid hg
      clear hg
      by_cases hj : j < a.n
      · have hjz : (j : Int) < (a.n : Int) := by omega
        obtain ⟨g, b, c, rfl, c1, hrow⟩ := HR.out.get j hj
        have HROW := Lib.hid hrow
        have HJ := Lib.hid hj
        clear hrow hj
        go_wp2
        go_step3
        go_wp2
        go_step3
        go_wp2
        go_loopg [5, 27] 6 (fun gx s i wr => ∃ t : Nat, t + gx = 6 ∧ i = .int .i64 (t : Int) ∧ s = .int .i64 ((sum (a.has p) j + cnt (a.H j) p t : Nat) : Int) ∧ w = wr)
        case atStart => exact ⟨0, by omega, rfl, rfl, rfl⟩
        case round =>
          obtain ⟨t, hg, rfl, rfl, rfl⟩ := hrel
          have HT := Lib.hid hg
          clear hg
          by_cases ht : t < 6
          · have htz : (t : Int) < 6 := by omega
            have r1 := hcell_get HROW.out ht
            have hs42 : ((sum (a.has p) j + cnt (a.H j) p t : Nat) : Int) ≤ 42 := by have := HSU.out j t HJ.out (by omega); omega
            have HY := Lib.hid fun h => cnt_yes (f := a.H j) (p := p) (m := t) h
            have HX := Lib.hid fun h => cnt_no (f := a.H j) (p := p) (m := t) h
            generalize a.H j t = x at r1 HY HX
            by_cases hx : x = p
            · have hc := HY.out hx
              have HC := Lib.hid hc
              clear hc HY HX
              subst hx
              go_wp2
              go_roundg (gk - 1)
              case measure => have := HT.out; omega
              case rel => exact ⟨t + 1, by have := HT.out; omega, by go_num, by rw [HC.out]; go_num, rfl⟩
            · have hc := HX.out hx
              have HC := Lib.hid hc
              have hx' : (x != p) = true := by simpa using hx
              clear hc HY HX hx
              go_wp2
              go_roundg (gk - 1)
              case measure => have := HT.out; omega
              case rel => exact ⟨t + 1, by have := HT.out; omega, by go_num, by rw [HC.out], rfl⟩
          · obtain rfl : t = 6 := by have := HT.out; omega
            clear ht
            go_wp2
            rw [Exit.noGoto_normal]
            go_wp2
            go_roundg (a.n - (j + 1))
            case measure => have := HG.out; have := HJ.out; omega
            case rel => exact ⟨j + 1, by have := HG.out; have := HJ.out; omega, by go_num, rfl, rfl⟩
      · obtain rfl : j = a.n := by have := HG.out; omega
        go_wp2
        go_ret
        exact ⟨rfl, rfl⟩
end
end Go.Proofs.YtbnkpnllgoghnaaGreat.HdO

namespace Go.Proofs.YtbnkpnllgoghnaaGreat.RgA
open Go.ChangeShapes Go.WideShapes Go.ChangeAt Go.RowKit
open Go.Proofs.YtbnkpnllgoghnaaGreat.Mem Go.Proofs.YtbnkpnllgoghnaaGreat.Blk Go.Proofs.YtbnkpnllgoghnaaGreat.Cells Go.Proofs.YtbnkpnllgoghnaaGreat.RfP Go.Proofs.YtbnkpnllgoghnaaGreat.RgP Go.Proofs.YtbnkpnllgoghnaaGreat.RgS Go.Proofs.YtbnkpnllgoghnaaGreat.Stages
open Go.Proofs.YtbnkpnllgoghnaaGreat.ArM (Ar Fr)
open Go.Proofs.YtbnkpnllgoghnaaGreat.Dev (Dv DevAt)
open Go.Proofs.YtbnkpnllgoghnaaGreat.ListM (outL frontL okO)
open Go.Proofs.YtbnkpnllgoghnaaGreat.HdM (Hs)
section
variable {w : World} {col : Nat → Nat} {ν : Nm} {S : Dv} {A : Ar} {L : List Nat} {H : Hs} {T : Nat → Bool}
theorem heard_any (e : Int) (w : World) : Calls Tryz.prog 103 #[.int .i64 e] w fun x w' => x = .returned (.int .i64 (if e = 0 then 0 else 9)) ∧ w = w' := by
  by_cases h : e = 0
  · subst h
    go_enter Tryz.func103, Tryz.ntmps103
    go_wp2
    go_ret
    exact ⟨rfl, rfl⟩
  · have hb : (e != 0) = true := by simpa using h
    have HE : Hid ((if e = 0 then (0 : Int) else 9) = 9) := if_neg h
    go_enter Tryz.func103, Tryz.ntmps103
    go_wp2
    go_ret
    exact ⟨by first | rfl | (rw [HE.out]; rfl), rfl⟩
theorem touch_any (x : MAt w col ν S A L H T) (f : Int) : Calls Tryz.prog 96 #[.pointer (some ⟨ν.r, 0, none⟩), .int .i64 f] w (Post ν w col (.tuple #[]) S A (frontL ν.K (outL L f) f) H T) := by
  have c3 := x.c3
  have HO := Lib.hid (ListD.out_any x.order f)
  have HX := Lib.hid x
  clear x
  go_enter Tryz.func96, Tryz.ntmps96
  go_wp2_with (first
    | (go_at_call 153; (with_reducible refine HO.out.mono ?_); rintro e w1 ⟨rfl, hl, hk⟩; obtain ⟨c1, hw1, hm1⟩ := HX.out.setL hl hk; have HW1 := Lib.hid hw1; have d3 := hm1.c3; have HF := Lib.hid (ListC.front_any hm1.order f); have HM1 := Lib.hid hm1; clear hl hk hw1 hm1 c3)
    | (go_at_call 154; (with_reducible refine HF.out.mono ?_); rintro e w2 ⟨rfl, hl, hk, _⟩; obtain ⟨c2, hw2, hm2⟩ := HM1.out.setL hl hk; have HW2 := Lib.hid hw2; have HM2 := Lib.hid hm2; clear hl hk hw2 hm2 d3))
  go_end0
  exact ⟨rfl, c2, HW1.out.trans HW2.out, HM2.out⟩
theorem drop_any (x : MAt w col ν S A L H T) (f : Int) : Calls Tryz.prog 107 #[.pointer (some ⟨ν.r, 0, none⟩), .int .i64 f] w (Post ν w col (.tuple #[]) S (A.drop f) (outL L f) H T) := by
  have c1 := x.c1
  have HO := Lib.hid (ArR.drop_any x.arena f)
  have HX := Lib.hid x
  clear x
  go_enter Tryz.func107, Tryz.ntmps107
  go_wp2_with (first
    | (go_at_call 159; (with_reducible refine HO.out.mono ?_); rintro e w1 ⟨rfl, hl, hk⟩; obtain ⟨c1, hw1, hm1⟩ := HX.out.setA hl hk; have HW1 := Lib.hid hw1; have d3 := hm1.c3; have HF := Lib.hid (ListD.out_any hm1.order f); have HM1 := Lib.hid hm1; clear hl hk hw1 hm1)
    | (go_at_call 153; (with_reducible refine HF.out.mono ?_); rintro e w2 ⟨rfl, hl, hk⟩; obtain ⟨c2, hw2, hm2⟩ := HM1.out.setL hl hk; have HW2 := Lib.hid hw2; have HM2 := Lib.hid hm2; clear hl hk hw2 hm2 d3))
  go_end0
  exact ⟨rfl, c2, HW1.out.trans HW2.out, HM2.out⟩
/-- Why a page is not to be had. -/
def findC (n : Nat) (T : Nat → Bool) (p : Int) : Int := if ¬ (0 ≤ p ∧ p < (n : Int)) then 1 else if T p.toNat = false then 2 else 0
theorem find_any (x : MAt w col ν S A L H T) (p : Int) (hn : ν.n ≤ 48) : Calls Tryz.prog 93 #[.pointer (some ⟨ν.r, 0, none⟩), .int .i64 p] w fun e w' => e = .returned (.int .i64 (findC ν.n T p)) ∧ w = w' := by
  have c4 := x.c4
  have hnn : (ν.n : Int) ≤ 48 := by omega
  by_cases h0 : p < 0
  · have HE : Hid (findC ν.n T p = 1) := if_pos (by omega)
    clear x
    go_enter Tryz.func93, Tryz.ntmps93
    go_wp2
    go_ret
    exact ⟨by rw [HE.out]; rfl, rfl⟩
  · by_cases h1 : p < (ν.n : Int)
    · obtain ⟨q, rfl⟩ := Int.eq_ofNat_of_zero_le (by omega : 0 ≤ p)
      have hq : q < ν.n := by omega
      have ct := x.th.cell hq
      cases ht : T q with
      | true =>
        have HE : Hid (findC ν.n T (q : Int) = 0) := by unfold Hid findC; rw [if_neg (by omega), Int.toNat_natCast, ht, if_neg (by decide)]
        unfold tcell at ct
        rw [ht] at ct
        clear x ht
        go_enter Tryz.func93, Tryz.ntmps93
        go_wp2
        go_ret
        exact ⟨by rw [HE.out]; rfl, rfl⟩
      | false =>
        have HE : Hid (findC ν.n T (q : Int) = 2) := by unfold Hid findC; rw [if_neg (by omega), Int.toNat_natCast, ht, if_pos rfl]
        unfold tcell at ct
        rw [ht] at ct
        clear x ht
        go_enter Tryz.func93, Tryz.ntmps93
        go_wp2
        go_ret
        exact ⟨by rw [HE.out]; rfl, rfl⟩
    · have HE : Hid (findC ν.n T p = 1) := if_pos (by omega)
      clear x
      go_enter Tryz.func93, Tryz.ntmps93
      go_wp2
      go_ret
      exact ⟨by rw [HE.out]; rfl, rfl⟩
theorem frame_any (x : MAt w col ν S A L H T) (c h : Int) : Calls Tryz.prog 95 #[.pointer (some ⟨ν.r, 0, none⟩), .int .i64 c, .int .i64 h] w fun e w' => e = .returned (.int .i64 (A.find (H.page c h))) ∧ Grow w w' := by
  have c1 := x.c1
  have c2 := x.c2
  have HP := Lib.hid (HdO.page_any x.drew.hand c h)
  have HF := Lib.hid (ArD.find_any x.drew.arena (H.page c h))
  clear x
  go_enter Tryz.func95, Tryz.ntmps95
  have u1 := up_cell (F := fun _ => False) (w := w.drew) (p := ⟨ν.r, 1, none⟩) c1 id
  have u2 := up_cell (F := fun _ => False) (w := w.drew) (p := ⟨ν.r, 2, none⟩) c2 id
  go_upto_region 1 with (fail)
  refine wp_region_stages Grow (kept_refl _) (kept_trans _) [([0, 1, 2, 3, 4, 5, 6, 7, 8, 9], 10), ([], 11)] [12] (by kernel_rfl) (by kernel_rfl) ?_
  simp only [selSt, sel, List.map_cons, List.map_nil, List.getD_cons_succ, List.getD_cons_zero]
  refine st_cons fun K1 hK1 => ?_
  repeat (go_big_quiet_step (fail))
  refine wpQuiet_nil ?_
  go_wp2_with (go_at_call 152; (with_reducible refine HP.out.mono ?_); rintro e w1 ⟨rfl, rfl⟩)
  refine norm_up (hK1 _ _ (Kept.refl _ _) (st_cons fun K2 hK2 => wpQuiet_nil ?_))
  clear hK1 K1 u1 u2
  go_wp2_with (go_at_call 102; (with_reducible refine HF.out.mono ?_); rintro e w1 ⟨rfl, rfl⟩)
  refine norm_up (hK2 _ _ (Kept.refl _ _) (st_nil fun K4 hK4 => ?_))
  clear hK2 K2
  repeat (go_big_quiet_step (fail))
  refine wpQuiet_nil (hK4 _ ?_)
  clear hK4 K4
  go_wp2
  go_ret
  exact ⟨rfl, Kept.drew' w⟩
end
end Go.Proofs.YtbnkpnllgoghnaaGreat.RgA
