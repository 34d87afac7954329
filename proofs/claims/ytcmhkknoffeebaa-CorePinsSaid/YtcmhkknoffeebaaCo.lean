/-
  A core in memory (package core, chapter 11): how it lies; what its parts' calls make of it; Arena, settle, take.
-/
import Derived.Test.YtcmhkknoffeebaaRows
import Derived.Test.YtcmhkknoffeebaaCoMath
import Derived.Test.YtcmhkknoffeebaaArNew
import Derived.Test.YtcmhkknoffeebaaOwn
namespace Go.Proofs.Ytcmhkknoffeebaa.CoC
open Go.ChangeShapes Go.WideShapes Go.ChangeAt Go.RowKit
open Go.Proofs.Ytcmhkknoffeebaa.Mem Go.Proofs.Ytcmhkknoffeebaa.Blk Go.Proofs.Ytcmhkknoffeebaa.Cells Go.Proofs.Ytcmhkknoffeebaa.Orow Go.Proofs.Ytcmhkknoffeebaa.ArM Go.Proofs.Ytcmhkknoffeebaa.ArC Go.Proofs.Ytcmhkknoffeebaa.ArD Go.Proofs.Ytcmhkknoffeebaa.ArR Go.Proofs.Ytcmhkknoffeebaa.ArT Go.Proofs.Ytcmhkknoffeebaa.ArB Go.Proofs.Ytcmhkknoffeebaa.ArN Go.Proofs.Ytcmhkknoffeebaa.ListM Go.Proofs.Ytcmhkknoffeebaa.CoM Go.Proofs.Ytcmhkknoffeebaa.RingA Go.Proofs.Ytcmhkknoffeebaa.RingT Go.Proofs.Ytcmhkknoffeebaa.Stages

/-! ### Blocks of cells -/
def IsCells (w : World) (k : Nat) : Prop := ∃ cur t fz, w.heap[k]? = some (.cells cur t fz)
theorem IsCells.notChan {w : World} {k : Nat} (h : IsCells w k) : ¬ Chan.IsChan w k := by
  obtain ⟨_, _, _, h⟩ := h
  exact Chan.notChan_cells h
theorem isCells_cell {w : World} {p : Addr} {v : Value} (h : w.cell? p = some v) : IsCells w p.block := by
  unfold World.cell? at h
  cases e : w.heap[p.block]? with
  | none => simp [e] at h
  | some o =>
    cases o with
    | cells cur t fz => exact ⟨cur, t, fz, e⟩
    | _ => simp [e] at h
theorem isCells_row {w : World} {b n : Nat} {f : Nat → Value} (h : Cells.Row w b n f) : IsCells w b := by
  obtain ⟨c, t, hb, _⟩ := h
  exact ⟨c, t, _, hb⟩
theorem isCells_slots {w : World} {D : Nat} {T : TabM.Tb} (h : TabC.Slots w D T) : IsCells w D := isCells_row h
theorem isCells_rowed {w : World} {b n : Nat} {f : Nat → Value} (h : Rowed.Row w b n f) : IsCells w b := by
  obtain ⟨c, t, hb, _⟩ := h
  exact ⟨c, t, _, hb⟩
theorem isCells_list {w : World} {d D n : Nat} {zs : List Nat} (h : Rowed.ListAt w d D n zs) : IsCells w d ∧ IsCells w D := by
  obtain ⟨A, B, I, h1, _⟩ := h.lnk
  exact ⟨isCells_rowed h1.hd, isCells_rowed h1.ln⟩
theorem isCells_ring {w : World} {B d : Nat} {zs : List Int} (h : RingC.RingAt w B d zs) : IsCells w d := by
  obtain ⟨C, h⟩ := h
  exact ⟨_, _, _, h.blk⟩
/-- What calls on a core may write, of its cells; with its channels, from B on. -/
def KF (G : Nat → Prop) (w : World) (k : Nat) : Prop := G k ∧ IsCells w k
/-- But for block dr. -/
def GR (G : Nat → Prop) (dr k : Nat) : Prop := G k ∧ k ≠ dr
def CF (G : Nat → Prop) (B : Nat) (w : World) (k : Nat) : Prop := (G k ∧ IsCells w k) ∨ (B ≤ k ∧ Chan.IsChan w k)
section
variable {w w' w2 : World} {G H F : Nat → Prop} {B : Nat}
theorem KF.trans (h : Kept (KF G w) w w') (k : Kept (KF G w') w' w2) : Kept (KF G w) w w2 :=
  h.then k fun i hi hf => by
    by_cases hn : KF G w i
    · exact hn
    · obtain ⟨h1, cur, t, fz, e⟩ := hf
      exact ⟨h1, cur, t, fz, (h.block i hi hn).symm.trans e⟩
theorem CF.trans (h : Kept (CF G B w) w w') (k : Kept (CF G B w') w' w2) : Kept (CF G B w) w w2 :=
  h.then k fun i hi hf => by
    by_cases hn : CF G B w i
    · exact hn
    · rcases hf with ⟨h1, cur, t, fz, e⟩ | ⟨h1, cap, buf, cl, s, r, tm, e⟩
      · exact .inl ⟨h1, cur, t, fz, (h.block i hi hn).symm.trans e⟩
      · exact .inr ⟨h1, cap, buf, cl, s, r, tm, (h.block i hi hn).symm.trans e⟩
theorem KF.gr {dr : Nat} (h : Kept (KF (GR G dr) w) w w') : Kept (KF G w) w w' := h.mono fun _ _ x => ⟨x.1.1, x.2⟩
theorem KF.cf {dr : Nat} (h : Kept (KF (GR G dr) w) w w') : Kept (CF G B w) w w' := h.mono fun _ _ x => .inl ⟨x.1.1, x.2⟩
theorem KF.of (h : Kept F w w') (hF : ∀ k, k < w.heap.size → F k → G k ∧ IsCells w k) : Kept (KF G w) w w' := h.mono hF
theorem KF.cell (h : Kept (KF G w) w w') {p : Addr} {v : Value} (hc : w.cell? p = some v) (hp : ¬ G p.block) : w'.cell? p = some v := h.cellN hc fun x => hp x.1
theorem CF.cell (h : Kept (CF G B w) w w') {p : Addr} {v : Value} (hc : w.cell? p = some v) (hp : ¬ G p.block) : w'.cell? p = some v := h.cellN hc fun x => by
  rcases x with x | x
  · exact hp x.1
  · exact Chan.notChan_cell hc x.2
theorem CF.mono (h : Kept (CF G B w) w w') (hG : ∀ k, k < w.heap.size → G k → H k) : Kept (CF H B w) w w' := Kept.mono h fun k hk x => x.imp (fun x => ⟨hG k hk x.1, x.2⟩) id
theorem CF.grow (h : Grow w w') : Kept (CF G B w) w w' := Grow.kept h
end

/-! ### Arenas whose blocks are cells -/
theorem ArAt.exact {w : World} {G : Nat → Prop} {d : Nat} {a : Ar} (h : ArAt w G d a) : ∃ E, ArAt w E d a ∧ ∀ k, E k → G k ∧ k < w.heap.size ∧ IsCells w k := by
  rcases h.mem with h' | ⟨g, cap, dl, Dl, dt, Dt, T, h'⟩
  · exact ⟨fun k => k = d, ⟨h.good, .inl ⟨h'.hd, rfl, h'.zero⟩⟩, fun k e => by subst e; exact ⟨h'.inG, h'.hd.lt, isCells_row h'.hd⟩⟩
  · obtain ⟨i0, i1, i2, i3, i4, i5⟩ := h'.inG
    obtain ⟨l0, l1, l2, l3, l4, l5⟩ := h'.lt
    obtain ⟨s2, s3⟩ := isCells_list h'.li
    refine ⟨fun k => k = d ∨ k = g ∨ k = dl ∨ k = Dl ∨ k = dt ∨ k = Dt, ⟨h.good, .inr ⟨g, cap, dl, Dl, dt, Dt, T, ⟨h'.hd, h'.fr, h'.li, h'.ta, h'.ts, h'.ne, ⟨.inl rfl, .inr (.inl rfl), .inr (.inr (.inl rfl)), .inr (.inr (.inr (.inl rfl))), .inr (.inr (.inr (.inr (.inl rfl)))), .inr (.inr (.inr (.inr (.inr rfl))))⟩, h'.pos⟩⟩⟩, fun k e => ?_⟩
    rcases e with rfl | rfl | rfl | rfl | rfl | rfl
    · exact ⟨i0, l0, isCells_row h'.hd⟩
    · exact ⟨i1, l1, isCells_row (OR.row h'.fr)⟩
    · exact ⟨i2, l2, s2⟩
    · exact ⟨i3, l3, s3⟩
    · exact ⟨i4, l4, isCells_cell (TabC.Raw.c0 h'.ta)⟩
    · exact ⟨i5, l5, isCells_slots h'.ta.sl⟩
theorem ArAt.keptC {w w' : World} {G F : Nat → Prop} {d : Nat} {a : Ar} (h : ArAt w G d a) (hk : Kept F w w') (hF : ∀ k, G k → IsCells w k → ¬ F k) : ArAt w' G d a := by
  obtain ⟨E, hE, hG⟩ := ArAt.exact h
  exact (hE.kept hk fun k x => hF k (hG k x).1 (hG k x).2.2).mono fun k _ x => (hG k x).1

/-! ### A core in memory -/
def ccell (da dl dr : Nat) (P : Nat → Int) (j : Nat) : Value :=
  if j = 0 then .pointer (some ⟨da, 0, none⟩) else if j = 1 then .pointer (some ⟨dl, 0, none⟩) else if j = 2 then .pointer (some ⟨dr, 0, none⟩) else .int .i64 (P (j - 3))
/-- The blocks of a core's arena. -/
def GA (G : Nat → Prop) (d dl Dl dr k : Nat) : Prop := G k ∧ k ≠ d ∧ k ≠ dl ∧ k ≠ Dl ∧ k ≠ dr
/-- At block d: a core, its arena at da, its order at dl (links at Dl), its ring at dr; its cells lie in G, its channel from B on. -/
structure Parts (w : World) (G : Nat → Prop) (B d da dl Dl dr : Nat) (c : Co) : Prop where
  hd : Cells.Row w d 35 (ccell da dl dr c.P)
  ar : ArAt w (GA G d dl Dl dr) da c.a
  li : Rowed.ListAt w dl Dl 32 c.L
  ri : RingC.RingAt w B dr c.T
  nl : d ≠ dl
  nD : d ≠ Dl
  nr : d ≠ dr
  rl : dr ≠ dl
  rD : dr ≠ Dl
  inG : G d ∧ G dl ∧ G Dl ∧ G dr
  tl : c.T.length ≤ 7
def CoAt (w : World) (G : Nat → Prop) (B d : Nat) (c : Co) : Prop := ∃ da dl Dl dr, Parts w G B d da dl Dl dr c
/-- What a call answers; what it makes of the core. -/
def CPost (G : Nat → Prop) (B d : Nat) (w : World) (r : Value) (c' : Co) (e : Ending) (w' : World) : Prop := e = .returned r ∧ CoAt w' G B d c' ∧ Kept (CF G B w) w w'

section
variable {w w' : World} {G H F : Nat → Prop} {B d da dl Dl dr : Nat} {c : Co}
theorem Parts.lt (h : Parts w G B d da dl Dl dr c) : d < w.heap.size ∧ da < w.heap.size ∧ dl < w.heap.size ∧ Dl < w.heap.size ∧ dr < w.heap.size := ⟨h.hd.lt, (ArAt.lt h.ar).1, h.li.lt.1, h.li.lt.2, h.ri.lt⟩
theorem Parts.c0 (h : Parts w G B d da dl Dl dr c) : w.cell? ⟨d, 0, none⟩ = some (.pointer (some ⟨da, 0, none⟩)) := h.hd.cell (i := 0) (by omega)
theorem Parts.c1 (h : Parts w G B d da dl Dl dr c) : w.cell? ⟨d, 1, none⟩ = some (.pointer (some ⟨dl, 0, none⟩)) := h.hd.cell (i := 1) (by omega)
theorem Parts.c2 (h : Parts w G B d da dl Dl dr c) : w.cell? ⟨d, 2, none⟩ = some (.pointer (some ⟨dr, 0, none⟩)) := h.hd.cell (i := 2) (by omega)
theorem Parts.cp (h : Parts w G B d da dl Dl dr c) {f : Nat} (hf : f < 32) : w.cell? ⟨d, 3 + f, none⟩ = some (.int .i64 (c.P f)) := by
  have := h.hd.cell (i := 3 + f) (by omega)
  rw [this]
  unfold ccell
  rw [if_neg (by omega), if_neg (by omega), if_neg (by omega), show 3 + f - 3 = f by omega]
theorem Parts.keptX (h : Parts w G B d da dl Dl dr c) (hk : Kept F w w') (hF : ∀ k, G k → IsCells w k → ¬ F k) (hC : ∀ k, F k → ¬ Chan.IsChan w k) : Parts w' G B d da dl Dl dr c := by
  obtain ⟨i0, i1, i2, i3⟩ := h.inG
  obtain ⟨s1, s2⟩ := isCells_list h.li
  exact ⟨h.hd.kept hk (hF _ i0 (isCells_row h.hd)), ArAt.keptC h.ar hk fun k x => hF k x.1, h.li.kept hk fun k x y => by
      rcases y with rfl | rfl
      · exact hF _ i1 s1 x
      · exact hF _ i2 s2 x, h.ri.kept hk (hF _ i3 (isCells_ring h.ri)) hC, h.nl, h.nD, h.nr, h.rl, h.rD, h.inG, h.tl⟩
theorem Parts.grow (h : Parts w G B d da dl Dl dr c) (hk : Grow w w') : Parts w' G B d da dl Dl dr c := h.keptX hk (fun _ _ _ x => x) fun _ x => x.elim
theorem Parts.mono (h : Parts w G B d da dl Dl dr c) (hH : ∀ k, k < w.heap.size → G k → H k) : Parts w H B d da dl Dl dr c := by
  obtain ⟨i0, i1, i2, i3⟩ := h.inG
  obtain ⟨l0, l1, l2, l3, l4⟩ := h.lt
  exact ⟨h.hd, h.ar.mono fun k hk x => ⟨hH k hk x.1, x.2⟩, h.li, h.ri, h.nl, h.nD, h.nr, h.rl, h.rD, ⟨hH _ l0 i0, hH _ l2 i1, hH _ l3 i2, hH _ l4 i3⟩, h.tl⟩
theorem CoAt.keptX (h : CoAt w G B d c) (hk : Kept F w w') (hF : ∀ k, G k → IsCells w k → ¬ F k) (hC : ∀ k, F k → ¬ Chan.IsChan w k) : CoAt w' G B d c := by
  obtain ⟨da, dl, Dl, dr, h⟩ := h
  exact ⟨da, dl, Dl, dr, h.keptX hk hF hC⟩
theorem CoAt.grow (h : CoAt w G B d c) (hk : Grow w w') : CoAt w' G B d c := h.keptX hk (fun _ _ _ x => x) fun _ x => x.elim
theorem CoAt.mono (h : CoAt w G B d c) (hH : ∀ k, k < w.heap.size → G k → H k) : CoAt w H B d c := by
  obtain ⟨da, dl, Dl, dr, h⟩ := h
  exact ⟨da, dl, Dl, dr, h.mono hH⟩
theorem CoAt.lt (h : CoAt w G B d c) : d < w.heap.size ∧ G d := by
  obtain ⟨da, dl, Dl, dr, h⟩ := h
  exact ⟨h.lt.1, h.inG.1⟩

/-! ### What its parts' calls make of it -/
theorem Parts.lst {L' : List Nat} (h : Parts w G B d da dl Dl dr c) (hl : Rowed.ListAt w' dl Dl 32 L') (hk : Kept (Rowed.Own dl Dl) w w') : Parts w' G B d da dl Dl dr ⟨c.a, L', c.T, c.P⟩ ∧ Kept (KF (GR G dr) w) w w' := by
  obtain ⟨i0, i1, i2, i3⟩ := h.inG
  obtain ⟨s1, s2⟩ := isCells_list h.li
  refine ⟨⟨h.hd.kept hk fun x => ?_, ArAt.keptC h.ar hk fun k x _ y => ?_, hl, h.ri.kept hk (fun x => ?_) fun k x => ?_, h.nl, h.nD, h.nr, h.rl, h.rD, h.inG, h.tl⟩, KF.of hk fun k _ x => ?_⟩
  · rcases x with x | x
    · exact h.nl x
    · exact h.nD x
  · rcases y with y | y
    · exact x.2.2.1 y
    · exact x.2.2.2.1 y
  · rcases x with x | x
    · exact h.rl x
    · exact h.rD x
  · rcases x with rfl | rfl
    · exact s1.notChan
    · exact s2.notChan
  · rcases x with rfl | rfl
    · exact ⟨⟨i1, h.rl.symm⟩, s1⟩
    · exact ⟨⟨i2, h.rD.symm⟩, s2⟩
theorem Parts.rng {T' : List Int} (h : Parts w G B d da dl Dl dr c) (hr : RingC.RingAt w' B dr T') (hk : Kept (RingC.RF B dr w) w w') (ht : T'.length ≤ 7) : Parts w' G B d da dl Dl dr ⟨c.a, c.L, T', c.P⟩ ∧ Kept (CF G B w) w w' := by
  obtain ⟨i0, i1, i2, i3⟩ := h.inG
  obtain ⟨s1, s2⟩ := isCells_list h.li
  refine ⟨⟨h.hd.kept hk fun x => ?_, ArAt.keptC h.ar hk fun k x z y => ?_, h.li.kept hk fun k x y => ?_, hr, h.nl, h.nD, h.nr, h.rl, h.rD, h.inG, ht⟩, hk.mono fun k _ x => ?_⟩
  · rcases x with x | x
    · exact h.nr x
    · exact (isCells_row h.hd).notChan x.2
  · rcases y with y | y
    · exact x.2.2.2.2 y
    · exact z.notChan y.2
  · rcases x with x | x
    · rcases y with y | y
      · exact h.rl (x.symm.trans y)
      · exact h.rD (x.symm.trans y)
    · rcases y with rfl | rfl
      · exact s1.notChan x.2
      · exact s2.notChan x.2
  · rcases x with rfl | x
    · exact .inl ⟨i3, isCells_ring h.ri⟩
    · exact .inr x
theorem Parts.pgs (h : Parts w G B d da dl Dl dr c) (f : Nat) (v : Int) : Parts (w.setCell ⟨d, 3 + f, none⟩ (.int .i64 v)) G B d da dl Dl dr ⟨c.a, c.L, c.T, updP c.P f v⟩ ∧ Kept (KF (GR G dr) w) w (w.setCell ⟨d, 3 + f, none⟩ (.int .i64 v)) := by
  have hk := Cells.kept_set w d (3 + f) (.int .i64 v)
  have sd := isCells_row h.hd
  refine ⟨⟨(h.hd.set (3 + f) (.int .i64 v)).congr fun i hi => ?_, ArAt.keptC h.ar hk fun k x _ y => x.2.1 y, h.li.kept hk fun k x y => ?_, h.ri.kept hk h.nr.symm fun k x => ?_, h.nl, h.nD, h.nr, h.rl, h.rD, h.inG, h.tl⟩, KF.of hk fun k _ x => ?_⟩
  · unfold ccell updP TabM.upd
    dsimp only
    by_cases e : i = 3 + f
    · rw [if_pos e, if_neg (by omega), if_neg (by omega), if_neg (by omega), if_pos (by omega)]
    · rw [if_neg e]
      by_cases e0 : i = 0
      · rw [if_pos e0, if_pos e0]
      · rw [if_neg e0, if_neg e0]
        by_cases e1 : i = 1
        · rw [if_pos e1, if_pos e1]
        · rw [if_neg e1, if_neg e1]
          by_cases e2 : i = 2
          · rw [if_pos e2, if_pos e2]
          · rw [if_neg e2, if_neg e2, if_neg (by omega)]
  · subst x
    rcases y with y | y
    · exact h.nl y
    · exact h.nD y
  · subst x; exact sd.notChan
  · subst x; exact ⟨⟨h.inG.1, h.nr⟩, sd⟩
/-- A call on its arena. -/
def PPost (G : Nat → Prop) (B d da dl Dl dr : Nat) (w : World) (r : Value) (c' : Co) (e : Ending) (w' : World) : Prop := e = .returned r ∧ Parts w' G B d da dl Dl dr c' ∧ Kept (KF (GR G dr) w) w w'
theorem Parts.arena {P : Program} {f : FuncId} {args : Array Value} {r : Value} {a' : Ar} (h : Parts w G B d da dl Dl dr c) (hc : ∀ E, ArAt w E da c.a → Calls P f args w (APost E da w r a')) : Calls P f args w (PPost G B d da dl Dl dr w r ⟨a', c.L, c.T, c.P⟩) := by
  obtain ⟨E, hE, hx⟩ := ArAt.exact h.ar
  refine (hc E hE).mono fun e w' ⟨h1, h2, hk⟩ => ?_
  refine ⟨h1, ⟨h.hd.kept hk fun x => (hx _ x).1.2.1 rfl, h2.mono fun k _ x => (hx k x).1, h.li.kept hk fun k x y => ?_, h.ri.kept hk (fun x => (hx _ x).1.2.2.2.2 rfl) fun k x => (hx k x).2.2.notChan, h.nl, h.nD, h.nr, h.rl, h.rD, h.inG, h.tl⟩, KF.of hk fun k _ x => ⟨⟨(hx k x).1.1, (hx k x).1.2.2.2.2⟩, (hx k x).2.2⟩⟩
  rcases y with y | y
  · exact (hx k x).1.2.2.1 y
  · exact (hx k x).1.2.2.2.1 y

/-! ### Arena -/
theorem arena_nil : Calls Try.prog 8 #[.pointer none] w fun e w' => e = .returned (.pointer none) ∧ w = w' := by
  go_enter Try.func8, Try.ntmps8
  go_wp2
  go_ret
  exact ⟨rfl, rfl⟩
theorem arena_any (h : Parts w G B d da dl Dl dr c) : Calls Try.prog 8 #[.pointer (some ⟨d, 0, none⟩)] w fun e w' => e = .returned (.pointer (some ⟨da, 0, none⟩)) ∧ w = w' := by
  have c0 := h.c0
  clear h
  go_enter Try.func8, Try.ntmps8
  go_wp2
  go_ret
  exact ⟨rfl, rfl⟩

/-! ### settle -/
/-- The order when j of its frames are looked at. -/
def swept (p : Nat → Bool) (zs : List Nat) (j : Nat) : List Nat := (zs.take j).filter p ++ zs.drop j
theorem swept_zero (p : Nat → Bool) (zs : List Nat) : swept p zs 0 = zs := by simp [swept]
theorem swept_all (p : Nat → Bool) (zs : List Nat) : swept p zs zs.length = zs.filter p := by simp [swept]
theorem swept_step {p : Nat → Bool} {zs : List Nat} {j : Nat} (hn : zs.Nodup) (hj : j < zs.length) : (p (zs.getD j 0) = true → swept p zs (j + 1) = swept p zs j) ∧ (p (zs.getD j 0) = false → swept p zs (j + 1) = outL (swept p zs j) ((zs.getD j 0 : Nat) : Int)) := by
  have e1 : zs.getD j 0 = zs[j] := by rw [List.getD_eq_getElem?_getD, List.getElem?_eq_getElem hj]; rfl
  have e2 : zs.drop j = zs[j] :: zs.drop (j + 1) := List.drop_eq_getElem_cons hj
  have e3 : zs.take (j + 1) = zs.take j ++ [zs[j]] := by rw [List.take_add_one, List.getElem?_eq_getElem hj]; rfl
  rw [e1]
  unfold swept
  rw [e2, e3, List.filter_append]
  refine ⟨fun h => ?_, fun h => ?_⟩
  · simp [h]
  · have hm : zs[j] ∉ (zs.take j).filter p := fun hm => by
      rw [List.mem_filter, h] at hm
      cases hm.2
    rw [out_eq (List.mem_append_right _ List.mem_cons_self), List.erase_append_right _ hm, List.erase_cons_head]
    simp [h]
theorem swept_mem {p : Nat → Bool} {zs : List Nat} {j : Nat} (hj : j < zs.length) : zs.getD j 0 ∈ zs := by
  rw [List.getD_eq_getElem?_getD, List.getElem?_eq_getElem hj]; exact List.getElem_mem _
set_option maxHeartbeats 1000000 in
theorem settle_any (h : Parts w G B d da dl Dl dr c) : Calls Try.prog 21 #[.pointer (some ⟨d, 0, none⟩)] w (PPost G B d da dl Dl dr w (.tuple #[]) c.settle) := by
  have HA := Lib.hid (ListD.all_any h.li)
  have c1 := h.c1
  obtain ⟨hnd, hlt, hlen⟩ := h.li.ring
  have HND := Lib.hid hnd
  have HLT := Lib.hid hlt
  have H := Lib.hid h
  have HLL := Lib.hid h.lt
  clear h hnd hlt
  go_enter Try.func21, Try.ntmps21
  go_wp2_with (go_at_call 32; (with_reducible refine HA.out.mono ?_); rintro e w1 ⟨A, cp, rfl, hs, hn, hg⟩; have HS := Lib.hid hs; have HN := Lib.hid hn; have HG1 := Lib.hid hg; clear hs hn hg)
  have H1 := Lib.hid (H.out.grow HG1.out)
  have HAO : Hid (∀ x, A = some x → ¬ Rowed.Own dl Dl x.block) := fun x e y => by
    have h1 : w.heap.size ≤ x.block := HN.out x e
    have h2 := HLL.out
    rcases y with y | y <;> omega
  clear c1
  go_loopg [10] c.L.length (fun gx i wr => ∃ j : Nat, j + gx = c.L.length ∧ i = .int .i64 (j : Int) ∧ Rowed.ListAt wr dl Dl 32 (swept c.keep c.L j) ∧ Kept (Rowed.Own dl Dl) w1 wr)
  case atStart => exact ⟨0, by omega, rfl, by rw [swept_zero]; exact H1.out.li, Kept.refl _ _⟩
  case round =>
    obtain ⟨j, hg, rfl, hl, hk⟩ := hrel
    have HG := Lib.hid hg
    obtain ⟨hp, hkf⟩ := H1.out.lst hl hk
    have HP := Lib.hid hp
    have HK := Lib.hid hk
    have HKF := Lib.hid hkf
    clear hg hl hk hp hkf
    by_cases hj : j < c.L.length
    · have hjz : (j : Int) < (c.L.length : Int) := by omega
      obtain ⟨b, o, rfl, _, hc⟩ := HS.out.at_ (by omega)
      have r1 := HK.out.cellN (hc j hj) (HAO.out ⟨b, o, none⟩ rfl)
      rw [ints_get] at r1
      have HST := Lib.hid (swept_step (p := c.keep) HND.out hj)
      have hx := HLT.out _ (swept_mem (p := c.keep) hj)
      have c0 := HP.out.c0
      have c1 := HP.out.c1
      have cp0 := HP.out.cp hx
      have HJ := Lib.hid hj
      have HF0 : Hid (∀ wx, Kept (fun _ => False) wr wx → Calls Try.prog 12 #[.pointer (some ⟨da, 0, none⟩), .int .i64 (c.P (c.L.getD j 0))] wx fun e w' => e = .returned (.int .i64 (c.a.find (c.P (c.L.getD j 0)))) ∧ wx = w') := fun wx hk => ArD.find_any (HP.out.grow hk).ar _
      have HE : c.keep (c.L.getD j 0) = decide (c.a.find (c.P (c.L.getD j 0)) = ((c.L.getD j 0 : Nat) : Int)) := rfl
      clear hc hj
      generalize c.L.getD j 0 = x at *
      have hxz : (x : Int) < 32 := by omega
      generalize c.a.find (c.P x) = q at *
      have HGK : Hid (Kept (fun _ => False) wr wr.drew) := Kept.drew' wr
      have HNX : Hid ((q = (x : Int) → swept c.keep c.L (j + 1) = swept c.keep c.L j) ∧ (q ≠ (x : Int) → swept c.keep c.L (j + 1) = outL (swept c.keep c.L j) (x : Int))) := ⟨fun e => HST.out.1 (by rw [HE]; exact decide_eq_true e), fun e => HST.out.2 (by rw [HE]; exact decide_eq_false e)⟩
      clear HST HE
      go_upto_region 3 with (fail)
      have q0 := up_cell (F := fun _ => False) (w := wr.drew) (p := ⟨d, 0, none⟩) c0 id
      have q1 := up_cell (F := fun _ => False) (w := wr.drew) (p := ⟨d, 3 + x, none⟩) cp0 id
      refine wp_region_stages (Kept fun _ => False) (kept_refl _) (kept_trans _) [([0, 1, 2, 3, 4, 5, 6, 7, 8, 9, 11], 10)] [12] (by kernel_rfl) (by kernel_rfl) ?_
      simp only [selSt, sel, List.map_cons, List.map_nil, List.getD_cons_succ, List.getD_cons_zero]
      refine st_cons fun K1 hK1 => ?_
      repeat (go_big_quiet_step (fail))
      refine wpQuiet_nil ?_
      clear q0 q1
      go_wp2_with (go_at_call 12; (with_reducible refine (HF0.out _ (Kept.drew' wr)).mono ?_); rintro e w2 ⟨rfl, rfl⟩)
      refine norm_up (hK1 _ _ (Kept.refl _ _) (st_nil fun K4 hK4 => ?_))
      clear hK1 K1
      repeat (go_big_quiet_step (fail))
      refine wpQuiet_nil (hK4 _ ?_)
      clear hK4 K4
      by_cases hq : q = (x : Int)
      · have HN2 := Lib.hid (HNX.out.1 hq)
        clear HNX
        subst hq
        go_wp2
        go_roundg (gk - 1)
        case measure => have := HG.out; have := HJ.out; omega
        case rel => exact ⟨j + 1, by have := HG.out; have := HJ.out; omega, by go_num, by rw [HN2.out]; exact HP.out.li.kept HGK.out fun _ x => x.elim, HK.out.drew⟩
      · have HN2 := Lib.hid (HNX.out.2 hq)
        clear HNX
        have hq' : (q == (x : Int)) = false := by rw [beq_eq_false_iff_ne]; exact hq
        have HO2 : Hid (Calls Try.prog 34 #[.pointer (some ⟨dl, 0, none⟩), .int .i64 (x : Int)] wr.drew fun e w' => e = .returned (.bool (okO (swept c.keep c.L j) (x : Int))) ∧ Rowed.ListAt w' dl Dl 32 (outL (swept c.keep c.L j) (x : Int)) ∧ Kept (Rowed.Own dl Dl) wr.drew w') := ListD.out_any (HP.out.li.kept HGK.out fun _ x => x.elim) _
        go_wp2_with (go_at_call 34; (with_reducible refine HO2.out.mono ?_); rintro e w2 ⟨rfl, hl, hk⟩; have HL2 := Lib.hid hl; have HK2 := Lib.hid hk; clear hl hk)
        go_roundg (gk - 1)
        case measure => have := HG.out; have := HJ.out; omega
        case rel => exact ⟨j + 1, by have := HG.out; have := HJ.out; omega, by go_num, by rw [HN2.out]; exact HL2.out, HK.out.drew.trans HK2.out⟩
    · obtain rfl : j = c.L.length := by have := HG.out; omega
      go_wp2
      go_end0
      rw [swept_all] at HP
      exact ⟨rfl, HP.out, KF.trans (HG1.out.kept) HKF.out⟩
end
end Go.Proofs.Ytcmhkknoffeebaa.CoC
