/-
  Package model (chapter 13): a state in memory: any that came in, to be read ('Seen'), and one of the call's own ('PAt').
-/
import Derived.Test.YtjdlpknflhgkfaaMd
namespace Go.Proofs.Ytjdlpknflhgkfaa.PmC
open Go.ChangeShapes Go.WideShapes Go.ChangeAt Go.RowKit
open Go.Proofs.Ytjdlpknflhgkfaa.Mem Go.Proofs.Ytjdlpknflhgkfaa.Blk Go.Proofs.Ytjdlpknflhgkfaa.Cells Go.Proofs.Ytjdlpknflhgkfaa.Orow Go.Proofs.Ytjdlpknflhgkfaa.GrC Go.Proofs.Ytjdlpknflhgkfaa.Txt Go.Proofs.Ytjdlpknflhgkfaa.MdM Go.Proofs.Ytjdlpknflhgkfaa.MdC Go.Proofs.Ytjdlpknflhgkfaa.Stages
open Go.Proofs.Ytjdlpknflhgkfaa.HdM (lst hnd cnt sum lst_eq hnd_at hnd_none hnd_cases cnt_yes cnt_no cnt_le sum_le)

/-! ### Any state -/
/-- A state, whatever it may be: which pages are said to be there, rows of bodies, rows of handles. -/
structure St where
  nT : Nat
  nB : Nat
  nH : Nat
  T : Nat → Bool
  B : Nat → List Int
  H : Nat → List Int
namespace St
variable (s t : St)
def okB (i : Nat) : Prop := (s.B i).length = 16 ∧ (s.T i = false → ∀ c ∈ s.B i, c = 0)
/-- What stands in a handle: nothing, or a page that is there. -/
def okP (x : Int) : Prop := x = -1 ∨ ((0 ≤ x ∧ x < (s.nT : Int)) ∧ s.T x.toNat = true)
def okH (c : Nat) : Prop := (s.H c).length = 6 ∧ ∀ j, j < 6 → s.okP ((s.H c).getD j 0)
def may : Prop := ((1 ≤ s.nT ∧ s.nT ≤ 48) ∧ 1 ≤ s.nH ∧ s.nH ≤ 6) ∧ s.nB = s.nT ∧ (∀ i, i < s.nB → s.okB i) ∧ ∀ c, c < s.nH → s.okH c
structure same : Prop where
  nT : s.nT = t.nT
  nB : s.nB = t.nB
  nH : s.nH = t.nH
  T : ∀ i, i < s.nT → s.T i = t.T i
  B : ∀ i, i < s.nB → s.B i = t.B i
  H : ∀ i, i < s.nH → s.H i = t.H i
structure few : Prop where
  nT : s.nT ≤ 60
  nB : s.nB ≤ 60
  nH : s.nH ≤ 8
  B : ∀ i, i < s.nB → (s.B i).length ≤ 40
  H : ∀ i, i < s.nH → (s.H i).length ≤ 10
/-- A state that may be, as the model has it. -/
def md : Md := ⟨s.nT, s.nH, s.T, fun i => if i < s.nT then s.B i else zeros, fun c j => (s.H c).getD j 0⟩
end St
/-- A state of the model, as any state. -/
def stOf (a : Md) : St := ⟨a.n, a.n, a.N, a.T, a.B, fun c => six (a.H c)⟩
section
variable {s t : St} {a : Md}
theorem six_len (f : Nat → Int) : (six f).length = 6 := by unfold six; simp
theorem same_refl (s : St) : s.same s := ⟨rfl, rfl, rfl, fun _ _ => rfl, fun _ _ => rfl, fun _ _ => rfl⟩
theorem same_symm (h : s.same t) : t.same s :=
  ⟨h.nT.symm, h.nB.symm, h.nH.symm, fun i hi => (h.T i (by rw [h.nT]; exact hi)).symm, fun i hi => (h.B i (by rw [h.nB]; exact hi)).symm, fun i hi => (h.H i (by rw [h.nH]; exact hi)).symm⟩
theorem may_good (h : s.may) (hb : ∀ i, i < s.nB → Bytes (s.B i)) : MdM.Good s.md := by
  obtain ⟨⟨h1, h2⟩, h3, h4, h5⟩ := h
  refine ⟨h1, h2, fun i => ?_, fun i => ?_, fun i hi ht => ?_, fun c j hc hj => ?_⟩
  · show (if i < s.nT then s.B i else zeros).length = 16
    split
    · exact (h4 i (by omega)).1
    · rfl
  · show Bytes (if i < s.nT then s.B i else zeros)
    split
    · exact hb i (by omega)
    · exact zeros_bytes
  · show (if i < s.nT then s.B i else zeros) = zeros
    have hi : i < s.nT := hi
    rw [if_pos hi]
    have hl := (h4 i (by omega)).1
    have hz := (h4 i (by omega)).2 ht
    unfold zeros
    rw [← hl]
    exact List.eq_replicate_iff.2 ⟨rfl, hz⟩
  · have hc : c < s.nH := hc
    rcases (h5 c hc).2 j hj with e | ⟨⟨e1, e2⟩, e3⟩
    · exact .inl e
    · exact .inr ⟨_, (Int.toNat_of_nonneg e1).symm, by show _ < s.nT; omega, e3⟩
theorem list_six {l : List Int} (h : l.length = 6) : l = six fun j => l.getD j 0 := by
  apply List.ext_getElem
  · rw [h, six_len]
  · intro i h1 h2
    unfold six
    simp [List.getD_eq_getElem?_getD, List.getElem?_eq_getElem h1]
theorem may_same (h : s.may) : s.same (stOf s.md) := by
  obtain ⟨⟨h1, h2⟩, h3, h4, h5⟩ := h
  refine ⟨rfl, h3, rfl, fun i hi => rfl, fun i hi => ?_, fun i hi => list_six (h5 i hi).1⟩
  show s.B i = if i < s.nT then s.B i else zeros
  rw [if_pos (by omega)]
theorem good_may (g : MdM.Good a) : (stOf a).may := by
  refine ⟨⟨g.n, g.N⟩, rfl, fun i hi => ⟨g.len i, fun ht c hc => ?_⟩, fun c hc => ⟨six_len _, fun j hj => ?_⟩⟩
  · have hc : c ∈ a.B i := hc
    rw [g.zer i hi ht] at hc
    exact (List.mem_replicate.1 hc).2
  · show (stOf a).okP ((six (a.H c)).getD j 0)
    rw [six_get _ hj]
    rcases g.hnd c j hc hj with e | ⟨p, e, hp, hT⟩
    · exact .inl e
    · refine .inr ⟨by rw [e]; exact ⟨by omega, by show (p : Int) < (a.n : Int); omega⟩, ?_⟩
      rw [e]
      exact hT
theorem good_few (g : MdM.Good a) : (stOf a).few :=
  ⟨by have := g.n; show a.n ≤ 60; omega, by have := g.n; show a.n ≤ 60; omega, by have := g.N; show a.N ≤ 8; omega, fun i _ => by rw [show (stOf a).B i = a.B i from rfl, g.len i]; omega, fun i _ => by rw [show (stOf a).H i = six (a.H i) from rfl, six_len]; omega⟩
end

/-! ### A state that is read -/
/-- A slice of truths. -/
def Flags (w : World) (A : Option Addr) (n : Nat) (T : Nat → Bool) : Prop := 0 < n → ∃ b off, A = some ⟨b, off, none⟩ ∧ ∀ i, i < n → w.cell? ⟨b, off + i, none⟩ = some (.bool (T i))
/-- A slice of slices of numbers. -/
def Lists (w : World) (k : IntKind) (A : Option Addr) (n : Nat) (L : Nat → List Int) : Prop :=
  0 < n → ∃ b off, A = some ⟨b, off, none⟩ ∧ ∀ i, i < n → ∃ A' c, w.cell? ⟨b, off + i, none⟩ = some (.slice A' (L i).length c) ∧ Sl w w.heap.size k A' (L i).length (L i)
/-- The parts of a state. -/
structure Parts (w : World) (AT : Option Addr) (cT : Nat) (AB : Option Addr) (cB : Nat) (AH : Option Addr) (cH : Nat) (s : St) : Prop where
  T : Flags w AT s.nT s.T
  B : Lists w .u8 AB s.nB s.B
  H : Lists w .i64 AH s.nH s.H
  byt : ∀ i, i < s.nB → Bytes (s.B i)
abbrev stv (AT : Option Addr) (cT : Nat) (AB : Option Addr) (cB : Nat) (AH : Option Addr) (cH : Nat) (s : St) : Value := .agg #[.slice AT s.nT cT, .slice AB s.nB cB, .slice AH s.nH cH]
/-- The value v reads as the state s. -/
def Seen (w : World) (v : Value) (s : St) : Prop := ∃ AT cT AB cB AH cH, v = stv AT cT AB cB AH cH s ∧ Parts w AT cT AB cB AH cH s
section
variable {w w' : World} {F : Nat → Prop} {v : Value} {k : IntKind} {A AT AB AH : Option Addr} {n cT cB cH : Nat} {T U : Nat → Bool} {L M : Nat → List Int} {s t : St}
theorem Flags.grow (h : Flags w A n T) (hk : Grow w w') : Flags w' A n T := fun hn => by
  obtain ⟨b, off, e, hc⟩ := h hn
  exact ⟨b, off, e, fun i hi => hk.cellN (hc i hi) id⟩
theorem sl_grow {zs : List Int} (h : Sl w w.heap.size k A n zs) (hk : Grow w w') : Sl w' w'.heap.size k A n zs := (Blk.Sl.kept h hk (Nat.le_refl _) fun _ _ x => x).more hk.size
theorem Lists.grow (h : Lists w k A n L) (hk : Grow w w') : Lists w' k A n L := fun hn => by
  obtain ⟨b, off, e, hc⟩ := h hn
  refine ⟨b, off, e, fun i hi => ?_⟩
  obtain ⟨A', c, h1, h2⟩ := hc i hi
  exact ⟨A', c, hk.cellN h1 id, sl_grow h2 hk⟩
theorem Parts.grow (h : Parts w AT cT AB cB AH cH s) (hk : Grow w w') : Parts w' AT cT AB cB AH cH s := ⟨h.T.grow hk, h.B.grow hk, h.H.grow hk, h.byt⟩
theorem Seen.grow (h : Seen w v s) (hk : Grow w w') : Seen w' v s := by
  obtain ⟨AT, cT, AB, cB, AH, cH, e, hp⟩ := h
  exact ⟨AT, cT, AB, cB, AH, cH, e, hp.grow hk⟩
theorem Seen.congr (h : Seen w v s) (e : s.same t) : Seen w v t := by
  obtain ⟨AT, cT, AB, cB, AH, cH, rfl, hp⟩ := h
  refine ⟨AT, cT, AB, cB, AH, cH, ?_, fun hn => ?_, fun hn => ?_, fun hn => ?_, fun i hi => ?_⟩
  · unfold stv; rw [e.nT, e.nB, e.nH]
  · rw [← e.nT] at hn
    obtain ⟨b, off, e1, hc⟩ := hp.T hn
    exact ⟨b, off, e1, fun i hi => by rw [← e.nT] at hi; rw [← e.T i hi]; exact hc i hi⟩
  · rw [← e.nB] at hn
    obtain ⟨b, off, e1, hc⟩ := hp.B hn
    exact ⟨b, off, e1, fun i hi => by rw [← e.nB] at hi; rw [← e.B i hi]; exact hc i hi⟩
  · rw [← e.nH] at hn
    obtain ⟨b, off, e1, hc⟩ := hp.H hn
    exact ⟨b, off, e1, fun i hi => by rw [← e.nH] at hi; rw [← e.H i hi]; exact hc i hi⟩
  · rw [← e.nB] at hi
    rw [← e.B i hi]
    exact hp.byt i hi
end

/-! ### A state of the call's own -/
def ucell (b : List Int) (j : Nat) : Value := .int .u8 (b.getD j 0)
def ncell (b : List Int) (j : Nat) : Value := .int .i64 (b.getD j 0)
def bsl (q cp : Nat → Nat) (i : Nat) : Value := .slice (some ⟨q i, 0, none⟩) 16 (cp i)
/-- Three slices of the call's own, two of them of slices, all apart, in blocks of G. -/
structure PM (w : World) (G : Nat → Prop) (gT cT gB cB gH cH : Nat) (qb cb q cp : Nat → Nat) (a : Md) : Prop where
  tb : OR w gT 4 1 cT a.n (tcell a.T)
  bb : OR w gB 23 1 cB a.n (bsl qb cb)
  br : ∀ i, i < a.n → OR w (qb i) 5 1 (cb i) 16 (ucell (a.B i))
  hb : OR w gH 48 1 cH a.N (scell q cp)
  rb : ∀ i, i < a.N → OR w (q i) 3 1 (cp i) 6 (hcell (a.H i))
  bnj : ∀ i j, i < a.n → j < a.n → qb i = qb j → i = j
  inj : ∀ i j, i < a.N → j < a.N → q i = q j → i = j
  ne : gT ≠ gB ∧ gT ≠ gH ∧ gB ≠ gH
  nb : ∀ i, i < a.n → qb i ≠ gT ∧ qb i ≠ gB ∧ qb i ≠ gH
  nq : ∀ i, i < a.N → q i ≠ gT ∧ q i ≠ gB ∧ q i ≠ gH
  nx : ∀ i j, i < a.n → j < a.N → qb i ≠ q j
  inG : G gT ∧ G gB ∧ G gH
  bG : ∀ i, i < a.n → G (qb i)
  qG : ∀ i, i < a.N → G (q i)
/-- The value v is the state a; its blocks lie in G. -/
structure PAt (w : World) (G : Nat → Prop) (v : Value) (a : Md) : Prop where
  good : MdM.Good a
  mem : ∃ gT cT gB cB gH cH qb cb q cp, v = sval gT cT gB cB gH cH a ∧ PM w G gT cT gB cB gH cH qb cb q cp a
section
variable {w w' : World} {G F X : Nat → Prop} {v : Value} {gT cT gB cB gH cH : Nat} {qb cb q cp : Nat → Nat} {a : Md}
theorem PM.kept (h : PM w G gT cT gB cB gH cH qb cb q cp a) (hk : Kept F w w') (hF : ∀ k, G k → ¬ F k) : PM w' G gT cT gB cB gH cH qb cb q cp a :=
  ⟨h.tb.kept hk (hF _ h.inG.1), h.bb.kept hk (hF _ h.inG.2.1), fun i hi => (h.br i hi).kept hk (hF _ (h.bG i hi)), h.hb.kept hk (hF _ h.inG.2.2), fun i hi => (h.rb i hi).kept hk (hF _ (h.qG i hi)), h.bnj, h.inj, h.ne, h.nb, h.nq, h.nx, h.inG, h.bG, h.qG⟩
theorem PM.mono (h : PM w G gT cT gB cB gH cH qb cb q cp a) (hX : ∀ k, k < w.heap.size → G k → X k) : PM w X gT cT gB cB gH cH qb cb q cp a :=
  ⟨h.tb, h.bb, h.br, h.hb, h.rb, h.bnj, h.inj, h.ne, h.nb, h.nq, h.nx, ⟨hX _ h.tb.lt h.inG.1, hX _ h.bb.lt h.inG.2.1, hX _ h.hb.lt h.inG.2.2⟩, fun i hi => hX _ (h.br i hi).lt (h.bG i hi), fun i hi => hX _ (h.rb i hi).lt (h.qG i hi)⟩
theorem PAt.kept (h : PAt w G v a) (hk : Kept F w w') (hF : ∀ k, G k → ¬ F k) : PAt w' G v a := by
  obtain ⟨gT, cT, gB, cB, gH, cH, qb, cb, q, cp, e, hm⟩ := h.mem
  exact ⟨h.good, gT, cT, gB, cB, gH, cH, qb, cb, q, cp, e, hm.kept hk hF⟩
theorem PAt.grow (h : PAt w G v a) (hk : Grow w w') : PAt w' G v a := h.kept hk fun _ _ x => x
theorem PAt.mono (h : PAt w G v a) (hX : ∀ k, k < w.heap.size → G k → X k) : PAt w X v a := by
  obtain ⟨gT, cT, gB, cB, gH, cH, qb, cb, q, cp, e, hm⟩ := h.mem
  exact ⟨h.good, gT, cT, gB, cB, gH, cH, qb, cb, q, cp, e, hm.mono hX⟩
/-- One handle has another page. -/
theorem PM.putH (h : PM w G gT cT gB cB gH cH qb cb q cp a) {c : Nat} (hc : c < a.N) (j : Nat) (p : Int) : PM (w.setCell ⟨q c, j, none⟩ (.int .i64 p)) G gT cT gB cB gH cH qb cb q cp (a.putH c j p) := by
  obtain ⟨n1, n2, n3⟩ := h.nq c hc
  refine ⟨h.tb.other (p := ⟨q c, j, none⟩) n1.symm _, h.bb.other (p := ⟨q c, j, none⟩) n2.symm _, fun i hi => (h.br i hi).other (p := ⟨q c, j, none⟩) (h.nx i c hi hc) _, h.hb.other (p := ⟨q c, j, none⟩) n3.symm _, fun i hi => ?_, h.bnj, h.inj, h.ne, h.nb, h.nq, h.nx, h.inG, h.bG, h.qG⟩
  have hi : i < a.N := hi
  by_cases e : i = c
  · subst e
    refine ((h.rb i hi).set j _).congr fun y hy => ?_
    show (if y = j then Value.int .i64 p else .int .i64 (a.H i y)) = .int .i64 (if i = i ∧ y = j then p else a.H i y)
    by_cases e2 : y = j
    · rw [if_pos e2, if_pos ⟨rfl, e2⟩]
    · rw [if_neg e2, if_neg fun x => e2 x.2]
  · refine ((h.rb i hi).other (p := ⟨q c, j, none⟩) (fun e2 => e (h.inj i c hi hc e2)) _).congr fun y hy => ?_
    show Value.int .i64 (a.H i y) = .int .i64 (if i = c ∧ y = j then p else a.H i y)
    rw [if_neg fun x => e x.1]
/-- One page is there, or not. -/
theorem PM.flag (h : PM w G gT cT gB cB gH cH qb cb q cp a) (p : Nat) (t : Bool) : PM (w.setCell ⟨gT, p, none⟩ (.bool t)) G gT cT gB cB gH cH qb cb q cp ⟨a.n, a.N, upd a.T p t, a.B, a.H⟩ :=
  ⟨(h.tb.set p _).congr fun i _ => by
    show (if i = p then Value.bool t else .bool (a.T i)) = .bool (upd a.T p t i)
    by_cases e : i = p
    · subst e; rw [if_pos rfl, upd_same]
    · rw [if_neg e, upd_other _ _ e], h.bb.other (p := ⟨gT, p, none⟩) h.ne.1.symm _, fun i hi => (h.br i hi).other (p := ⟨gT, p, none⟩) (h.nb i hi).1 _, h.hb.other (p := ⟨gT, p, none⟩) h.ne.2.1.symm _, fun i hi => (h.rb i hi).other (p := ⟨gT, p, none⟩) (h.nq i hi).1 _, h.bnj, h.inj, h.ne, h.nb, h.nq, h.nx, h.inG, h.bG, h.qG⟩
/-- One body is another: its block has been written. -/
theorem PM.body (h : PM w G gT cT gB cB gH cH qb cb q cp a) {p : Nat} (hp : p < a.n) {b : List Int} (hk : Kept (· = qb p) w w') (hb : OR w' (qb p) 5 1 (cb p) 16 (ucell b)) : PM w' G gT cT gB cB gH cH qb cb q cp (a.putB p b) := by
  obtain ⟨n1, n2, n3⟩ := h.nb p hp
  refine ⟨h.tb.kept hk n1.symm, h.bb.kept hk n2.symm, fun i hi => ?_, h.hb.kept hk n3.symm, fun i hi => (h.rb i hi).kept hk fun e => h.nx p i hp hi e.symm, h.bnj, h.inj, h.ne, h.nb, h.nq, h.nx, h.inG, h.bG, h.qG⟩
  have hi : i < a.n := hi
  show OR w' (qb i) _ 1 (cb i) 16 (ucell (upd a.B p b i))
  by_cases e : i = p
  · subst e; rw [upd_same]; exact hb
  · rw [upd_other _ _ e]; exact (h.br i hi).kept hk fun e2 => e (h.bnj i p hi hp e2)
/-- It is seen as what it is. -/
theorem PM.parts (h : PM w G gT cT gB cB gH cH qb cb q cp a) (g : MdM.Good a) : Parts w (some ⟨gT, 0, none⟩) cT (some ⟨gB, 0, none⟩) cB (some ⟨gH, 0, none⟩) cH (stOf a) := by
  refine ⟨fun _ => ⟨gT, 0, rfl, fun i hi => ?_⟩, fun _ => ⟨gB, 0, rfl, fun i hi => ⟨some ⟨qb i, 0, none⟩, cb i, ?_, ?_⟩⟩, fun _ => ⟨gH, 0, rfl, fun i hi => ⟨some ⟨q i, 0, none⟩, cp i, ?_, ?_⟩⟩, fun i _ => g.byt i⟩
  · rw [Nat.zero_add]; exact h.tb.cell (by have hi : i < a.n := hi; omega)
  · rw [Nat.zero_add]
    have := h.bb.cell (i := i) (by have hi : i < a.n := hi; omega)
    rw [this]
    show some (Value.slice _ 16 _) = some (.slice _ (a.B i).length _)
    rw [g.len i]
  · have hl : ((stOf a).B i).length = 16 := g.len i
    rw [hl]
    have ho := h.br i hi
    exact ⟨hl, fun _ => ⟨qb i, 0, rfl, ho.lt, fun j hj => by rw [Nat.zero_add]; exact ho.cell (by omega)⟩⟩
  · rw [Nat.zero_add]
    have := h.hb.cell (i := i) (by have hi : i < a.N := hi; omega)
    rw [this]
    show some (Value.slice _ 6 _) = some (.slice _ (six (a.H i)).length _)
    rw [six_len]
  · have hl : ((stOf a).H i).length = 6 := six_len _
    rw [hl]
    exact six_sl (h.rb i hi)
theorem PAt.seen (h : PAt w G v a) : Seen w v (stOf a) := by
  obtain ⟨gT, cT, gB, cB, gH, cH, qb, cb, q, cp, rfl, hm⟩ := h.mem
  exact ⟨_, _, _, _, _, _, rfl, hm.parts h.good⟩
end

/-! ### A state's box -/
theorem st_size : (Try.prog.info? 39).map (·.size) = some 3 := by kernel_rfl
theorem load_st {w : World} {g : Nat} {t : TypeId} {x y z : Value} (hg : Blk w g t [x, y, z]) : (loadVar 39 ⟨g, 0, none⟩).run Try.prog w = .ok (.agg #[x, y, z]) w :=
  run_loadVar_row w g t 39 #[x, y, z] (0, 0) _ hg Try.underlying39 rfl st_size
theorem ret_st {w : World} {fn : Func} {R : Ending → World → Prop} {act : Act} {p g : Nat} {t : TypeId} {x y z : Value} (h : fn.results = #[.cell p 39]) (hp : act.tmps.getD p undef = .pointer (some ⟨g, 0, none⟩)) (hg : Blk w g t [x, y, z]) (hd : act.defers = []) (hR : R (.returned (.agg #[x, y, z])) w) : bodyPost Try.prog fn R .ret act w := by
  refine bodyPost_ret ?_ hd hR
  have hp' : act.tmps[p]?.getD undef = .pointer (some ⟨g, 0, none⟩) := by simpa using hp
  simp [results, h, hp', asAddr, load_st hg]
theorem ret_st_res {w : World} {fn : Func} {R : Ending → World → Prop} {act : Act} {p g p2 g2 : Nat} {t t2 : TypeId} {x y z c d e f : Value} (h : fn.results = #[.cell p 39, .cell p2 27]) (hp : act.tmps.getD p undef = .pointer (some ⟨g, 0, none⟩)) (hp2 : act.tmps.getD p2 undef = .pointer (some ⟨g2, 0, none⟩)) (hg : Blk w g t [x, y, z]) (hg2 : Blk w g2 t2 [c, d, e, f]) (hd : act.defers = []) (hR : R (.returned (.tuple #[.agg #[x, y, z], .agg #[c, d, e, f]])) w) : bodyPost Try.prog fn R .ret act w := by
  refine bodyPost_ret ?_ hd hR
  have hp' : act.tmps[p]?.getD undef = .pointer (some ⟨g, 0, none⟩) := by simpa using hp
  have hp2' : act.tmps[p2]?.getD undef = .pointer (some ⟨g2, 0, none⟩) := by simpa using hp2
  simp [results, h, hp', hp2', asAddr, load_st hg, load_res hg2]
end Go.Proofs.Ytjdlpknflhgkfaa.PmC
