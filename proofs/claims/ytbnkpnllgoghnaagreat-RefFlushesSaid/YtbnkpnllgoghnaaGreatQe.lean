/-
  Texts behind the statements of this seat: part 5.
-/
import Derived.Test.YtbnkpnllgoghnaaGreatQa
import Derived.Test.YtbnkpnllgoghnaaGreatRows
import Derived.Test.YtbnkpnllgoghnaaGreatQc
import Derived.ArgAppend
import Derived.Deep.AppendSrc
import Derived.Lib.AppendZeros
import Derived.Lib.AppendZerosOnto
import Derived.Lib.SliceRun
import Derived.Laws.IdiomCopy
import Derived.Test.YtbnkpnllgoghnaaGreatQd
import Derived.Test.YtbnkpnllgoghnaaGreatChecked
import Derived.Handy
import Derived.Lib.Hide
import Derived.Laws.BytesArg
import Derived.Deep.LoopGhost
set_option linter.unusedVariables false

namespace Go.Proofs.YtbnkpnllgoghnaaGreat.RfI
open Go.Proofs.YtbnkpnllgoghnaaGreat.MdM (Md MdOp Re)
open Go.Proofs.YtbnkpnllgoghnaaGreat.ArM (Ar Fr fFree fUsed)
open Go.Proofs.YtbnkpnllgoghnaaGreat.TabM (upd upd_same upd_other)
open Go.Proofs.YtbnkpnllgoghnaaGreat.Dev (Dv)
open Go.Proofs.YtbnkpnllgoghnaaGreat.RfM
/-- What holds at all times; of the page h nothing is said. -/
structure InvE (p : Pl) (h : Option Nat) : Prop where
  gx : MdM.Good p.X
  ga : ArM.Good p.A
  nd : p.L.Nodup
  mem : ∀ f, f ∈ p.L ↔ f < p.A.n ∧ (p.A.F f).st = 1
  st : ∀ f, f < p.A.n → (p.A.F f).st = 0 ∨ (p.A.F f).st = 1
  n1 : 1 ≤ p.A.n
  dN : p.D.N = p.X.n
  dn : p.D.down = false
  pg : ∀ f, f < p.A.n → (p.A.F f).st = 1 → ∃ q, q < p.X.n ∧ (p.A.F f).pg = (q : Int)
  use : ∀ f q : Nat, f < p.A.n → (p.A.F f).st = 1 → (p.A.F f).pg = (q : Int) → h ≠ some q → p.X.T q = true ∧ (p.A.F f).pn = (p.X.pins (q : Int) : Int) ∧ p.A.B f = p.X.B q ∧ ((p.A.F f).di = false → says p.D q (p.X.B q))
  held : ∀ q : Nat, q < p.X.n → h ≠ some q → 0 < p.X.pins (q : Int) → ∃ f, f < p.A.n ∧ (p.A.F f).st = 1 ∧ (p.A.F f).pg = (q : Int)
  rest : ∀ q : Nat, q < p.X.n → h ≠ some q → p.X.T q = true → (∀ f, f < p.A.n → (p.A.F f).st = 1 → (p.A.F f).pg ≠ (q : Int)) → says p.D q (p.X.B q)
abbrev Inv (p : Pl) : Prop := InvE p none
theorem upd_id {α : Type} (f : Nat → α) (k : Nat) : upd f k (f k) = f := by
  funext i
  by_cases e : i = k
  · rw [e, upd_same]
  · rw [upd_other _ _ e]
section
variable {p : Pl} {h h' : Option Nat} {f q : Nat} {v : Fr} {b : List Int} {X' : Md} {D' : Dv} {L' t : List Nat}
theorem InvE.weaken (i : Inv p) (h : Option Nat) : InvE p h :=
  ⟨i.gx, i.ga, i.nd, i.mem, i.st, i.n1, i.dN, i.dn, i.pg, fun f q a b c _ => i.use f q a b c (by simp), fun q a _ => i.held q a (by simp), fun q a _ => i.rest q a (by simp)⟩
theorem InvE.q48 (i : InvE p h) (hq : q < p.X.n) : q < 48 := by have := i.gx.n.2; omega
/-- The frame f, of page q, is another one now; of other pages nothing has turned. -/
theorem InvE.step (i : InvE p h) (hf : f < p.A.n) (hs : (p.A.F f).st = 1) (hp : (p.A.F f).pg = (q : Int)) (hv : v.st = 1) (hvp : v.pg = (q : Int)) (hpn : 0 ≤ v.pn ∧ v.pn ≤ 1000) (hb : b.length = 16)
    (gX : MdM.Good X') (hn : X'.n = p.X.n) (hT : ∀ r, r ≠ q → X'.T r = p.X.T r) (hB : ∀ r, r ≠ q → X'.B r = p.X.B r) (hP : ∀ r : Nat, r ≠ q → X'.pins (r : Int) = p.X.pins (r : Int))
    (hN : D'.N = p.D.N) (hdn : D'.down = false) (hcur : ∀ r, r ≠ q → Dev.cur D' r = Dev.cur p.D r) (hL : L'.Nodup) (hLm : ∀ x, x ∈ L' ↔ x ∈ p.L)
    (hh : ∀ r, r ≠ q → h' ≠ some r → h ≠ some r)
    (own : h' ≠ some q → X'.T q = true ∧ v.pn = (X'.pins (q : Int) : Int) ∧ b = X'.B q ∧ (v.di = false → says D' q (X'.B q))) :
    InvE ⟨X', D', ⟨p.A.n, upd p.A.F f v, upd p.A.B f b, p.A.Q⟩, L'⟩ h' := by
  have hF : ∀ x, (upd p.A.F f v x).st = (p.A.F x).st ∧ (upd p.A.F f v x).pg = (p.A.F x).pg := fun x => by
    by_cases e : x = f
    · subst e; rw [upd_same, hv, hvp, hs, hp]; exact ⟨rfl, rfl⟩
    · rw [upd_other _ _ e]; exact ⟨rfl, rfl⟩
  have hb' : ∀ x, (upd p.A.B f b x).length = 16 := fun x => by
    by_cases e : x = f
    · subst e; rw [upd_same]; exact hb
    · rw [upd_other _ _ e]; exact i.ga.b x
  obtain ⟨q', hq', hpq⟩ := i.pg f hf hs
  obtain rfl : q' = q := by omega
  refine ⟨gX, i.ga.turn hf hs hv (by rw [hvp, hp]) hpn hb', hL, fun x => ?_, fun x hx => ?_, i.n1, by rw [hN, hn]; exact i.dN, hdn, fun x hx hsx => ?_, fun x r hx hsx hpx hne => ?_, fun r hr hne hpos => ?_, fun r hr hne hTr hno => ?_⟩
  · rw [hLm, i.mem]
    show _ ↔ x < p.A.n ∧ (upd p.A.F f v x).st = 1
    rw [(hF x).1]
  · show (upd p.A.F f v x).st = 0 ∨ (upd p.A.F f v x).st = 1
    rw [(hF x).1]; exact i.st x hx
  · obtain ⟨r, hr, e⟩ := i.pg x hx (by rw [← (hF x).1]; exact hsx)
    exact ⟨r, by rw [hn]; exact hr, by show (upd p.A.F f v x).pg = _; rw [(hF x).2]; exact e⟩
  · change (upd p.A.F f v x).st = 1 at hsx
    change (upd p.A.F f v x).pg = (r : Int) at hpx
    rw [(hF x).1] at hsx
    rw [(hF x).2] at hpx
    show X'.T r = true ∧ (upd p.A.F f v x).pn = _ ∧ upd p.A.B f b x = X'.B r ∧ ((upd p.A.F f v x).di = false → says D' r (X'.B r))
    by_cases e : x = f
    · subst e
      obtain rfl : r = q' := by omega
      rw [upd_same, upd_same]
      exact own hne
    · have hrq : r ≠ q' := fun e2 => by subst e2; exact e (i.ga.uq x f hx hf hsx hs (by omega))
      rw [upd_other _ _ e, upd_other _ _ e, hT r hrq, hB r hrq, hP r hrq]
      obtain ⟨u1, u2, u3, u4⟩ := i.use x r hx hsx hpx (hh r hrq hne)
      exact ⟨u1, u2, u3, fun hd => says_of (u4 hd) (hcur r hrq)⟩
  · by_cases e : r = q'
    · subst e
      exact ⟨f, hf, by show (upd p.A.F f v f).st = 1; rw [(hF f).1]; exact hs, by show (upd p.A.F f v f).pg = _; rw [(hF f).2]; exact hp⟩
    · change r < X'.n at hr
      change 0 < X'.pins (r : Int) at hpos
      rw [hP r e] at hpos
      obtain ⟨x, hx, sx, px⟩ := i.held r (by omega) (hh r e hne) hpos
      exact ⟨x, hx, by show (upd p.A.F f v x).st = 1; rw [(hF x).1]; exact sx, by show (upd p.A.F f v x).pg = _; rw [(hF x).2]; exact px⟩
  · have hrq : r ≠ q' := fun e => by
      subst e
      exact hno f hf (by show (upd p.A.F f v f).st = 1; rw [(hF f).1]; exact hs) (by show (upd p.A.F f v f).pg = _; rw [(hF f).2]; exact hp)
    change r < X'.n at hr
    change X'.T r = true at hTr
    show says D' r (X'.B r)
    rw [hB r hrq]
    refine says_of (i.rest r (by omega) (hh r hrq hne) (by rw [← hT r hrq]; exact hTr) fun x hx sx px => ?_) (hcur r hrq)
    exact hno x hx (by show (upd p.A.F f v x).st = 1; rw [(hF x).1]; exact sx) (by show (upd p.A.F f v x).pg = _; rw [(hF x).2]; exact px)
/-- Nothing has turned but the device's counts, and the order. -/
theorem InvE.same (i : InvE p h) (hN : D'.N = p.D.N) (hdn : D'.down = false) (hcur : ∀ r, Dev.cur D' r = Dev.cur p.D r) (hL : L'.Nodup) (hLm : ∀ x, x ∈ L' ↔ x ∈ p.L) : InvE ⟨p.X, D', p.A, L'⟩ h :=
  ⟨i.gx, i.ga, hL, fun x => (hLm x).trans (i.mem x), i.st, i.n1, hN.trans i.dN, hdn, i.pg, fun x r a b c e => by
    obtain ⟨u1, u2, u3, u4⟩ := i.use x r a b c e
    exact ⟨u1, u2, u3, fun hd => says_of (u4 hd) (hcur r)⟩, i.held, fun r a e c d => says_of (i.rest r a e c d) (hcur r)⟩
/-- A frame without pins, that the device has, is free again. -/
theorem InvE.free (i : InvE p h) (hf : f < p.A.n) (hs : (p.A.F f).st = 1) (hp : (p.A.F f).pg = (q : Int)) (hpn : (p.A.F f).pn = 0) (hd : h = some q ∨ (p.A.F f).di = false) :
    InvE ⟨p.X, p.D, p.A.dropF f, p.L.erase f⟩ h := by
  have hF0 : upd p.A.F f fFree f = fFree := upd_same _ _ _
  have hU : ∀ x, (upd p.A.F f fFree x).st = 1 → x ≠ f ∧ upd p.A.F f fFree x = p.A.F x := fun x hx => by
    by_cases e : x = f
    · subst e; rw [upd_same] at hx; have : (0 : Int) = 1 := hx; omega
    · exact ⟨e, upd_other _ _ e⟩
  obtain ⟨q', hq', hpq⟩ := i.pg f hf hs
  obtain rfl : q' = q := by omega
  refine ⟨i.gx, i.ga.release hf (by omega), i.nd.erase f, fun x => ?_, fun x hx => ?_, i.n1, i.dN, i.dn, fun x hx hsx => ?_, fun x r hx hsx hpx hne => ?_, fun r hr hne hpos => ?_, fun r hr hne hTr hno => ?_⟩
  · show x ∈ p.L.erase f ↔ x < p.A.n ∧ (upd p.A.F f fFree x).st = 1
    rw [i.nd.mem_erase_iff, i.mem]
    constructor
    · rintro ⟨h1, h2, h3⟩
      exact ⟨h2, by rw [upd_other _ _ h1]; exact h3⟩
    · rintro ⟨h1, h2⟩
      obtain ⟨h3, h4⟩ := hU x h2
      rw [h4] at h2
      exact ⟨h3, h1, h2⟩
  · show (upd p.A.F f fFree x).st = 0 ∨ (upd p.A.F f fFree x).st = 1
    by_cases e : x = f
    · subst e; rw [upd_same]; exact .inl rfl
    · rw [upd_other _ _ e]; exact i.st x hx
  · obtain ⟨h3, h4⟩ := hU x hsx
    show ∃ r, _ ∧ (upd p.A.F f fFree x).pg = _
    change (upd p.A.F f fFree x).st = 1 at hsx
    rw [h4] at hsx ⊢
    exact i.pg x hx hsx
  · obtain ⟨h3, h4⟩ := hU x hsx
    change (upd p.A.F f fFree x).st = 1 at hsx
    change (upd p.A.F f fFree x).pg = (r : Int) at hpx
    show _ ∧ (upd p.A.F f fFree x).pn = _ ∧ _ ∧ ((upd p.A.F f fFree x).di = false → _)
    rw [h4] at hsx hpx ⊢
    exact i.use x r hx hsx hpx hne
  · by_cases e : r = q'
    · subst e
      obtain ⟨_, u2, _⟩ := i.use f r hf hs hp hne
      change 0 < p.X.pins (r : Int) at hpos
      omega
    · obtain ⟨x, hx, sx, px⟩ := i.held r hr hne hpos
      have hne2 : x ≠ f := fun e2 => by subst e2; exact e (by omega)
      refine ⟨x, hx, ?_, ?_⟩
      · show (upd p.A.F f fFree x).st = 1
        rw [upd_other _ _ hne2]; exact sx
      · show (upd p.A.F f fFree x).pg = _
        rw [upd_other _ _ hne2]; exact px
  · by_cases e : r = q'
    · subst e
      obtain ⟨_, _, _, u4⟩ := i.use f r hf hs hp hne
      rcases hd with hd | hd
      · exact absurd hd hne
      · exact u4 hd
    · refine i.rest r hr hne hTr fun x hx sx px => ?_
      have hne2 : x ≠ f := fun e2 => by subst e2; exact e (by omega)
      exact hno x hx (by show (upd p.A.F f fFree x).st = 1; rw [upd_other _ _ hne2]; exact sx) (by show (upd p.A.F f fFree x).pg = _; rw [upd_other _ _ hne2]; exact px)
/-- A free frame is taken for a page that has none. -/
theorem InvE.taken (i : Inv p) (hq : q < p.X.n) (hno : ∀ x, x < p.A.n → (p.A.F x).st = 1 → (p.A.F x).pg ≠ (q : Int)) (hQ : p.A.Q = f :: t) :
    InvE ⟨p.X, p.D, ⟨p.A.n, upd p.A.F f (fUsed (q : Int)), upd p.A.B f ArM.zeros, t⟩, f :: p.L⟩ (some q) ∧ f < p.A.n ∧ (p.A.F f).st = 0 ∧ p.A.can (q : Int) = true := by
  have hc : p.A.can (q : Int) = true := by
    have h48 := i.q48 hq
    unfold Ar.can
    rw [ArM.find_none hno]
    simp only [Bool.and_eq_true, decide_eq_true_eq]
    omega
  obtain ⟨h1, h2, h3, h4⟩ := i.ga.head hQ
  have hfL : f ∉ p.L := fun hm => by have := ((i.mem f).1 hm).2; omega
  have hO : ∀ x, x ≠ f → upd p.A.F f (fUsed (q : Int)) x = p.A.F x := fun x e => upd_other _ _ e
  have hE : upd p.A.F f (fUsed (q : Int)) f = fUsed (q : Int) := upd_same _ _ _
  refine ⟨⟨i.gx, i.ga.takeF hc hQ, List.nodup_cons.2 ⟨hfL, i.nd⟩, fun x => ?_, fun x hx => ?_, i.n1, i.dN, i.dn, fun x hx hsx => ?_, fun x r hx hsx hpx hne => ?_, fun r hr hne hpos => ?_, fun r hr hne hTr hn => ?_⟩, h1, h2, hc⟩
  · show x ∈ f :: p.L ↔ x < p.A.n ∧ (upd p.A.F f (fUsed (q : Int)) x).st = 1
    rw [List.mem_cons, i.mem]
    by_cases e : x = f
    · subst e; rw [hE]; exact ⟨fun _ => ⟨h1, rfl⟩, fun _ => .inl rfl⟩
    · rw [hO x e]; simp [e]
  · show (upd p.A.F f (fUsed (q : Int)) x).st = 0 ∨ (upd p.A.F f (fUsed (q : Int)) x).st = 1
    by_cases e : x = f
    · subst e; rw [hE]; exact .inr rfl
    · rw [hO x e]; exact i.st x hx
  · show ∃ r, _ ∧ (upd p.A.F f (fUsed (q : Int)) x).pg = _
    change (upd p.A.F f (fUsed (q : Int)) x).st = 1 at hsx
    by_cases e : x = f
    · subst e; rw [hE]; exact ⟨q, hq, rfl⟩
    · rw [hO x e] at hsx ⊢; exact i.pg x hx hsx
  · change (upd p.A.F f (fUsed (q : Int)) x).st = 1 at hsx
    change (upd p.A.F f (fUsed (q : Int)) x).pg = (r : Int) at hpx
    show _ ∧ (upd p.A.F f (fUsed (q : Int)) x).pn = _ ∧ upd p.A.B f ArM.zeros x = _ ∧ ((upd p.A.F f (fUsed (q : Int)) x).di = false → _)
    by_cases e : x = f
    · subst e
      rw [hE] at hpx
      have : (q : Int) = (r : Int) := hpx
      exact absurd (by congr 1; omega) hne
    · rw [hO x e] at hsx hpx ⊢
      rw [upd_other _ _ e]
      exact i.use x r hx hsx hpx (by simp)
  · obtain ⟨x, hx, sx, px⟩ := i.held r hr (by simp) hpos
    have e : x ≠ f := fun e => by subst e; omega
    exact ⟨x, hx, by show (upd p.A.F f (fUsed (q : Int)) x).st = 1; rw [hO x e]; exact sx, by show (upd p.A.F f (fUsed (q : Int)) x).pg = _; rw [hO x e]; exact px⟩
  · refine i.rest r hr (by simp) hTr fun x hx sx px => ?_
    have e : x ≠ f := fun e => by subst e; omega
    exact hn x hx (by show (upd p.A.F f (fUsed (q : Int)) x).st = 1; rw [hO x e]; exact sx) (by show (upd p.A.F f (fUsed (q : Int)) x).pg = _; rw [hO x e]; exact px)
/-- A page that has no frame, and no pins, is told again as it stands. -/
theorem InvE.close (i : InvE p (some q)) (hno : ∀ x, x < p.A.n → (p.A.F x).st = 1 → (p.A.F x).pg ≠ (q : Int)) (gX : MdM.Good X') (hn : X'.n = p.X.n) (hT : ∀ r, r ≠ q → X'.T r = p.X.T r) (hB : ∀ r, r ≠ q → X'.B r = p.X.B r) (hP : ∀ r : Nat, X'.pins (r : Int) = p.X.pins (r : Int)) (h0 : p.X.pins (q : Int) = 0)
    (own : X'.T q = true → says p.D q (X'.B q)) : Inv ⟨X', p.D, p.A, p.L⟩ := by
  refine ⟨gX, i.ga, i.nd, i.mem, i.st, i.n1, i.dN.trans hn.symm, i.dn, fun x hx hsx => ?_, fun x r hx hsx hpx _ => ?_, fun r hr _ hpos => ?_, fun r hr _ hTr hn' => ?_⟩
  · obtain ⟨r, hr, e⟩ := i.pg x hx hsx
    exact ⟨r, by rw [hn]; exact hr, e⟩
  · have e : r ≠ q := fun e => by subst e; exact hno x hx hsx hpx
    show X'.T r = true ∧ _ = (X'.pins (r : Int) : Int) ∧ _ = X'.B r ∧ (_ → says p.D r (X'.B r))
    rw [hT r e, hB r e, hP r]
    exact i.use x r hx hsx hpx fun e2 => e (by injection e2 with e2; exact e2.symm)
  · change r < X'.n at hr
    change 0 < X'.pins (r : Int) at hpos
    rw [hP r] at hpos
    have e : r ≠ q := fun e => by subst e; omega
    exact i.held r (by omega) (fun e2 => e (by injection e2 with e2; exact e2.symm)) hpos
  · change r < X'.n at hr
    change X'.T r = true at hTr
    show says p.D r (X'.B r)
    by_cases e : r = q
    · subst e; exact own hTr
    · rw [hB r e]
      exact i.rest r (by omega) (fun e2 => e (by injection e2 with e2; exact e2.symm)) (by rw [← hT r e]; exact hTr) hn'
end
end Go.Proofs.YtbnkpnllgoghnaaGreat.RfI

namespace Go.Proofs.YtbnkpnllgoghnaaGreat.RfR
open Go.Proofs.YtbnkpnllgoghnaaGreat.MdM (Md MdOp Re)
open Go.Proofs.YtbnkpnllgoghnaaGreat.ArM (Ar Fr fFree fUsed)
open Go.Proofs.YtbnkpnllgoghnaaGreat.TabM (upd upd_same upd_other)
open Go.Proofs.YtbnkpnllgoghnaaGreat.Dev (Dv)
open Go.Proofs.YtbnkpnllgoghnaaGreat.RfM Go.Proofs.YtbnkpnllgoghnaaGreat.RfI
/-- What goes on from one pool to another, when nothing of the model has turned. -/
structure Go (p p' : Pl) : Prop where
  X : p'.X = p.X
  n : p'.A.n = p.A.n
  bad : p.D.bad = 0 → p'.D.bad = 0
theorem Go.refl (p : Pl) : Go p p := ⟨rfl, rfl, id⟩
theorem Go.trans {a b c : Pl} (h : Go a b) (k : Go b c) : Go a c := ⟨k.X.trans h.X, k.n.trans h.n, fun e => k.bad (h.bad e)⟩
section
variable {p : Pl} {h : Option Nat} {f q v : Nat} {t : List Nat}
theorem acc_zero {D : Dv} (h : D.bad = 0) : (Dev.accS D).bad = 0 := by unfold Dev.accS; split <;> simp [h]
theorem write_zero {D : Dv} (x : Int) (z : List Int) (h : D.bad = 0) : (Dev.writeS D x z).bad = 0 := by
  unfold Dev.writeS
  split
  · split
    · exact acc_zero h
    · exact acc_zero h
  · exact h
theorem read_zero {D : Dv} (x : Int) (h : D.bad = 0) : (Dev.readS D x).bad = 0 := by
  unfold Dev.readS
  split
  · exact acc_zero h
  · exact h
theorem sync_zero {D : Dv} (h : D.bad = 0) : (Dev.syncS D).bad = 0 := by
  unfold Dev.syncS
  split
  · exact acc_zero h
  · exact acc_zero h
theorem used_nat (_ : InvE p h) (hf : f < p.A.n) (hs : (p.A.F f).st = 1) : p.A.used (f : Int) = true := ArM.used_iff.2 ⟨f, rfl, hf, hs⟩
/-- A page's frame is written, or the device fails. -/
theorem wr_spec (i : InvE p h) (hf : f < p.A.n) (hs : (p.A.F f).st = 1) (hp : (p.A.F f).pg = (q : Int)) (hne : h ≠ some q) :
    Go p (p.wr f) ∧ InvE (p.wr f) h ∧ (p.wr f).L = p.L ∧ (p.wr f).A.Q = p.A.Q ∧ (∀ r, r ≠ q → Dev.cur (p.wr f).D r = Dev.cur p.D r) ∧
    ((p.wrC f = 0 ∧ (p.wr f).A.F = upd p.A.F f ⟨1, (q : Int), (p.A.F f).pn, false⟩ ∧ (p.wr f).A.B = p.A.B) ∨ (p.wrC f = 9 ∧ p.D.bad = 1 ∧ (p.wr f).A = p.A)) := by
  obtain ⟨u1, u2, u3, u4⟩ := i.use f q hf hs hp hne
  obtain ⟨q', hq', hpq⟩ := i.pg f hf hs
  obtain rfl : q' = q := by omega
  have hlen : (p.A.B f).length = 16 := i.ga.b f
  have h48 := i.q48 hq'
  have himg : p.img f = PageM.sealI (q' : Int) (p.A.B f) := by unfold Pl.img; rw [hp]; exact seal_ok h48 hlen
  have hil : (p.img f).length = 24 := by rw [himg, PageM.seal_len, hlen]
  have hqN : q' < p.D.N := by rw [i.dN]; exact hq'
  have hwc : p.wrC f = Dev.accC p.D := by unfold Pl.wrC; rw [hp]; exact write_code hqN hil
  have hD : (p.wr f).D = Dev.writeS p.D (q' : Int) (p.img f) := by unfold Pl.wr; rw [hp]
  have hNd := write_N p.D (q' : Int) (p.img f)
  rcases acc_cases i.dn with ⟨hc, hb⟩ | ⟨hc, hb⟩
  · have hw0 : p.wrC f = 0 := by rw [hwc, hc]
    have hA : (p.wr f).A = ⟨p.A.n, upd p.A.F f ⟨1, (q' : Int), (p.A.F f).pn, false⟩, p.A.B, p.A.Q⟩ := by
      unfold Pl.wr
      dsimp only
      rw [if_pos hw0]
      unfold Ar.mark
      rw [if_pos (used_nat i hf hs), Int.toNat_natCast]
      unfold Ar.turn
      rw [hs, hp]
    have hpn := (i.ga.use f hf hs).2.2
    have hi : InvE (p.wr f) h := by
      have key := i.step (v := ⟨1, (q' : Int), (p.A.F f).pn, false⟩) (b := p.A.B f) (X' := p.X) (D' := Dev.writeS p.D (q' : Int) (p.img f)) (L' := p.L) (h' := h) hf hs hp rfl rfl hpn hlen i.gx rfl (fun _ _ => rfl) (fun _ _ => rfl) (fun _ _ => rfl) hNd.1 (by rw [hNd.2]; exact i.dn)
        (fun r hr => by rw [cur_write hqN hil hc, if_neg hr]) i.nd (fun _ => Iff.rfl) (fun _ _ x => x)
        (fun _ => ⟨u1, u2, u3, fun _ => by
          rw [← u3]
          exact says_seal h48 hlen (by rw [cur_write hqN hil hc, if_pos rfl, himg])⟩)
      rw [upd_id] at key
      have e : p.wr f = ⟨p.X, Dev.writeS p.D (q' : Int) (p.img f), ⟨p.A.n, upd p.A.F f ⟨1, (q' : Int), (p.A.F f).pn, false⟩, p.A.B, p.A.Q⟩, p.L⟩ := by
        rw [← hA, ← hD]
        rfl
      rw [e]
      exact key
    refine ⟨⟨rfl, by rw [hA], fun e => by rw [hD]; exact write_zero _ _ e⟩, hi, rfl, by rw [hA], fun r hr => by rw [hD, cur_write hqN hil hc, if_neg hr], .inl ⟨hw0, by rw [hA], by rw [hA]⟩⟩
  · have hw9 : p.wrC f = 9 := by rw [hwc, hc]
    have hA : (p.wr f).A = p.A := by
      unfold Pl.wr
      dsimp only
      rw [if_neg (by rw [hw9]; decide)]
    have hDf : (p.wr f).D = Dev.accS p.D := by rw [hD]; exact cur_fail hqN hil (by rw [hc]; decide)
    have e : p.wr f = ⟨p.X, Dev.accS p.D, p.A, p.L⟩ := by
      rw [← hA, ← hDf]
      rfl
    refine ⟨⟨rfl, by rw [hA], fun e => by omega⟩, ?_, rfl, by rw [hA], fun r _ => by rw [hDf]; exact cur_acc _ _, .inr ⟨hw9, hb, hA⟩⟩
    rw [e]
    exact i.same (acc_N _) (by rw [acc_down]; exact i.dn) (fun r => cur_acc _ r) i.nd fun _ => Iff.rfl
theorem out_mem {L : List Nat} (h : f ∈ L) : ListM.okO L (f : Int) = true ∧ ListM.outL L (f : Int) = L.erase f := by
  have e : ListM.okO L (f : Int) = true := by
    unfold ListM.okO
    simp [h]
  refine ⟨e, ?_⟩
  unfold ListM.outL
  rw [if_pos e, Int.toNat_natCast]
theorem front_new {L : List Nat} (h : f ∉ L) (h32 : f < 32) : ListM.frontL 32 L (f : Int) = f :: L := by
  unfold ListM.frontL ListM.okF
  rw [if_pos, Int.toNat_natCast]
  simp [h]
  omega
/-- A frame that has no pins is let go. -/
theorem drop_spec (i : InvE p h) (hf : f < p.A.n) (hs : (p.A.F f).st = 1) (hp : (p.A.F f).pg = (q : Int)) (hpn : (p.A.F f).pn = 0) (hd : h = some q ∨ (p.A.F f).di = false) :
    Go p (p.drop f) ∧ InvE (p.drop f) h ∧ (p.drop f).D = p.D ∧ (p.drop f).A.Q = p.A.Q ++ [f] ∧ (p.drop f).A.F = upd p.A.F f fFree := by
  have hA : p.A.drop (f : Int) = p.A.dropF f := by
    unfold Ar.drop Ar.dropC
    rw [if_pos (used_nat i hf hs), Int.toNat_natCast, hpn]
    rfl
  have e : p.drop f = ⟨p.X, p.D, p.A.dropF f, p.L.erase f⟩ := by
    unfold Pl.drop
    rw [hA, (out_mem ((i.mem f).2 ⟨hf, hs⟩)).2]
  rw [e]
  exact ⟨⟨rfl, rfl, id⟩, i.free hf hs hp hpn hd, rfl, rfl, rfl⟩
/-- A frame is taken. -/
theorem take_spec (i : Inv p) (hq : q < p.X.n) (hno : ∀ x, x < p.A.n → (p.A.F x).st = 1 → (p.A.F x).pg ≠ (q : Int)) (hQ : p.A.Q = f :: t) :
    ∃ p', p.take (q : Int) = (((f : Int), 0), p') ∧ Go p p' ∧ InvE p' (some q) ∧ p'.D = p.D ∧ f < p'.A.n ∧ p'.A.F f = fUsed (q : Int) ∧ p'.A.B f = MdM.zeros ∧ f ∈ p'.L := by
  obtain ⟨h1, h2, h3, h4⟩ := i.taken hq hno hQ
  have hc : p.A.takeC (q : Int) = (f : Int) := by
    unfold Ar.takeC
    rw [if_pos h4, hQ]
    rfl
  have hA : p.A.take (q : Int) = ⟨p.A.n, upd p.A.F f (fUsed (q : Int)), upd p.A.B f ArM.zeros, t⟩ := by
    unfold Ar.take
    rw [if_pos h4, hQ]
    rfl
  have hL : f ∉ p.L := fun hm => by have := ((i.mem f).1 hm).2; omega
  have hF : ListM.frontL 32 p.L (f : Int) = f :: p.L := front_new hL (by have := i.ga.n; omega)
  refine ⟨⟨p.X, p.D, ⟨p.A.n, upd p.A.F f (fUsed (q : Int)), upd p.A.B f ArM.zeros, t⟩, f :: p.L⟩, ?_, ⟨rfl, rfl, id⟩, h1, rfl, h2, upd_same _ _ _, upd_same _ _ _, List.mem_cons_self⟩
  unfold Pl.take
  rw [hc, hA, hF]
theorem vic_some (h : p.vic = some v) : v ∈ p.L ∧ (p.A.F v).pn = 0 := by
  unfold Pl.vic at h
  have := List.mem_of_getLast? h
  rw [List.mem_filter] at this
  exact ⟨this.1, of_decide_eq_true this.2⟩
theorem vic_none (h : p.vic = none) : ∀ f ∈ p.L, (p.A.F f).pn ≠ 0 := fun f hf e => by
  unfold Pl.vic at h
  rw [List.getLast?_eq_none_iff] at h
  have : f ∈ p.L.filter fun f => decide ((p.A.F f).pn = 0) := List.mem_filter.2 ⟨hf, decide_eq_true e⟩
  rw [h] at this
  cases this
/-- All frames are used, and pinned. -/
def Full (p : Pl) : Prop := ∀ f, f < p.A.n → (p.A.F f).st = 1 ∧ 0 < (p.A.F f).pn
/-- What room for a page can come to. -/
def RoomP (p : Pl) (q : Nat) (x : (Int × Int) × Pl) : Prop :=
  (∃ (f : Nat) (p' : Pl), x = (((f : Int), 0), p') ∧ Go p p' ∧ InvE p' (some q) ∧ Dev.cur p'.D q = Dev.cur p.D q ∧ f < p'.A.n ∧ p'.A.F f = fUsed (q : Int) ∧ p'.A.B f = MdM.zeros ∧ ¬ Full p)
  ∨ (x = ((-1, 8), p) ∧ Full p)
  ∨ (∃ p', x = ((-1, 9), p') ∧ Go p p' ∧ Inv p' ∧ p.D.bad = 1 ∧ ¬ Full p)
theorem not_full (hf : f < p.A.n) (h : (p.A.F f).st = 0 ∨ (p.A.F f).pn = 0) : ¬ Full p := fun H => by have := H f hf; omega
theorem room_spec (i : Inv p) (hq : q < p.X.n) (hno : ∀ x, x < p.A.n → (p.A.F x).st = 1 → (p.A.F x).pg ≠ (q : Int)) : RoomP p q (p.room (q : Int)) := by
  unfold Pl.room
  by_cases hQ : p.A.Q = []
  · rw [if_pos hQ]
    have hall : ∀ x, x < p.A.n → (p.A.F x).st = 1 := fun x hx => by
      rcases i.st x hx with e | e
      · have := (i.ga.q x).2 ⟨hx, e⟩
        rw [hQ] at this
        cases this
      · exact e
    cases hv : p.vic with
    | none =>
      dsimp only
      refine .inr (.inl ⟨rfl, fun f hf => ⟨hall f hf, ?_⟩⟩)
      have h1 := vic_none hv f ((i.mem f).2 ⟨hf, hall f hf⟩)
      have h2 := (i.ga.use f hf (hall f hf)).2.2.1
      omega
    | some v =>
      dsimp only
      obtain ⟨hvL, hv0⟩ := vic_some hv
      obtain ⟨hvn, hvs⟩ := (i.mem v).1 hvL
      obtain ⟨r, hr, hpr⟩ := i.pg v hvn hvs
      have hrq : r ≠ q := fun e => by subst e; exact hno v hvn hvs hpr
      have hNF : ¬ Full p := not_full hvn (.inr hv0)
      have done : ∀ p1 : Pl, Go p p1 → Inv p1 → (p1.A.F v).st = 1 → (p1.A.F v).pg = (r : Int) → (p1.A.F v).pn = 0 → (p1.A.F v).di = false → (∀ x, x < p1.A.n → (p1.A.F x).st = 1 → (p1.A.F x).pg ≠ (q : Int)) → p1.A.Q = [] → Dev.cur p1.D q = Dev.cur p.D q → RoomP p q ((p1.drop v).take (q : Int)) := by
        intro p1 g1 i1 s1 q1 n1 d1 no1 Q1 c1
        obtain ⟨g2, i2, D2, Q2, F2⟩ := drop_spec i1 (by rw [g1.n]; exact hvn) s1 q1 n1 (.inr d1)
        have no2 : ∀ x, x < (p1.drop v).A.n → ((p1.drop v).A.F x).st = 1 → ((p1.drop v).A.F x).pg ≠ (q : Int) := fun x hx sx => by
          rw [F2] at sx ⊢
          by_cases e : x = v
          · subst e; rw [upd_same] at sx; have : (0 : Int) = 1 := sx; omega
          · rw [upd_other _ _ e] at sx ⊢
            exact no1 x (by rw [g2.n] at hx; exact hx) sx
        rw [Q1] at Q2
        obtain ⟨p', e, g3, i3, D3, h1, h2, h3, _⟩ := take_spec i2 (by rw [g2.X, g1.X]; exact hq) no2 Q2
        refine .inl ⟨v, p', e, (g1.trans g2).trans g3, i3, ?_, h1, h2, h3, hNF⟩
        rw [D3, D2, c1]
      unfold Pl.evict
      by_cases hd : (p.A.F v).di = true
      · rw [if_pos hd]
        obtain ⟨g1, i1, hL1, hQ1, hc1, hcase⟩ := wr_spec i hvn hvs hpr (by simp)
        rcases hcase with ⟨hw, hF, hB⟩ | ⟨hw, hb, hA⟩
        · rw [if_pos hw]
          refine done (p.wr v) g1 i1 ?_ ?_ ?_ ?_ ?_ (by rw [hQ1, hQ]) (hc1 q fun e => hrq e.symm)
          · rw [hF, upd_same]
          · rw [hF, upd_same]
          · rw [hF, upd_same]; exact hv0
          · rw [hF, upd_same]
          · intro x hx sx
            rw [hF] at sx ⊢
            by_cases e : x = v
            · subst e; rw [upd_same]; show (r : Int) ≠ q; omega
            · rw [upd_other _ _ e] at sx ⊢
              exact hno x (by rw [g1.n] at hx; exact hx) sx
        · rw [if_neg (by rw [hw]; decide), hw]
          exact .inr (.inr ⟨p.wr v, rfl, g1, i1, hb, hNF⟩)
      · rw [if_neg hd]
        exact done p (Go.refl p) i hvs hpr hv0 (by simpa using hd) hno hQ rfl
  · rw [if_neg hQ]
    cases e : p.A.Q with
    | nil => exact absurd e hQ
    | cons f t =>
      obtain ⟨p', e1, g, i', D', h1, h2, h3, _⟩ := take_spec i hq hno e
      obtain ⟨a1, a2, _, _⟩ := i.ga.head e
      exact .inl ⟨f, p', e1, g, i', by rw [D'], h1, h2, h3, not_full a1 (.inl a2)⟩
end
end Go.Proofs.YtbnkpnllgoghnaaGreat.RfR

namespace Go.Proofs.YtbnkpnllgoghnaaGreat.RfF
open Go.Proofs.YtbnkpnllgoghnaaGreat.MdM (Md MdOp Re)
open Go.Proofs.YtbnkpnllgoghnaaGreat.ArM (Ar Fr fFree fUsed)
open Go.Proofs.YtbnkpnllgoghnaaGreat.TabM (upd upd_same upd_other)
open Go.Proofs.YtbnkpnllgoghnaaGreat.Dev (Dv)
open Go.Proofs.YtbnkpnllgoghnaaGreat.RfM Go.Proofs.YtbnkpnllgoghnaaGreat.RfI Go.Proofs.YtbnkpnllgoghnaaGreat.RfR
section
variable {p : Pl} {h : Option Nat} {f q v : Nat}
/-- A frame that is used goes to the front: the same frames are in the order. -/
theorem front_list (i : InvE p h) (hf : f < p.A.n) (hs : (p.A.F f).st = 1) : p.front (f : Int) = ⟨p.X, p.D, p.A, f :: p.L.erase f⟩ ∧ (f :: p.L.erase f).Nodup ∧ ∀ x, x ∈ f :: p.L.erase f ↔ x ∈ p.L := by
  have hm := (i.mem f).2 ⟨hf, hs⟩
  obtain ⟨h1, h2⟩ := out_mem hm
  have hne : f ∉ p.L.erase f := fun hx => (i.nd.mem_erase_iff.1 hx).1 rfl
  refine ⟨?_, List.nodup_cons.2 ⟨hne, i.nd.erase f⟩, fun x => ?_⟩
  · unfold Pl.front
    rw [if_pos h1, h2, front_new hne (by have := i.ga.n; omega)]
  · rw [List.mem_cons, i.nd.mem_erase_iff]
    by_cases e : x = f
    · subst e; simp [hm]
    · simp [e]
theorem front_spec (i : InvE p h) (hf : f < p.A.n) (hs : (p.A.F f).st = 1) : Go p (p.front (f : Int)) ∧ InvE (p.front (f : Int)) h ∧ (p.front (f : Int)).A = p.A ∧ (p.front (f : Int)).D = p.D := by
  obtain ⟨e, h1, h2⟩ := front_list i hf hs
  rw [e]
  exact ⟨⟨rfl, rfl, id⟩, i.same rfl i.dn (fun _ => rfl) h1 h2, rfl, rfl⟩
/-- What was read goes into the frame. -/
theorem load_spec (i : InvE p (some q)) (hq : q < p.X.n) (hf : f < p.A.n) (hF : p.A.F f = fUsed (q : Int)) (hT : p.X.T q = true) (hP : p.X.pins (q : Int) = 0) (hsay : says p.D q (p.X.B q)) :
    (∃ p', p.load (q : Int) f = (((f : Int), 0), p') ∧ Go p p' ∧ Inv p' ∧ f < p'.A.n ∧ (p'.A.F f).st = 1 ∧ (p'.A.F f).pg = (q : Int)) ∨ (∃ p', p.load (q : Int) f = ((-1, 9), p') ∧ Go p p' ∧ Inv p' ∧ p.D.bad = 1) := by
  have hs : (p.A.F f).st = 1 := by rw [hF]; rfl
  have hp : (p.A.F f).pg = (q : Int) := by rw [hF]; rfl
  have hpn : (p.A.F f).pn = 0 := by rw [hF]; rfl
  have hqN : q < p.D.N := by rw [i.dN]; exact hq
  have hrc : Dev.readC p.D (q : Int) = Dev.accC p.D := by unfold Dev.readC; rw [has_nat hqN]; rfl
  have hND := read_N p.D (q : Int)
  have hbz : p.D.bad = 0 → (Dev.readS p.D (q : Int)).bad = 0 := read_zero _
  have i2 : InvE ⟨p.X, Dev.readS p.D (q : Int), p.A, p.L⟩ (some q) := i.same hND.1 (by rw [hND.2]; exact i.dn) (fun r => cur_read _ _ r) i.nd fun _ => Iff.rfl
  unfold Pl.load
  rcases acc_cases i.dn with ⟨hc, hb⟩ | ⟨hc, hb⟩
  · have hr0 : Dev.readC p.D (q : Int) = 0 := by rw [hrc, hc]
    rw [if_neg (by rw [hr0]; decide)]
    have hbody : Dev.readB p.D (q : Int) = Dev.cur p.D q := by unfold Dev.readB; rw [if_pos hr0, Int.toNat_natCast]
    rw [hbody]
    left
    obtain ⟨ho, hbd⟩ := hsay
    rw [if_pos ho]
    refine ⟨_, rfl, ⟨rfl, rfl, hbz⟩, ?_, hf, hs, hp⟩
    have key := i2.step (v := fUsed (q : Int)) (b := PageM.openB (q : Int) (Dev.cur p.D q)) (X' := p.X) (D' := Dev.readS p.D (q : Int)) (L' := p.L) (h' := none) hf hs hp rfl rfl ⟨Int.le_refl _, show (0 : Int) ≤ 1000 by decide⟩ (by rw [hbd]; exact i.gx.len q) i.gx rfl (fun _ _ => rfl) (fun _ _ => rfl) (fun _ _ => rfl) rfl (by rw [hND.2]; exact i.dn) (fun _ _ => rfl) i.nd (fun _ => Iff.rfl)
      (fun r hr _ e => hr (by injection e with e; exact e.symm)) (fun _ => ⟨hT, by rw [hP]; rfl, hbd, fun _ => says_of (b := p.X.B q) ⟨ho, hbd⟩ (cur_read _ _ q)⟩)
    have e : upd p.A.F f (fUsed (q : Int)) = p.A.F := by rw [← hF]; exact upd_id _ _
    dsimp only at key
    rw [e] at key
    exact key
  · have hr9 : Dev.readC p.D (q : Int) = 9 := by rw [hrc, hc]
    rw [if_pos (by rw [hr9]; decide), hr9]
    right
    obtain ⟨g3, i3, D3, Q3, F3⟩ := drop_spec i2 hf hs hp hpn (.inl rfl)
    refine ⟨_, rfl, ⟨g3.X, g3.n, fun e => by omega⟩, ?_, hb⟩
    have hno : ∀ x, x < ((⟨p.X, Dev.readS p.D (q : Int), p.A, p.L⟩ : Pl).drop f).A.n → (((⟨p.X, Dev.readS p.D (q : Int), p.A, p.L⟩ : Pl).drop f).A.F x).st = 1 → (((⟨p.X, Dev.readS p.D (q : Int), p.A, p.L⟩ : Pl).drop f).A.F x).pg ≠ (q : Int) := fun x hx sx px => by
      rw [F3] at sx px
      by_cases e : x = f
      · subst e; rw [upd_same] at sx; have : (0 : Int) = 1 := sx; omega
      · rw [upd_other _ _ e] at sx px
        rw [g3.n] at hx
        have px : (p.A.F x).pg = (q : Int) := px
        exact e (i.ga.uq x f hx hf sx hs (by omega))
    exact i3.close (X' := p.X) hno i.gx rfl (fun _ _ => rfl) (fun _ _ => rfl) (fun _ => rfl) hP fun _ => by
      rw [D3]
      exact says_of hsay (cur_read _ _ q)
/-- What fetching a page that is there can come to. -/
def FetchP (p : Pl) (q : Nat) (x : (Int × Int) × Pl) : Prop :=
  (∃ (f : Nat) (p' : Pl), x = (((f : Int), 0), p') ∧ Go p p' ∧ Inv p' ∧ f < p'.A.n ∧ (p'.A.F f).st = 1 ∧ (p'.A.F f).pg = (q : Int) ∧ ((∃ g, g < p.A.n ∧ (p.A.F g).st = 1 ∧ (p.A.F g).pg = (q : Int)) ∨ ¬ Full p))
  ∨ (x = ((-1, 8), p) ∧ Full p ∧ ∀ g, g < p.A.n → (p.A.F g).st = 1 → (p.A.F g).pg ≠ (q : Int))
  ∨ (∃ p', x = ((-1, 9), p') ∧ Go p p' ∧ Inv p' ∧ p.D.bad ≠ 0)
theorem pins_out (i : Inv p) (hq : q < p.X.n) (hno : ∀ x, x < p.A.n → (p.A.F x).st = 1 → (p.A.F x).pg ≠ (q : Int)) : p.X.pins (q : Int) = 0 := by
  rcases Nat.eq_zero_or_pos (p.X.pins (q : Int)) with e | e
  · exact e
  · obtain ⟨x, hx, sx, px⟩ := i.held q hq (by simp) e
    exact absurd px (hno x hx sx)
theorem fetch_spec (i : Inv p) (hq : q < p.X.n) (hT : p.X.T q = true) : FetchP p q (p.fetch (q : Int)) := by
  unfold Pl.fetch
  rcases ArM.find_cases p.A (q : Int) with ⟨e, hno⟩ | ⟨f, hf, hs, hp, e⟩
  · rw [e, if_neg (by decide)]
    have hP := pins_out i hq hno
    have hsay := i.rest q hq (by simp) hT hno
    rcases room_spec i hq hno with ⟨f, p', e1, g1, i1, c1, hf, hF, _, hnf⟩ | ⟨e1, hfull⟩ | ⟨p', e1, g1, i1, hb, _⟩
    · rw [e1]
      dsimp only
      rw [if_neg (by decide), Int.toNat_natCast]
      rcases load_spec i1 (by rw [g1.X]; exact hq) hf hF (by rw [g1.X]; exact hT) (by rw [g1.X]; exact hP) (by rw [g1.X]; exact says_of hsay c1) with ⟨p2, e2, g2, i2, h1, h2, h3⟩ | ⟨p2, e2, g2, i2, hb⟩
      · exact .inl ⟨f, p2, e2, g1.trans g2, i2, h1, h2, h3, .inr hnf⟩
      · exact .inr (.inr ⟨p2, e2, g1.trans g2, i2, fun e0 => by have := g1.bad e0; omega⟩)
    · rw [e1]
      dsimp only
      rw [if_pos (by decide)]
      exact .inr (.inl ⟨rfl, hfull, hno⟩)
    · rw [e1]
      dsimp only
      rw [if_pos (by decide)]
      exact .inr (.inr ⟨p', rfl, g1, i1, by omega⟩)
  · rw [e, if_pos (by omega)]
    obtain ⟨g1, i1, hA, hD⟩ := front_spec i hf hs
    exact .inl ⟨f, _, rfl, g1, i1, by rw [hA]; exact hf, by rw [hA]; exact hs, by rw [hA]; exact hp, .inl ⟨f, hf, hs, hp⟩⟩
/-- A flush of one page: its frame, if it has one, is clean; or the device fails. -/
theorem flush_spec (i : Inv p) (q : Nat) : Go p (p.flush (q : Int)).2 ∧ Inv (p.flush (q : Int)).2 ∧ (p.flush (q : Int)).2.L = p.L ∧ (∀ x, ((p.flush (q : Int)).2.A.F x).st = (p.A.F x).st ∧ ((p.flush (q : Int)).2.A.F x).pg = (p.A.F x).pg ∧ ((p.A.F x).di = false → ((p.flush (q : Int)).2.A.F x).di = false)) ∧
    (((p.flush (q : Int)).1 = 0 ∧ ∀ x, x < p.A.n → (p.A.F x).st = 1 → (p.A.F x).pg = (q : Int) → ((p.flush (q : Int)).2.A.F x).di = false) ∨ ((p.flush (q : Int)).1 = 9 ∧ p.D.bad = 1)) := by
  unfold Pl.flush
  rcases ArM.find_cases p.A (q : Int) with ⟨e, hno⟩ | ⟨f, hf, hs, hp, e⟩
  · rw [e, if_neg (by omega)]
    exact ⟨Go.refl p, i, rfl, fun x => ⟨rfl, rfl, id⟩, .inl ⟨rfl, fun x hx sx px => absurd px (hno x hx sx)⟩⟩
  · rw [e, Int.toNat_natCast]
    by_cases hd : (p.A.F f).di = true
    · rw [if_pos ⟨by omega, hd⟩]
      obtain ⟨g1, i1, hL, hQ, hc, hcase⟩ := wr_spec i hf hs hp (by simp)
      rcases hcase with ⟨hw, hF, hB⟩ | ⟨hw, hb, hA⟩
      · refine ⟨g1, i1, hL, fun x => ?_, .inl ⟨hw, fun x hx sx px => ?_⟩⟩
        · show ((p.wr f).A.F x).st = _ ∧ ((p.wr f).A.F x).pg = _ ∧ (_ → ((p.wr f).A.F x).di = false)
          rw [hF]
          by_cases ex : x = f
          · subst ex; rw [upd_same]; exact ⟨hs.symm, hp.symm, fun _ => rfl⟩
          · rw [upd_other _ _ ex]; exact ⟨rfl, rfl, id⟩
        · show ((p.wr f).A.F x).di = false
          have ex : x = f := i.ga.uq x f hx hf sx hs (by omega)
          subst ex
          rw [hF, upd_same]
      · refine ⟨g1, i1, hL, fun x => ?_, .inr ⟨hw, hb⟩⟩
        show ((p.wr f).A.F x).st = _ ∧ ((p.wr f).A.F x).pg = _ ∧ (_ → ((p.wr f).A.F x).di = false)
        rw [hA]
        exact ⟨rfl, rfl, id⟩
    · rw [if_neg fun h => hd h.2]
      refine ⟨Go.refl p, i, rfl, fun x => ⟨rfl, rfl, id⟩, .inl ⟨rfl, fun x hx sx px => ?_⟩⟩
      have ex : x = f := i.ga.uq x f hx hf sx hs (by omega)
      subst ex
      simpa using hd
/-- The first k pages are clean; or the device fails. -/
theorem flushTo_spec (i : Inv p) (k : Nat) : Go p (p.flushTo k).2 ∧ Inv (p.flushTo k).2 ∧ (p.flushTo k).2.L = p.L ∧ (∀ x, ((p.flushTo k).2.A.F x).st = (p.A.F x).st ∧ ((p.flushTo k).2.A.F x).pg = (p.A.F x).pg) ∧
    (((p.flushTo k).1 = 0 ∧ ∀ x q : Nat, x < p.A.n → (p.A.F x).st = 1 → (p.A.F x).pg = (q : Int) → q < k → ((p.flushTo k).2.A.F x).di = false) ∨ ((p.flushTo k).1 = 9 ∧ p.D.bad ≠ 0)) := by
  induction k with
  | zero => exact ⟨Go.refl p, i, rfl, fun x => ⟨rfl, rfl⟩, .inl ⟨rfl, fun x q _ _ _ h => absurd h (Nat.not_lt_zero q)⟩⟩
  | succ k ih =>
    obtain ⟨g1, i1, hL, hF, hcase⟩ := ih
    have e : p.flushTo (k + 1) = if (p.flushTo k).1 = 0 then (p.flushTo k).2.flush (k : Int) else p.flushTo k := rfl
    rcases hcase with ⟨h0, hcl⟩ | ⟨h9, hb⟩
    · rw [if_pos h0] at e
      rw [e]
      obtain ⟨g2, i2, hL2, hF2, hcase2⟩ := flush_spec i1 k
      refine ⟨g1.trans g2, i2, hL2.trans hL, fun x => ⟨(hF2 x).1.trans (hF x).1, (hF2 x).2.1.trans (hF x).2⟩, ?_⟩
      rcases hcase2 with ⟨z0, zc⟩ | ⟨z9, zb⟩
      · refine .inl ⟨z0, fun x q hx sx px hq => ?_⟩
        by_cases eq : q = k
        · subst eq
          exact zc x (by rw [g1.n]; exact hx) (by rw [(hF x).1]; exact sx) (by rw [(hF x).2]; exact px)
        · exact (hF2 x).2.2 (hcl x q hx sx px (by omega))
      · exact .inr ⟨z9, fun e0 => by have := g1.bad e0; omega⟩
    · rw [if_neg (by rw [h9]; decide)] at e
      rw [e]
      exact ⟨g1, i1, hL, hF, .inr ⟨h9, hb⟩⟩
theorem sync_spec (i : Inv p) : Go p p.sync.2 ∧ Inv p.sync.2 ∧ p.sync.2.A = p.A ∧ ((p.sync.1 = 0) ∨ (p.sync.1 = 9 ∧ p.D.bad = 1)) := by
  have hN := sync_N p.D
  refine ⟨⟨rfl, rfl, sync_zero⟩, i.same hN.1 (by rw [hN.2]; exact i.dn) (fun r => cur_sync _ r) i.nd fun _ => Iff.rfl, rfl, ?_⟩
  rcases acc_cases i.dn with ⟨hc, _⟩ | ⟨hc, hb⟩
  · exact .inl hc
  · exact .inr ⟨hc, hb⟩
end
end Go.Proofs.YtbnkpnllgoghnaaGreat.RfF

namespace Go.Proofs.YtbnkpnllgoghnaaGreat.RfX
open Go.Proofs.YtbnkpnllgoghnaaGreat.MdM (Md MdOp Re)
open Go.Proofs.YtbnkpnllgoghnaaGreat.ArM (Ar Fr fFree fUsed)
open Go.Proofs.YtbnkpnllgoghnaaGreat.TabM (upd upd_same upd_other)
open Go.Proofs.YtbnkpnllgoghnaaGreat.Dev (Dv)
open Go.Proofs.YtbnkpnllgoghnaaGreat.RfM Go.Proofs.YtbnkpnllgoghnaaGreat.RfI Go.Proofs.YtbnkpnllgoghnaaGreat.RfR Go.Proofs.YtbnkpnllgoghnaaGreat.RfF
/-- What a call can come to: as the model tells; no frame; a failing access. -/
def RunP (p : Pl) (c : Int) (o : MdOp) (y : Re × Pl) : Prop :=
  (∃ p', y = ((p.X.run c o).1, p') ∧ Inv p' ∧ p'.X = (p.X.run c o).2 ∧ p'.A.n = p.A.n ∧ (p.D.bad = 0 → p'.D.bad = 0) ∧
    ((p.X.run c o).1.c = 0 → (o.k = 1 → ¬ Full p) ∧ (o.k = 2 → (∃ g, g < p.A.n ∧ (p.A.F g).st = 1 ∧ (p.A.F g).pg = o.p) ∨ ¬ Full p)))
  ∨ (y = (MdM.err 8, p) ∧ Full p ∧ (p.X.run c o).1.c = 0 ∧ (o.k = 1 ∨ (o.k = 2 ∧ ∀ g, g < p.A.n → (p.A.F g).st = 1 → (p.A.F g).pg ≠ o.p)))
  ∨ (∃ p', y = (MdM.err 9, p') ∧ Inv p' ∧ p'.X = p.X ∧ p'.A.n = p.A.n ∧ p.D.bad ≠ 0)
section
variable {p : Pl} {c : Int} {o : MdOp} {f q k j : Nat} {h : Option Nat}
theorem pins_pos {a : Md} (hk : k < a.N) (hj : j < 6) (e : a.H k j = (q : Int)) : 0 < a.pins (q : Int) := by
  have := pins_putH (a := a) (P := (q : Int)) (x := -1) hk hj (by omega)
  rw [if_pos e, if_neg (by omega)] at this
  omega
/-- A pin more, or less: the frame's, and the model's. -/
theorem pin_used (i : InvE p h) (hf : f < p.A.n) (hs : (p.A.F f).st = 1) (hlt : (p.A.F f).pn < 1000) : p.A.pin (f : Int) = ⟨p.A.n, upd p.A.F f ⟨1, (p.A.F f).pg, (p.A.F f).pn + 1, (p.A.F f).di⟩, p.A.B, p.A.Q⟩ := by
  have hc : p.A.pinC (f : Int) = 0 := by
    unfold Ar.pinC
    rw [if_pos (used_nat i hf hs), Int.toNat_natCast, if_neg (show ¬ 1000 ≤ (p.A.F f).pn by omega)]
  unfold Ar.pin
  rw [if_pos hc, Int.toNat_natCast]
  unfold Ar.turn
  rw [hs]
theorem unpin_used (i : InvE p h) (hf : f < p.A.n) (hs : (p.A.F f).st = 1) (h0 : (p.A.F f).pn ≠ 0) : p.A.unpin (f : Int) = ⟨p.A.n, upd p.A.F f ⟨1, (p.A.F f).pg, (p.A.F f).pn - 1, (p.A.F f).di⟩, p.A.B, p.A.Q⟩ := by
  have hc : p.A.unpinC (f : Int) = 0 := by
    unfold Ar.unpinC
    rw [if_pos (used_nat i hf hs), Int.toNat_natCast, if_neg h0]
  unfold Ar.unpin
  rw [if_pos hc, Int.toNat_natCast]
  unfold Ar.turn
  rw [hs]
theorem mark_used (i : InvE p h) (hf : f < p.A.n) (hs : (p.A.F f).st = 1) (d : Bool) : p.A.mark (f : Int) d = ⟨p.A.n, upd p.A.F f ⟨1, (p.A.F f).pg, (p.A.F f).pn, d⟩, p.A.B, p.A.Q⟩ := by
  unfold Ar.mark
  rw [if_pos (used_nat i hf hs), Int.toNat_natCast]
  unfold Ar.turn
  rw [hs]
/-- A page's frame is pinned once more, as the model has it. -/
theorem pinned {X' : Md} (i : InvE p h) (hf : f < p.A.n) (hs : (p.A.F f).st = 1) (hp : (p.A.F f).pg = (q : Int)) (gX : MdM.Good X') (hn : X'.n = p.X.n) (hT : ∀ r, r ≠ q → X'.T r = p.X.T r) (hB : ∀ r, r ≠ q → X'.B r = p.X.B r) (hP : ∀ r : Nat, r ≠ q → X'.pins (r : Int) = p.X.pins (r : Int))
    (hh : ∀ r, r ≠ q → h ≠ some r) (o1 : X'.T q = true) (o2 : (p.A.F f).pn + 1 = (X'.pins (q : Int) : Int)) (o3 : p.A.B f = X'.B q) (o4 : (p.A.F f).di = false → says p.D q (X'.B q)) : Inv ⟨X', p.D, p.A.pin (f : Int), p.L⟩ := by
  have hle := pins_le X' gX (q : Int)
  have h0 := (i.ga.use f hf hs).2.2.1
  rw [pin_used i hf hs (by omega)]
  have key := i.step (v := ⟨1, (p.A.F f).pg, (p.A.F f).pn + 1, (p.A.F f).di⟩) (b := p.A.B f) (X' := X') (D' := p.D) (L' := p.L) (h' := none) hf hs hp rfl hp ⟨show (0 : Int) ≤ (p.A.F f).pn + 1 by omega, show (p.A.F f).pn + 1 ≤ (1000 : Int) by omega⟩ (i.ga.b f) gX hn hT hB hP rfl i.dn (fun _ _ => rfl) i.nd (fun _ => Iff.rfl) (fun r hr _ => hh r hr) (fun _ => ⟨o1, o2, o3, o4⟩)
  rw [upd_id] at key
  exact key
theorem run_err (hc : (p.X.run c o).1.c ≠ 0) (i : Inv p) (hX : (p.X.run c o).2 = p.X) : RunP p c o (p.run c o) := by
  unfold Pl.run
  rw [if_pos hc]
  exact .inl ⟨p, rfl, i, hX.symm, rfl, id, fun h => absurd h hc⟩
theorem run_ok (hc : (p.X.run c o).1.c = 0) : p.run c o = Pl.fin (p.X.run c o).1 (p.X.run c o).2 (p.act c o (p.X.run c o).1) := by
  unfold Pl.run
  rw [if_neg (fun e => e hc)]
theorem fin_bad {r : Re} {y : Md} {x : (Int × Int) × Pl} (h : x.1.2 ≠ 0) : Pl.fin r y x = (MdM.err x.1.2, x.2) := if_pos h
theorem fin_ok {r : Re} {y : Md} {x : (Int × Int) × Pl} (h : x.1.2 = 0) : Pl.fin r y x = (r, ⟨y, x.2.D, if 0 ≤ x.1.1 then x.2.A.pin x.1.1 else x.2.A, x.2.L⟩) := if_neg fun e => e h
/-! ### The ways of the model -/
theorem new_way (i : Inv p) (hk : k < p.X.N) (ho : o.k = 1) (hr : p.X.run (k : Int) o = p.X.new k) : RunP p (k : Int) o (p.run (k : Int) o) := by
  rcases HdM.hnd_cases (p.X.H k) 6 with ⟨e, _⟩ | ⟨j, hj, e, hH, _⟩
  · have e : p.X.free k = -1 := e
    have hn : p.X.new k = (MdM.err 4, p.X) := by unfold Md.new; rw [if_pos e]
    exact run_err (by rw [hr, hn]; exact (by decide : (4 : Int) ≠ 0)) i (by rw [hr, hn])
  · have e : p.X.free k = (j : Int) := e
    by_cases hg : p.X.gap = p.X.n
    · have hn : p.X.new k = (MdM.err 3, p.X) := by unfold Md.new; rw [if_neg (by rw [e]; omega), if_pos hg]
      exact run_err (by rw [hr, hn]; exact (by decide : (3 : Int) ≠ 0)) i (by rw [hr, hn])
    · have hlt : p.X.gap < p.X.n := by have := HdM.lst_le (fun i => if p.X.T i then (0 : Int) else -1) p.X.n; unfold Md.gap at hg ⊢; omega
      have hTq : p.X.T p.X.gap = false := by
        have := HdM.lst_at (fun i => if p.X.T i then (0 : Int) else -1) p.X.n hlt
        change (if p.X.T p.X.gap then (0 : Int) else -1) = -1 at this
        cases e2 : p.X.T p.X.gap with
        | false => rfl
        | true => rw [e2] at this; exact absurd this (by decide)
      have hn : p.X.new k = (⟨0, p.X.gap, p.X.free k, []⟩, (p.X.putT p.X.gap true).putH k j p.X.gap) := by
        unfold Md.new
        rw [if_neg (by rw [e]; omega), if_neg hg, e, Int.toNat_natCast]
      generalize p.X.gap = q at *
      have hno : ∀ x, x < p.A.n → (p.A.F x).st = 1 → (p.A.F x).pg ≠ (q : Int) := fun x hx sx px => by
        have := (i.use x q hx sx px (by simp)).1
        rw [hTq] at this
        cases this
      have hc0 : (p.X.run (k : Int) o).1.c = 0 := by rw [hr, hn]
      have hact : p.act (k : Int) o (p.X.run (k : Int) o).1 = if (p.room (q : Int)).1.2 = 0 then ((p.room (q : Int)).1, ⟨(p.room (q : Int)).2.X, (p.room (q : Int)).2.D, (p.room (q : Int)).2.A.mark (p.room (q : Int)).1.1 true, (p.room (q : Int)).2.L⟩) else p.room (q : Int) := by
        unfold Pl.act
        rw [if_pos ho, hr, hn]
      rw [run_ok hc0, hact]
      rcases room_spec i hlt hno with ⟨f, p1, e1, g1, i1, c1, hf, hF, hB, hnf⟩ | ⟨e1, hfull⟩ | ⟨p1, e1, g1, i1, hb, hnf⟩
      · rw [e1]
        dsimp only
        rw [if_pos rfl, fin_ok rfl]
        dsimp only
        rw [if_pos (by omega)]
        have hs1 : (p1.A.F f).st = 1 := by rw [hF]; rfl
        have hp1 : (p1.A.F f).pg = (q : Int) := by rw [hF]; rfl
        have hpn1 : (p1.A.F f).pn = 0 := by rw [hF]; rfl
        refine .inl ⟨_, rfl, ?_, by rw [hr, hn], ?_, g1.bad, fun _ => ⟨fun _ => hnf, fun e2 => absurd (ho.symm.trans e2) (by decide)⟩⟩
        · have i2 : InvE ⟨p1.X, p1.D, p1.A.mark (f : Int) true, p1.L⟩ (some q) := by
            rw [mark_used i1 hf hs1]
            have key := i1.step (v := ⟨1, (p1.A.F f).pg, (p1.A.F f).pn, true⟩) (b := p1.A.B f) (X' := p1.X) (D' := p1.D) (L' := p1.L) (h' := some q) hf hs1 hp1 rfl hp1 ⟨by show (0 : Int) ≤ (p1.A.F f).pn; omega, by show (p1.A.F f).pn ≤ (1000 : Int); omega⟩ (i1.ga.b f) i1.gx rfl (fun _ _ => rfl) (fun _ _ => rfl) (fun _ _ => rfl) rfl i1.dn (fun _ _ => rfl) i1.nd (fun _ => Iff.rfl) (fun _ _ x => x) (fun x => absurd rfl x)
            rw [upd_id] at key
            exact key
          have hmk := mark_used i1 hf hs1 true
          have hFm : (p1.A.mark (f : Int) true).F f = ⟨1, (q : Int), 0, true⟩ := by rw [hmk]; show upd _ _ _ f = _; rw [upd_same, hp1, hpn1]
          have gX' : MdM.Good ((p.X.putT q true).putH k j q) := MdM.Good.putH (MdM.Good.putT i.gx q true (.inl rfl)) k j (.inr ⟨q, rfl, hlt, MdM.upd_same _ _ _⟩)
          have hP0 := pins_out i hlt hno
          have hPq : ((p.X.putT q true).putH k j q).pins (q : Int) = 1 := by
            have := pins_putH (a := p.X.putT q true) (P := (q : Int)) (x := (q : Int)) (c := k) (j := j) hk hj (by omega)
            rw [pins_putT, hP0, if_neg (show ¬ (p.X.putT q true).H k j = (q : Int) by show ¬ p.X.H k j = (q : Int); rw [hH]; omega), if_pos rfl] at this
            omega
          have hPr : ∀ r : Nat, r ≠ q → ((p.X.putT q true).putH k j q).pins (r : Int) = p.X.pins (r : Int) := fun r hr => by
            have := pins_putH (a := p.X.putT q true) (P := (r : Int)) (x := (q : Int)) (c := k) (j := j) hk hj (by omega)
            rw [pins_putT, if_neg (show ¬ (p.X.putT q true).H k j = (r : Int) by show ¬ p.X.H k j = (r : Int); rw [hH]; omega), if_neg (by omega)] at this
            omega
          rw [hr, hn]
          refine pinned (p := ⟨p1.X, p1.D, p1.A.mark (f : Int) true, p1.L⟩) (q := q) i2 (by rw [hmk]; exact hf) (by rw [hFm]) (by rw [hFm]) gX' (by rw [g1.X]; rfl) (fun r hr => ?_) (fun r hr => ?_) (fun r hr => by rw [g1.X]; exact hPr r hr) (fun r hr e => hr (by injection e with e; exact e.symm)) ?_ ?_ ?_ ?_
          · rw [g1.X]; exact MdM.upd_other _ _ hr
          · rw [g1.X]; exact MdM.upd_other _ _ hr
          · exact MdM.upd_same _ _ _
          · rw [hFm, hPq]; rfl
          · show (p1.A.mark (f : Int) true).B f = MdM.upd p.X.B q MdM.zeros q
            rw [MdM.upd_same, hmk, hB]
          · rw [hFm]; intro h; cases h
        · show ((p1.A.mark (f : Int) true).pin (f : Int)).n = _
          rw [← g1.n]
          have hmk := mark_used i1 hf hs1 true
          rw [hmk]
          unfold Ar.pin
          split <;> rfl
      · rw [e1]
        dsimp only
        rw [if_neg (by decide), fin_bad (by show (8 : Int) ≠ 0; decide)]
        exact .inr (.inl ⟨rfl, hfull, hc0, .inl ho⟩)
      · rw [e1]
        dsimp only
        rw [if_neg (by decide), fin_bad (by show (9 : Int) ≠ 0; decide)]
        exact .inr (.inr ⟨p1, rfl, i1, g1.X, g1.n, by omega⟩)
theorem pin_n (a : Ar) (x : Int) : (a.pin x).n = a.n := by
  unfold Ar.pin
  split <;> rfl
theorem fetch_way (i : Inv p) (hk : k < p.X.N) (ho : o.k = 2) (hr : p.X.run (k : Int) o = p.X.onPage o.p (p.X.fetch k)) : RunP p (k : Int) o (p.run (k : Int) o) := by
  by_cases hp : 0 ≤ o.p ∧ o.p < (p.X.n : Int)
  · obtain ⟨q, hq⟩ := Int.eq_ofNat_of_zero_le hp.1
    have hqn : q < p.X.n := by omega
    have e1 : p.X.onPage o.p (p.X.fetch k) = if p.X.T q = false then (MdM.err 2, p.X) else p.X.fetch k q := by
      unfold Md.onPage
      rw [if_neg (fun h => h hp), hq, Int.toNat_natCast]
    cases hT : p.X.T q with
    | false =>
      rw [hT, if_pos rfl] at e1
      exact run_err (by rw [hr, e1]; exact (by decide : (2 : Int) ≠ 0)) i (by rw [hr, e1])
    | true =>
      rw [hT, if_neg (by decide)] at e1
      rcases HdM.hnd_cases (p.X.H k) 6 with ⟨e, _⟩ | ⟨j, hj, e, hH, _⟩
      · have e : p.X.free k = -1 := e
        have hn : p.X.fetch k q = (MdM.err 4, p.X) := by unfold Md.fetch; rw [if_pos e]
        exact run_err (by rw [hr, e1, hn]; exact (by decide : (4 : Int) ≠ 0)) i (by rw [hr, e1, hn])
      · have e : p.X.free k = (j : Int) := e
        have hn : p.X.fetch k q = (⟨0, q, p.X.free k, []⟩, p.X.putH k j q) := by
          unfold Md.fetch
          rw [if_neg (by rw [e]; omega), e, Int.toNat_natCast]
        have hc0 : (p.X.run (k : Int) o).1.c = 0 := by rw [hr, e1, hn]
        have hact : p.act (k : Int) o (p.X.run (k : Int) o).1 = p.fetch (q : Int) := by
          unfold Pl.act
          rw [if_neg (by omega), if_pos ho, hq]
        rw [run_ok hc0, hact]
        rcases fetch_spec i hqn hT with ⟨f, p1, e2, g1, i1, hf, hs, hpg, hor⟩ | ⟨e2, hfull, hno⟩ | ⟨p1, e2, g1, i1, hb⟩
        · rw [e2, fin_ok rfl]
          dsimp only
          rw [if_pos (by omega)]
          refine .inl ⟨_, rfl, ?_, by rw [hr, e1, hn], (pin_n _ _).trans g1.n, g1.bad, fun _ => ⟨fun e2 => absurd (ho.symm.trans e2) (by decide), fun _ => by rw [hq]; exact hor⟩⟩
          have gX' : MdM.Good (p.X.putH k j q) := MdM.Good.putH i.gx k j (.inr ⟨q, rfl, hqn, hT⟩)
          have hPq : (p.X.putH k j q).pins (q : Int) = p.X.pins (q : Int) + 1 := by
            have := pins_putH (a := p.X) (P := (q : Int)) (x := (q : Int)) (c := k) (j := j) hk hj (by omega)
            rw [if_neg (show ¬ p.X.H k j = (q : Int) by rw [hH]; omega), if_pos rfl] at this
            omega
          have hPr : ∀ r : Nat, r ≠ q → (p.X.putH k j q).pins (r : Int) = p.X.pins (r : Int) := fun r hr => by
            have := pins_putH (a := p.X) (P := (r : Int)) (x := (q : Int)) (c := k) (j := j) hk hj (by omega)
            rw [if_neg (show ¬ p.X.H k j = (r : Int) by rw [hH]; omega), if_neg (by omega)] at this
            omega
          obtain ⟨u1, u2, u3, u4⟩ := i1.use f q hf hs hpg (by simp)
          rw [g1.X] at u1 u2 u3 u4
          rw [hr, e1, hn]
          exact pinned (q := q) i1 hf hs hpg gX' (by rw [g1.X]; rfl) (fun r _ => by rw [g1.X]; rfl) (fun r _ => by rw [g1.X]; rfl) (fun r hr => by rw [g1.X]; exact hPr r hr) (fun r _ => by simp) hT (by rw [u2, hPq]; omega) u3 u4
        · rw [e2, fin_bad (by show (8 : Int) ≠ 0; decide)]
          exact .inr (.inl ⟨rfl, hfull, hc0, .inr ⟨ho, by rw [hq]; exact hno⟩⟩)
        · rw [e2, fin_bad (by show (9 : Int) ≠ 0; decide)]
          exact .inr (.inr ⟨p1, rfl, i1, g1.X, g1.n, hb⟩)
  · have e1 : p.X.onPage o.p (p.X.fetch k) = (MdM.err 1, p.X) := by unfold Md.onPage; rw [if_pos hp]
    exact run_err (by rw [hr, e1]; exact (by decide : (1 : Int) ≠ 0)) i (by rw [hr, e1])
/-- The page of a handle has a frame, with the body and the pins that the model has. -/
theorem held_frame (i : Inv p) {c hh : Int} (h0 : ¬ p.X.held c hh < 0) : ∃ k j q f : Nat, c = (k : Int) ∧ hh = (j : Int) ∧ k < p.X.N ∧ j < 6 ∧ p.X.held c hh = (q : Int) ∧ p.X.H k j = (q : Int) ∧ q < p.X.n ∧ p.X.T q = true ∧ f < p.A.n ∧ (p.A.F f).st = 1 ∧ (p.A.F f).pg = (q : Int) ∧ p.A.find (q : Int) = (f : Int) ∧ 0 < p.X.pins (q : Int) := by
  rcases MdM.held_cases i.gx c hh with e | ⟨k, j, q, e1, e2, hk, hj, e3, e4, hq, hT⟩
  · exact absurd (by rw [e]; decide) h0
  · have hpos := pins_pos hk hj e4
    obtain ⟨f, hf, hs, hp⟩ := i.held q hq (by simp) hpos
    exact ⟨k, j, q, f, e1, e2, hk, hj, e3, e4, hq, hT, hf, hs, hp, ArM.find_at i.ga hf hs hp, hpos⟩
theorem hand_err {g : Nat → Re × Md} (i : Inv p) (hr : p.X.run c o = p.X.onHand c o.h g) (h : p.X.held c o.h < 0) : RunP p c o (p.run c o) := by
  have e1 : p.X.onHand c o.h g = (MdM.err 5, p.X) := by unfold Md.onHand; rw [if_pos h]
  exact run_err (by rw [hr, e1]; exact (by decide : (5 : Int) ≠ 0)) i (by rw [hr, e1])
/-- A call that is not one of the two that ask for a frame, and whose work does not fail. -/
theorem easy {p1 : Pl} {r : Re} {y : Md} (ho : o.k ≠ 1 ∧ o.k ≠ 2) (hr : p.X.run c o = (r, y)) (hc : r.c = 0) (hact : p.act c o (p.X.run c o).1 = ((-1, 0), p1)) (hi : Inv ⟨y, p1.D, p1.A, p1.L⟩) (hn : p1.A.n = p.A.n) (hb : p.D.bad = 0 → p1.D.bad = 0) : RunP p c o (p.run c o) := by
  have hc0 : (p.X.run c o).1.c = 0 := by rw [hr]; exact hc
  rw [run_ok hc0, hact, fin_ok rfl]
  dsimp only
  rw [if_neg (by decide)]
  refine .inl ⟨_, rfl, ?_, rfl, hn, hb, fun _ => ⟨fun e => absurd e ho.1, fun e => absurd e ho.2⟩⟩
  rw [hr]
  exact hi
theorem read_way (i : Inv p) (ho : o.k = 3) (hr : p.X.run c o = p.X.onHand c o.h (p.X.read o.o o.n)) : RunP p c o (p.run c o) := by
  by_cases h0 : p.X.held c o.h < 0
  · exact hand_err i hr h0
  · obtain ⟨k, j, q, f, e1, e2, hk, hj, e3, e4, hq, hT, hf, hs, hp, hfd, hpos⟩ := held_frame i h0
    have e5 : p.X.onHand c o.h (p.X.read o.o o.n) = p.X.read o.o o.n q := by unfold Md.onHand; rw [if_neg h0, e3, Int.toNat_natCast]
    by_cases hb : o.o < 0 ∨ o.n < 0 ∨ 16 < o.o ∨ 16 - o.o < o.n
    · have e6 : p.X.read o.o o.n q = (MdM.err 6, p.X) := by unfold Md.read; rw [if_pos hb]
      exact run_err (by rw [hr, e5, e6]; exact (by decide : (6 : Int) ≠ 0)) i (by rw [hr, e5, e6])
    · have e6 : p.X.read o.o o.n q = (⟨0, 0, 0, ((p.X.B q).drop o.o.toNat).take o.n.toNat⟩, p.X) := by unfold Md.read; rw [if_neg hb]
      obtain ⟨g1, i1, hA, hD⟩ := front_spec i hf hs
      refine easy (p1 := p.front (f : Int)) ⟨by omega, by omega⟩ (hr.trans (e5.trans e6)) rfl ?_ ?_ (by rw [hA]) (by rw [hD]; exact id)
      · unfold Pl.act
        rw [if_neg (by omega), if_neg (by omega), if_pos ho, e3, hfd]
      · have : (⟨p.X, (p.front (f : Int)).D, (p.front (f : Int)).A, (p.front (f : Int)).L⟩ : Pl) = p.front (f : Int) := by rw [← g1.X]
        rw [this]
        exact i1
theorem splice_same (b : List Int) (k : Nat) (d : List Int) : ArM.splice b k d = MdM.splice b k d := by
  unfold ArM.splice MdM.splice
  rw [List.append_assoc]
theorem write_way (i : Inv p) (ho : o.k = 4) (hd : MdM.Bytes o.d) (hr : p.X.run c o = p.X.onHand c o.h (p.X.write o.o o.d)) : RunP p c o (p.run c o) := by
  by_cases h0 : p.X.held c o.h < 0
  · exact hand_err i hr h0
  · obtain ⟨k, j, q, f, e1, e2, hk, hj, e3, e4, hq, hT, hf, hs, hp, hfd, hpos⟩ := held_frame i h0
    have e5 : p.X.onHand c o.h (p.X.write o.o o.d) = p.X.write o.o o.d q := by unfold Md.onHand; rw [if_neg h0, e3, Int.toNat_natCast]
    by_cases hb : o.o < 0 ∨ 16 < o.o ∨ 16 - o.o < (o.d.length : Int)
    · have e6 : p.X.write o.o o.d q = (MdM.err 6, p.X) := by unfold Md.write; rw [if_pos hb]
      exact run_err (by rw [hr, e5, e6]; exact (by decide : (6 : Int) ≠ 0)) i (by rw [hr, e5, e6])
    · have e6 : p.X.write o.o o.d q = (MdM.err 0, p.X.putB q (MdM.splice (p.X.B q) o.o.toNat o.d)) := by unfold Md.write; rw [if_neg hb]
      obtain ⟨u1, u2, u3, u4⟩ := i.use f q hf hs hp (by simp)
      have hpn := (i.ga.use f hf hs).2.2
      have hset : p.A.set (f : Int) o.o o.d = ⟨p.A.n, upd p.A.F f ⟨1, (q : Int), (p.A.F f).pn, true⟩, upd p.A.B f (ArM.splice (p.A.B f) o.o.toNat o.d), p.A.Q⟩ := by
        have hc : p.A.setC (f : Int) o.o o.d = 0 := by
          unfold Ar.setC
          rw [if_pos (used_nat i hf hs), if_pos (by omega)]
        unfold Ar.set
        rw [if_pos hc, Int.toNat_natCast, hs, hp]
      have hsl : (ArM.splice (p.A.B f) o.o.toNat o.d).length = 16 := ArM.splice_len (i.ga.b f) (by omega)
      have gX' : MdM.Good (p.X.putB q (MdM.splice (p.X.B q) o.o.toNat o.d)) := i.gx.putB hT (MdM.splice_len (i.gx.len q) (by omega)) (MdM.splice_bytes (i.gx.byt q) hd)
      have i2 : Inv ⟨p.X.putB q (MdM.splice (p.X.B q) o.o.toNat o.d), p.D, p.A.set (f : Int) o.o o.d, p.L⟩ := by
        rw [hset]
        exact i.step (v := ⟨1, (q : Int), (p.A.F f).pn, true⟩) (b := ArM.splice (p.A.B f) o.o.toNat o.d) (X' := p.X.putB q (MdM.splice (p.X.B q) o.o.toNat o.d)) (D' := p.D) (L' := p.L) (h' := none) hf hs hp rfl rfl hpn hsl gX' rfl (fun _ _ => rfl) (fun r hr => MdM.upd_other _ _ hr) (fun _ _ => rfl) rfl i.dn (fun _ _ => rfl) i.nd (fun _ => Iff.rfl) (fun _ _ _ => by simp)
          (fun _ => ⟨hT, u2, by show _ = MdM.upd p.X.B q _ q; rw [MdM.upd_same, splice_same, u3], fun e => by cases e⟩)
      have hfs : (⟨p.X.putB q (MdM.splice (p.X.B q) o.o.toNat o.d), p.D, p.A.set (f : Int) o.o o.d, p.L⟩ : Pl).A.n = p.A.n := by rw [hset]
      have hss : ((p.A.set (f : Int) o.o o.d).F f).st = 1 := by rw [hset]; show (upd p.A.F f ⟨1, (q : Int), (p.A.F f).pn, true⟩ f).st = 1; rw [upd_same]
      obtain ⟨g3, i3, hA3, hD3⟩ := front_spec i2 (f := f) (by rw [hfs]; exact hf) hss
      refine easy (p1 := (⟨p.X, p.D, p.A.set (f : Int) o.o o.d, p.L⟩ : Pl).front (f : Int)) ⟨by omega, by omega⟩ (hr.trans (e5.trans e6)) rfl ?_ i3 hfs id
      unfold Pl.act
      rw [if_neg (by omega), if_neg (by omega), if_neg (by omega), if_pos ho, e3, hfd]
theorem unpin_way (i : Inv p) (ho : o.k = 5) (hr : p.X.run c o = p.X.onHand c o.h fun _ => (MdM.err 0, p.X.putH c.toNat o.h.toNat (-1))) : RunP p c o (p.run c o) := by
  by_cases h0 : p.X.held c o.h < 0
  · exact hand_err i hr h0
  · obtain ⟨k, j, q, f, e1, e2, hk, hj, e3, e4, hq, hT, hf, hs, hp, hfd, hpos⟩ := held_frame i h0
    have e5 : (p.X.onHand c o.h fun _ => (MdM.err 0, p.X.putH c.toNat o.h.toNat (-1))) = (MdM.err 0, p.X.putH k j (-1)) := by
      unfold Md.onHand
      rw [if_neg h0, e1, e2, Int.toNat_natCast, Int.toNat_natCast]
    obtain ⟨u1, u2, u3, u4⟩ := i.use f q hf hs hp (by simp)
    have hle := pins_le p.X i.gx (q : Int)
    have gX' : MdM.Good (p.X.putH k j (-1)) := i.gx.putH k j (.inl rfl)
    have hPq : (p.X.putH k j (-1)).pins (q : Int) + 1 = p.X.pins (q : Int) := by
      have := pins_putH (a := p.X) (P := (q : Int)) (x := -1) (c := k) (j := j) hk hj (by omega)
      rw [if_pos e4, if_neg (by omega)] at this
      omega
    have hPr : ∀ r : Nat, r ≠ q → (p.X.putH k j (-1)).pins (r : Int) = p.X.pins (r : Int) := fun r hr => by
      have := pins_putH (a := p.X) (P := (r : Int)) (x := -1) (c := k) (j := j) hk hj (by omega)
      rw [if_neg (show ¬ p.X.H k j = (r : Int) by rw [e4]; omega), if_neg (by omega)] at this
      omega
    have hun := unpin_used i hf hs (by omega)
    refine easy (p1 := ⟨p.X, p.D, p.A.unpin (f : Int), p.L⟩) ⟨by omega, by omega⟩ (hr.trans e5) rfl ?_ ?_ (by rw [hun]) id
    · unfold Pl.act
      rw [if_neg (by omega), if_neg (by omega), if_neg (by omega), if_neg (by omega), if_pos ho, e3, hfd]
    · show Inv ⟨_, p.D, p.A.unpin (f : Int), p.L⟩
      rw [hun]
      have key := i.step (v := ⟨1, (p.A.F f).pg, (p.A.F f).pn - 1, (p.A.F f).di⟩) (b := p.A.B f) (X' := p.X.putH k j (-1)) (D' := p.D) (L' := p.L) (h' := none) hf hs hp rfl hp ⟨by show (0 : Int) ≤ (p.A.F f).pn - 1; omega, by show (p.A.F f).pn - 1 ≤ (1000 : Int); omega⟩ (i.ga.b f) gX' rfl (fun _ _ => rfl) (fun _ _ => rfl) hPr rfl i.dn (fun _ _ => rfl) i.nd (fun _ => Iff.rfl) (fun _ _ _ => by simp)
        (fun _ => ⟨hT, by show (p.A.F f).pn - 1 = _; omega, u3, u4⟩)
      rw [upd_id] at key
      exact key
/-- A flush and a sync: done, or the device fails. -/
theorem synced_way {x : Int × Pl} {r : Re} (ho : o.k ≠ 1 ∧ o.k ≠ 2) (hr : p.X.run c o = (r, p.X)) (hc : r.c = 0) (hact : p.act c o (p.X.run c o).1 = Pl.synced x) (g1 : Go p x.2) (i1 : Inv x.2) (h : x.1 = 0 ∨ (x.1 = 9 ∧ p.D.bad ≠ 0)) : RunP p c o (p.run c o) := by
  have hc0 : (p.X.run c o).1.c = 0 := by rw [hr]; exact hc
  rw [run_ok hc0, hact]
  unfold Pl.synced
  rcases h with h | ⟨h, hb⟩
  · rw [if_pos h]
    obtain ⟨g2, i2, hA2, h2⟩ := sync_spec i1
    have hg := g1.trans g2
    rcases h2 with h2 | ⟨h2, hb2⟩
    · rw [fin_ok h2]
      dsimp only
      rw [if_neg (by decide)]
      refine .inl ⟨_, rfl, ?_, rfl, by rw [hA2, g1.n], hg.bad, fun _ => ⟨fun e => absurd e ho.1, fun e => absurd e ho.2⟩⟩
      have : (⟨(p.X.run c o).2, x.2.sync.2.D, x.2.sync.2.A, x.2.sync.2.L⟩ : Pl) = x.2.sync.2 := by rw [hr]; rw [← hg.X]
      rw [this]
      exact i2
    · have e9 : ((-1, x.2.sync.1) : Int × Int).2 ≠ 0 := by show x.2.sync.1 ≠ 0; rw [h2]; decide
      rw [fin_bad e9]
      refine .inr (.inr ⟨x.2.sync.2, ?_, i2, hg.X, hg.n, fun e => by have := g1.bad e; omega⟩)
      show (MdM.err x.2.sync.1, _) = _
      rw [h2]
  · rw [if_neg (by rw [h]; decide)]
    have e9 : ((-1, x.1) : Int × Int).2 ≠ 0 := by show x.1 ≠ 0; rw [h]; decide
    rw [fin_bad e9]
    refine .inr (.inr ⟨x.2, ?_, i1, g1.X, g1.n, hb⟩)
    show (MdM.err x.1, _) = _
    rw [h]
theorem flush_way (i : Inv p) (ho : o.k = 6) (hr : p.X.run c o = p.X.onPage o.p fun _ => (MdM.err 0, p.X)) : RunP p c o (p.run c o) := by
  by_cases hp : 0 ≤ o.p ∧ o.p < (p.X.n : Int)
  · obtain ⟨q, hq⟩ := Int.eq_ofNat_of_zero_le hp.1
    have e1 : (p.X.onPage o.p fun _ => (MdM.err 0, p.X)) = if p.X.T q = false then (MdM.err 2, p.X) else (MdM.err 0, p.X) := by
      unfold Md.onPage
      rw [if_neg (fun h => h hp), hq, Int.toNat_natCast]
    cases hT : p.X.T q with
    | false =>
      rw [hT, if_pos rfl] at e1
      exact run_err (by rw [hr, e1]; exact (by decide : (2 : Int) ≠ 0)) i (by rw [hr, e1])
    | true =>
      rw [hT, if_neg (by decide)] at e1
      obtain ⟨g1, i1, _, _, h⟩ := flush_spec i q
      refine synced_way ⟨by omega, by omega⟩ (hr.trans e1) rfl ?_ g1 i1 (h.elim (fun h => .inl h.1) fun h => .inr ⟨h.1, by omega⟩)
      unfold Pl.act
      rw [if_neg (by omega), if_neg (by omega), if_neg (by omega), if_neg (by omega), if_neg (by omega), if_pos ho, hq]
  · have e1 : (p.X.onPage o.p fun _ => (MdM.err 0, p.X)) = (MdM.err 1, p.X) := by unfold Md.onPage; rw [if_pos hp]
    exact run_err (by rw [hr, e1]; exact (by decide : (1 : Int) ≠ 0)) i (by rw [hr, e1])
theorem all_way (i : Inv p) (ho : o.k = 7) (hr : p.X.run c o = (MdM.err 0, p.X)) : RunP p c o (p.run c o) := by
  obtain ⟨g1, i1, _, _, h⟩ := flushTo_spec i p.X.n
  refine synced_way ⟨by omega, by omega⟩ hr rfl ?_ g1 i1 (h.elim (fun h => .inl h.1) fun h => .inr h)
  unfold Pl.act
  rw [if_neg (by omega), if_neg (by omega), if_neg (by omega), if_neg (by omega), if_neg (by omega), if_neg (by omega), if_pos ho]
theorem del_way (i : Inv p) (ho : o.k = 8) (hr : p.X.run c o = p.X.onPage o.p p.X.del) : RunP p c o (p.run c o) := by
  by_cases hp : 0 ≤ o.p ∧ o.p < (p.X.n : Int)
  · obtain ⟨q, hq⟩ := Int.eq_ofNat_of_zero_le hp.1
    have hqn : q < p.X.n := by omega
    have e1 : p.X.onPage o.p p.X.del = if p.X.T q = false then (MdM.err 2, p.X) else p.X.del q := by
      unfold Md.onPage
      rw [if_neg (fun h => h hp), hq, Int.toNat_natCast]
    cases hT : p.X.T q with
    | false =>
      rw [hT, if_pos rfl] at e1
      exact run_err (by rw [hr, e1]; exact (by decide : (2 : Int) ≠ 0)) i (by rw [hr, e1])
    | true =>
      rw [hT, if_neg (by decide)] at e1
      by_cases h0 : 0 < p.X.pins (q : Int)
      · have e2 : p.X.del q = (MdM.err 7, p.X) := by unfold Md.del; rw [if_pos h0]
        exact run_err (by rw [hr, e1, e2]; exact (by decide : (7 : Int) ≠ 0)) i (by rw [hr, e1, e2])
      · have e2 : p.X.del q = (MdM.err 0, p.X.putT q false) := by unfold Md.del; rw [if_neg h0]
        have hP0 : p.X.pins (q : Int) = 0 := by omega
        have gX' : MdM.Good (p.X.putT q false) := i.gx.putT q false (.inr fun x y hx hy => MdM.pins_zero hP0 x y hx hy)
        have hact : p.act c o (p.X.run c o).1 = ((-1, 0), if 0 ≤ p.A.find (q : Int) then p.drop (p.A.find (q : Int)).toNat else p) := by
          unfold Pl.act
          rw [if_neg (by omega), if_neg (by omega), if_neg (by omega), if_neg (by omega), if_neg (by omega), if_neg (by omega), if_neg (by omega), hq]
        have fins : ∀ p1 : Pl, InvE p1 (some q) → (∀ x, x < p1.A.n → (p1.A.F x).st = 1 → (p1.A.F x).pg ≠ (q : Int)) → p1.X = p.X → Inv ⟨p.X.putT q false, p1.D, p1.A, p1.L⟩ := fun p1 i1 no1 hX =>
          i1.close (X' := p.X.putT q false) no1 gX' (by rw [hX]; rfl) (fun r hr => by rw [hX]; exact MdM.upd_other _ _ hr) (fun r hr => by rw [hX]; exact MdM.upd_other _ _ hr) (fun r => by rw [hX]; rfl) (by rw [hX]; exact hP0)
            (fun e => by have e : MdM.upd p.X.T q false q = true := e; rw [MdM.upd_same] at e; cases e)
        rcases ArM.find_cases p.A (q : Int) with ⟨e, hno⟩ | ⟨f, hf, hs, hpg, e⟩
        · rw [e, if_neg (by decide)] at hact
          exact easy (p1 := p) ⟨by omega, by omega⟩ (hr.trans (e1.trans e2)) rfl hact (fins p (i.weaken _) hno rfl) rfl id
        · rw [e, if_pos (by omega), Int.toNat_natCast] at hact
          obtain ⟨u1, u2, u3, u4⟩ := i.use f q hf hs hpg (by simp)
          obtain ⟨g3, i3, D3, Q3, F3⟩ := drop_spec (i.weaken (some q)) hf hs hpg (by rw [u2, hP0]; rfl) (.inl rfl)
          refine easy (p1 := p.drop f) ⟨by omega, by omega⟩ (hr.trans (e1.trans e2)) rfl hact (fins (p.drop f) i3 (fun x hx sx px => ?_) g3.X) g3.n g3.bad
          rw [F3] at sx px
          by_cases ex : x = f
          · subst ex; rw [upd_same] at sx; have : (0 : Int) = 1 := sx; omega
          · rw [upd_other _ _ ex] at sx px
            rw [g3.n] at hx
            exact ex (i.ga.uq x f hx hf sx hs (by omega))
  · have e1 : p.X.onPage o.p p.X.del = (MdM.err 1, p.X) := by unfold Md.onPage; rw [if_pos hp]
    exact run_err (by rw [hr, e1]; exact (by decide : (1 : Int) ≠ 0)) i (by rw [hr, e1])
/-- What a call tells, and makes. -/
theorem run_spec (i : Inv p) (c : Int) (o : MdOp) (hd : MdM.Bytes o.d) : RunP p c o (p.run c o) := by
  by_cases hb : ¬ (0 ≤ c ∧ c < (p.X.N : Int)) ∨ o.k < 1 ∨ 8 < o.k
  · have e : p.X.run c o = (MdM.err 1, p.X) := by unfold Md.run; rw [if_pos hb]
    exact run_err (by rw [e]; exact (by decide : (1 : Int) ≠ 0)) i (by rw [e])
  · have hc : 0 ≤ c ∧ c < (p.X.N : Int) := by omega
    obtain ⟨k, rfl⟩ := Int.eq_ofNat_of_zero_le hc.1
    have hk : k < p.X.N := by omega
    have e0 : p.X.run (k : Int) o = if o.k = 1 then p.X.new k else if o.k = 2 then p.X.onPage o.p (p.X.fetch k) else if o.k = 3 then p.X.onHand (k : Int) o.h (p.X.read o.o o.n) else if o.k = 4 then p.X.onHand (k : Int) o.h (p.X.write o.o o.d) else if o.k = 5 then p.X.onHand (k : Int) o.h (fun _ => (MdM.err 0, p.X.putH (k : Int).toNat o.h.toNat (-1))) else if o.k = 6 then p.X.onPage o.p (fun _ => (MdM.err 0, p.X)) else if o.k = 7 then (MdM.err 0, p.X) else p.X.onPage o.p p.X.del := by
      unfold Md.run
      rw [if_neg hb]
      rfl
    by_cases h1 : o.k = 1
    · rw [if_pos h1] at e0; exact new_way i hk h1 e0
    rw [if_neg h1] at e0
    by_cases h2 : o.k = 2
    · rw [if_pos h2] at e0; exact fetch_way i hk h2 e0
    rw [if_neg h2] at e0
    by_cases h3 : o.k = 3
    · rw [if_pos h3] at e0; exact read_way i h3 e0
    rw [if_neg h3] at e0
    by_cases h4 : o.k = 4
    · rw [if_pos h4] at e0; exact write_way i h4 hd e0
    rw [if_neg h4] at e0
    by_cases h5 : o.k = 5
    · rw [if_pos h5] at e0; exact unpin_way i h5 e0
    rw [if_neg h5] at e0
    by_cases h6 : o.k = 6
    · rw [if_pos h6] at e0; exact flush_way i h6 e0
    rw [if_neg h6] at e0
    by_cases h7 : o.k = 7
    · rw [if_pos h7] at e0; exact all_way i h7 e0
    rw [if_neg h7] at e0
    exact del_way i (by omega) e0
theorem inv_fresh {n N k : Nat} (h1 : 1 ≤ n) (h2 : n ≤ 48) (h3 : 1 ≤ N) (h4 : N ≤ 6) (h5 : 1 ≤ k) (h6 : k ≤ 32) : Inv (RfM.fresh n N k) := by
  have hs : ∀ f, ((RfM.fresh n N k).A.F f).st = 0 := fun _ => rfl
  have hno : ∀ f, ¬ ((RfM.fresh n N k).A.F f).st = 1 := fun f e => by rw [hs] at e; exact absurd e (by decide)
  have hT : ∀ q, (RfM.fresh n N k).X.T q = false := fun _ => rfl
  have hP : ∀ q : Nat, (RfM.fresh n N k).X.pins (q : Int) = 0 := fun q => by
    show (MdM.fresh n N).pins (q : Int) = 0
    unfold Md.pins
    rw [if_neg (by omega)]
    have hc : ∀ m, HdM.cnt (fun _ => (-1 : Int)) (q : Int) m = 0 := fun m => by
      induction m with
      | zero => rfl
      | succ m ih => rw [HdM.cnt_no (by omega)]; exact ih
    have hz : ∀ m, HdM.sum ((MdM.fresh n N).has (q : Int)) m = 0 := fun m => by
      induction m with
      | zero => rfl
      | succ m ih =>
        show HdM.sum _ m + HdM.cnt (fun _ => (-1 : Int)) (q : Int) 6 = 0
        rw [ih, hc]
    exact hz _
  exact ⟨MdM.good_fresh h1 h2 h3 h4, ArM.good_fresh h6, List.nodup_nil, fun f => ⟨(fun h => by cases h), fun h => absurd h.2 (hno f)⟩, fun f _ => .inl rfl, h5, rfl, rfl, fun f _ h => absurd h (hno f), fun f q _ h => absurd h (hno f), fun q _ _ h => by rw [hP] at h; omega, fun q _ _ h => by rw [hT] at h; cases h⟩
end
end Go.Proofs.YtbnkpnllgoghnaaGreat.RfX

namespace Go.Proofs.YtbnkpnllgoghnaaGreat.RgM
open Go.Proofs.YtbnkpnllgoghnaaGreat.MdM (Md MdOp Re)
open Go.Proofs.YtbnkpnllgoghnaaGreat.ArM (Ar Fr)
open Go.Proofs.YtbnkpnllgoghnaaGreat.Dev (Dv)
open Go.Proofs.YtbnkpnllgoghnaaGreat.RfM Go.Proofs.YtbnkpnllgoghnaaGreat.RfI Go.Proofs.YtbnkpnllgoghnaaGreat.RfR Go.Proofs.YtbnkpnllgoghnaaGreat.RfF
/-- The bounds of a device behind so many accesses. -/
def Bnd (S : Dv) (i : Nat) : Prop := S.n ≤ i ∧ S.bad ≤ 1000000
section
variable {S : Dv} {i j m k : Nat} {p : Pl} {q : Int} {f : Nat}
theorem Bnd.up (h : Bnd S i) (hj : i ≤ j) : Bnd S j := ⟨Nat.le_trans h.1 hj, h.2⟩
theorem Bnd.acc (h : Bnd S i) : Bnd (Dev.accS S) (i + 1) := by
  obtain ⟨h1, h2⟩ := h
  unfold Dev.accS
  split
  · exact ⟨by omega, h2⟩
  · exact ⟨by show S.n + 1 ≤ i + 1; omega, by show S.bad - 1 ≤ 1000000; omega⟩
theorem Bnd.read (h : Bnd S i) (p : Int) : Bnd (Dev.readS S p) (i + 1) := by
  unfold Dev.readS; split
  · exact h.acc
  · exact h.up (by omega)
theorem Bnd.write (h : Bnd S i) (p : Int) (zs : List Int) : Bnd (Dev.writeS S p zs) (i + 1) := by
  unfold Dev.writeS; split
  · split
    · exact h.acc
    · exact h.acc
  · exact h.up (by omega)
theorem Bnd.sync (h : Bnd S i) : Bnd (Dev.syncS S) (i + 1) := by
  unfold Dev.syncS; split
  · exact h.acc
  · exact h.acc
theorem Bnd.fail (h : Bnd S i) (m : Int) : Bnd (Dev.failS S m) i := by
  unfold Dev.failS
  split
  · next e =>
    simp only [Dev.failB, Bool.and_eq_true, decide_eq_true_eq] at e
    exact ⟨h.1, by show m.toNat ≤ 1000000; omega⟩
  · exact h
theorem Bnd.wr (h : Bnd p.D i) (f : Nat) : Bnd (p.wr f).D (i + 1) := h.write _ _
theorem Bnd.take (h : Bnd p.D i) (q : Int) : Bnd (p.take q).2.D i := h
theorem Bnd.room (h : Bnd p.D i) (q : Int) : Bnd (p.room q).2.D (i + 1) := by
  unfold Pl.room
  split
  · split
    · exact h.up (by omega)
    · unfold Pl.evict
      split
      · split
        · exact (h.wr _)
        · exact (h.wr _)
      · exact h.up (by omega)
  · exact h.up (by omega)
theorem Bnd.load (h : Bnd p.D i) (q : Int) (f : Nat) : Bnd (p.load q f).2.D (i + 1) := by
  unfold Pl.load
  split
  · exact h.read _
  · split
    · exact h.read _
    · split
      · exact h.read _
      · exact h.read _
theorem Bnd.front (h : Bnd p.D i) (f : Int) : Bnd (p.front f).D i := h
theorem Bnd.fetch (h : Bnd p.D i) (q : Int) : Bnd (p.fetch q).2.D (i + 2) := by
  unfold Pl.fetch
  split
  · exact h.up (by omega)
  · split
    · exact (h.room q).up (by omega)
    · exact (h.room q).load _ _
theorem Bnd.flush (h : Bnd p.D i) (q : Int) : Bnd (p.flush q).2.D (i + 1) := by
  unfold Pl.flush
  split
  · exact h.wr _
  · exact h.up (by omega)
theorem Bnd.flushTo (h : Bnd p.D i) (k : Nat) : Bnd (p.flushTo k).2.D (i + k) := by
  induction k with
  | zero => exact h
  | succ k ih =>
    unfold Pl.flushTo
    split
    · exact ih.flush _
    · exact ih.up (by omega)
theorem Bnd.synced {x : Int × Pl} (h : Bnd x.2.D i) : Bnd (Pl.synced x).2.D (i + 1) := by
  unfold Pl.synced
  split
  · exact h.sync
  · exact h.up (by omega)
theorem Bnd.act (h : Bnd p.D i) (hn : p.X.n ≤ 48) (c : Int) (o : MdOp) (r : Re) : Bnd (p.act c o r).2.D (i + 50) := by
  unfold Pl.act
  split
  · split
    · exact (h.room _).up (by omega)
    · exact (h.room _).up (by omega)
  · split
    · exact (h.fetch _).up (by omega)
    · split
      · exact h.up (by omega)
      · split
        · exact h.up (by omega)
        · split
          · exact h.up (by omega)
          · split
            · exact (Bnd.synced (h.flush _)).up (by omega)
            · split
              · exact (Bnd.synced (h.flushTo _)).up (by omega)
              · dsimp only
                split
                · exact h.up (by omega)
                · exact h.up (by omega)
theorem Bnd.run (h : Bnd p.D i) (hn : p.X.n ≤ 48) (c : Int) (o : MdOp) : Bnd (p.run c o).2.D (i + 50) := by
  unfold Pl.run
  split
  · exact h.up (by omega)
  · unfold Pl.fin
    split
    · exact h.act hn _ _ _
    · exact h.act hn _ _ _
theorem Bnd.fresh (n N k : Nat) : Bnd (RfM.fresh n N k).D 0 := ⟨Nat.le_refl _, Nat.zero_le _⟩
end
/-! ### Pages saved one behind the other -/
/-- A page's frame is written, if it must be. -/
def saveC (p : Pl) (f : Nat) : Int := if (p.A.F f).di = true then p.wrC f else 0
def saveS (p : Pl) (f : Nat) : Pl := if (p.A.F f).di = true then p.wr f else p
def saves (p : Pl) : List Nat → Int × Pl
  | [] => (0, p)
  | q :: l => if (p.flush (q : Int)).1 = 0 then saves (p.flush (q : Int)).2 l else p.flush (q : Int)
section
variable {p : Pl} {q : Nat} {l : List Nat}
theorem saves_one (p : Pl) (q : Nat) : saves p [q] = p.flush (q : Int) := by
  unfold saves
  split
  · next h => unfold saves; rw [← h]
  · rfl
theorem saves_snoc (p : Pl) (l : List Nat) (q : Nat) : saves p (l ++ [q]) = if (saves p l).1 = 0 then (saves p l).2.flush (q : Int) else saves p l := by
  induction l generalizing p with
  | nil =>
    rw [List.nil_append, saves_one]
    unfold saves
    rw [if_pos rfl]
  | cons a l ih =>
    rw [List.cons_append]
    unfold saves
    split
    · rw [ih]
    · next h => first | rfl | rw [if_neg h]
theorem saves_range (p : Pl) (k : Nat) : saves p (List.range k) = p.flushTo k := by
  induction k with
  | zero => rfl
  | succ k ih =>
    rw [List.range_succ, saves_snoc, ih]
    rfl
/-- The page's frame has what the device has not. -/
def Di (p : Pl) (q : Nat) : Prop := ∃ f, f < p.A.n ∧ (p.A.F f).st = 1 ∧ (p.A.F f).pg = (q : Int) ∧ (p.A.F f).di = true
theorem flush_not (i : Inv p) (h : ¬ Di p q) : p.flush (q : Int) = (0, p) := by
  unfold Pl.flush
  rcases ArM.find_cases p.A (q : Int) with ⟨e, _⟩ | ⟨f, hf, hs, hp, e⟩
  · rw [e, if_neg (by omega)]
  · rw [e, Int.toNat_natCast, if_neg fun x => h ⟨f, hf, hs, hp, x.2⟩]
theorem flush_keep (i : Inv p) {r : Nat} (h : Di (p.flush (q : Int)).2 r) : Di p r := by
  obtain ⟨g, _, _, hx, _⟩ := flush_spec i q
  obtain ⟨f, hf, hs, hp, hd⟩ := h
  obtain ⟨h1, h2, h3⟩ := hx f
  refine ⟨f, by rw [← g.n]; exact hf, by rw [← h1]; exact hs, by rw [← h2]; exact hp, ?_⟩
  cases e : (p.A.F f).di with
  | true => rfl
  | false => rw [h3 e] at hd; exact absurd hd (by decide)
/-- Pages that need not be saved may be left out. -/
theorem saves_filter (i : Inv p) (E : Nat → Bool) (h : ∀ q ∈ l, Di p q → E q = true) : saves p (l.filter E) = saves p l := by
  induction l generalizing p with
  | nil => rfl
  | cons a l ih =>
    rw [List.filter_cons]
    have hr : ∀ q ∈ l, Di (p.flush (a : Int)).2 q → E q = true := fun q hq hd => h q (List.mem_cons_of_mem _ hq) (flush_keep i hd)
    split
    · unfold saves
      split
      · exact ih (flush_spec i a).2.1 hr
      · rfl
    · next hE =>
      have h0 := flush_not (q := a) i fun hd => hE (h a List.mem_cons_self hd)
      rw [ih i fun q hq hd => h q (List.mem_cons_of_mem _ hq) hd]
      conv => rhs; unfold saves
      rw [h0, if_pos rfl]
/-- A rising row of numbers below n is what is left of all of them. -/
theorem sorted_filter {n : Nat} (hs : l.Pairwise (· < ·)) (hn : ∀ q ∈ l, q < n) : (List.range n).filter (fun q => decide (q ∈ l)) = l := by
  have h1 : ((List.range n).filter (fun q => decide (q ∈ l))).Pairwise (· < ·) := List.pairwise_lt_range.filter _
  have hp : ((List.range n).filter (fun q => decide (q ∈ l))).Perm l := by
    rw [List.perm_ext_iff_of_nodup (h1.imp fun h => Nat.ne_of_lt h) (hs.imp fun h => Nat.ne_of_lt h)]
    intro a
    rw [List.mem_filter]
    simp only [List.mem_range, decide_eq_true_eq]
    exact ⟨fun h => h.2, fun h => ⟨hn a h, h⟩⟩
  exact hp.eq_of_pairwise (fun a b _ _ h k => absurd (Nat.lt_trans h k) (Nat.lt_irrefl _)) h1 hs
/-- A flush of all saves just the pages that must be. -/
theorem saves_all (i : Inv p) {n : Nat} (hs : l.Pairwise (· < ·)) (hn : ∀ q ∈ l, q < n) (hd : ∀ q, q < n → Di p q → q ∈ l) : saves p l = p.flushTo n := by
  rw [← saves_range, ← sorted_filter hs hn]
  exact saves_filter i _ fun q hq h => decide_eq_true (hd q (List.mem_range.1 hq) h)
end
end Go.Proofs.YtbnkpnllgoghnaaGreat.RgM

namespace Go.Proofs.YtbnkpnllgoghnaaGreat.GsC
open Go.ChangeShapes Go.WideShapes Go.ChangeAt Go.RowKit
open Go.Proofs.YtbnkpnllgoghnaaGreat.Mem Go.Proofs.YtbnkpnllgoghnaaGreat.Blk Go.Proofs.YtbnkpnllgoghnaaGreat.Cells Go.Proofs.YtbnkpnllgoghnaaGreat.Stages
theorem infoI : (Tryz.prog.info? 3).map (fun i => (i.zero, i.size, i.bytes)) = some (some (.int .i64 0), 1, 8) := by kernel_rfl
theorem add_off (b off j : Nat) : (⟨b, off, none⟩ : Addr).add j = ⟨b, off + j, none⟩ := by unfold Addr.add; split <;> simp_all
/-! ### A block in which a stretch is written -/
section
variable {w w' : World} {b n : Nat} {f g : Nat → Value}
theorem Row.setCells (vs : List Value) : ∀ {w : World} {f : Nat → Value} (o : Nat), Row w b n f → Row (w.setCells b o vs) b n (fun j => if o ≤ j ∧ j < o + vs.length then vs.getD (j - o) (f j) else f j) := by
  induction vs with
  | nil => intro w f o h; exact h.congr fun i _ => by rw [if_neg (by simp only [List.length_nil]; omega)]
  | cons v r ih =>
    intro w f o h
    refine (ih (o + 1) (h.set o v)).congr fun i _ => ?_
    by_cases e : i = o
    · subst e
      have e2 : i ≤ i ∧ i < i + (v :: r).length := by simp only [List.length_cons]; omega
      rw [if_neg (show ¬ (i + 1 ≤ i ∧ i < i + 1 + r.length) by omega), if_pos rfl, if_pos e2, Nat.sub_self]
      rfl
    · by_cases h2 : o + 1 ≤ i ∧ i < o + 1 + r.length
      · have e2 : o ≤ i ∧ i < o + (v :: r).length := by simp only [List.length_cons]; omega
        rw [if_pos h2, if_pos e2, if_neg e, show i - o = (i - (o + 1)) + 1 by omega, List.getD_cons_succ]
      · have e2 : ¬ (o ≤ i ∧ i < o + (v :: r).length) := by simp only [List.length_cons]; omega
        rw [if_neg h2, if_neg e, if_neg e2]
theorem kept_setCells (b : Nat) (vs : List Value) : ∀ (w : World) (o : Nat), Kept (fun x => x = b) w (w.setCells b o vs) := by
  induction vs with
  | nil => intro w o; exact Kept.refl _ _
  | cons v r ih => intro w o; exact (kept_set w b o v).trans (ih _ _)
theorem Row.isSome (h : Row w b n f) {j : Nat} (hj : j < n) : (w.cell? ⟨b, j, none⟩).isSome = true := by rw [h.cell hj]; rfl
/-- What a stretch of m cells from o on becomes. -/
def laid (f : Nat → Value) (o m : Nat) (u : Nat → Value) (j : Nat) : Value := if o ≤ j ∧ j < o + m then u (j - o) else f j
theorem Row.laid {m : Nat} (h : Row w b n f) (o : Nat) (u : Nat → Value) : Row (w.setCells b o ((List.range m).map u)) b n (laid f o m u) := by
  refine (Row.setCells _ o h).congr fun i _ => ?_
  unfold GsC.laid
  simp only [List.length_map, List.length_range]
  by_cases e : o ≤ i ∧ i < o + m
  · rw [if_pos e, if_pos e]
    simp [List.getD, show i - o < m by omega]
  · rw [if_neg e, if_neg e]
/-- 'copy' into a stretch of a block. -/
theorem copy_row {P : Program} {N m : Nat} {f u : Nat → Value} (dT sT elem : TypeId) (hu : P.underlying dT = some (.slice elem)) (hs : (P.info? elem).map (·.size) = some 1)
    (h : Row w b N f) (o dLen : Nat) (a : Addr) (sLen : Nat) (hm : Nat.min sLen dLen = m) (hfit : o + m ≤ N) (hsrc : ∀ j, j < m → w.cell? (a.add j) = some (u j)) (h1 : ∀ j, j < m → (u j).oneCell' = true) :
    ∃ w', (∀ ty dCap sCap, (Builtin.copy_ #[dT, sT] ty #[.slice (some ⟨b, o, none⟩) dLen dCap, .slice (some a) sLen sCap]).run P w = .ok (.int .i64 (m : Int)) w') ∧ Row w' b N (laid f o m u) ∧ Kept (fun x => x = b) w w' := by
  have hl : ((List.range m).map u).length = m := by simp
  refine ⟨_, fun ty dCap sCap => ?_, Row.laid h o u, kept_setCells _ _ _ _⟩
  have hr := run_copy_cells (P := P) w dT sT ty elem b o dLen dCap a sLen sCap ((List.range m).map u) hu hs (by rw [hl, hm]) (fun j v hj => by
      have hjm : j < m := by
        have := (List.getElem?_eq_some_iff.1 hj).1
        simpa using this
      rw [hsrc j hjm, ← hj]
      simp [hjm]) (fun j hj => Row.isSome h (by rw [hl] at hj; omega)) (fun j _ => h.frozen _) (fun v hv => by
      obtain ⟨j, hj, rfl⟩ := List.mem_map.1 hv
      exact h1 j (List.mem_range.1 hj))
  rw [hl] at hr
  exact hr
end
/-! ### A slice of the call's own -/
/-- The blocks of a slice in which there is room. -/
def blk (A : Option Addr) (c : Nat) (k : Nat) : Prop := 0 < c ∧ ∃ x, A = some x ∧ x.block = k
/-- The slice '.slice A n c' holds the numbers zs; all its room is there and may be written. -/
structure Gs (w : World) (A : Option Addr) (n c : Nat) (zs : List Int) : Prop where
  len : zs.length = n
  le : n ≤ c
  max : c ≤ maxLen
  row : 0 < c → ∃ b off f, A = some ⟨b, off, none⟩ ∧ Row w b (off + c) f ∧ ∀ j, j < n → f (off + j) = .int .i64 (zs.getD j 0)
section
variable {w w' : World} {n c m B : Nat} {A : Option Addr} {zs : List Int} {F : Nat → Prop}
theorem blk_some {b off k : Nat} : blk (some ⟨b, off, none⟩) c k ↔ 0 < c ∧ b = k :=
  ⟨fun ⟨h, x, e, hk⟩ => ⟨h, by injection e with e; subst e; exact hk⟩, fun ⟨h, hk⟩ => ⟨h, _, rfl, hk⟩⟩
theorem blk_zero {k : Nat} : ¬ blk A 0 k := fun h => absurd h.1 (by omega)
theorem Gs.nil (w : World) (A : Option Addr) : Gs w A 0 0 [] := ⟨rfl, Nat.le_refl _, Nat.zero_le _, fun h => absurd h (by omega)⟩
theorem Gs.lt (h : Gs w A n c zs) {k : Nat} (hk : blk A c k) : k < w.heap.size := by
  obtain ⟨h0, x, rfl, rfl⟩ := hk
  obtain ⟨b, off, f, e, hr, _⟩ := h.row h0
  injection e with e
  subst e
  exact hr.lt
theorem Gs.kept (h : Gs w A n c zs) (hk : Kept F w w') (hF : ∀ k, blk A c k → ¬ F k) : Gs w' A n c zs :=
  ⟨h.len, h.le, h.max, fun h0 => by
    obtain ⟨b, off, f, rfl, hr, hf⟩ := h.row h0
    exact ⟨b, off, f, rfl, hr.kept hk (hF _ (blk_some.2 ⟨h0, rfl⟩)), hf⟩⟩
theorem Gs.grow (h : Gs w A n c zs) (hk : Grow w w') : Gs w' A n c zs := h.kept hk fun _ _ x => x
theorem Gs.sl (h : Gs w A n c zs) (hB : w.heap.size ≤ B) : Sl w B .i64 A n zs := ⟨h.len, fun hn => by
  obtain ⟨b, off, f, rfl, hr, hf⟩ := h.row (by have := h.le; omega)
  have := h.le
  exact ⟨b, off, rfl, Nat.lt_of_lt_of_le hr.lt hB, fun j hj => by rw [hr.cell (by omega), hf j hj]⟩⟩
theorem Gs.take (h : Gs w A n c zs) (hm : m ≤ n) : Gs w A m c (zs.take m) :=
  ⟨by rw [List.length_take, h.len]; omega, by have := h.le; omega, h.max, fun h0 => by
    obtain ⟨b, off, f, rfl, hr, hf⟩ := h.row h0
    exact ⟨b, off, f, rfl, hr, fun j hj => by rw [hf j (by omega)]; simp [List.getD_eq_getElem?_getD, hj]⟩⟩
theorem Gs.drop (h : Gs w A n c zs) (hm : m ≤ n) : Gs w (if c = m then A else A.map (·.add m)) (n - m) (c - m) (zs.drop m) :=
  ⟨by rw [List.length_drop, h.len], by have := h.le; omega, by have := h.max; omega, fun h0 => by
    obtain ⟨b, off, f, rfl, hr, hf⟩ := h.row (by omega)
    rw [if_neg (by omega)]
    refine ⟨b, off + m, f, by simp only [Option.map_some, add_off], by rwa [show off + m + (c - m) = off + c by omega], fun j hj => ?_⟩
    rw [Nat.add_assoc, hf (m + j) (by omega)]
    simp [List.getD_eq_getElem?_getD]⟩
/-- A row of the call's own, as the kit says it. -/
theorem Gs.of_own {base : Nat} {v : Value} (h : w.ownsRow base 3 1 v n (zs.map (Value.int .i64))) : ∃ A c, v = .slice A n c ∧ Gs w A n c zs ∧ ∀ k, blk A c k → base ≤ k := by
  have hl : zs.length = n := by have := h.1; simpa using this
  rcases h.2 with ⟨rfl, rfl⟩ | ⟨g, cap, cur, rfl, hb, hg, h1, h2, h3, h4⟩
  · have hz : zs = [] := List.eq_nil_of_length_eq_zero hl
    subst hz
    exact ⟨none, 0, rfl, Gs.nil _ _, fun k h => absurd h blk_zero⟩
  · refine ⟨_, cap, rfl, ⟨hl, h1, h2, fun h0 => ⟨g, 0, fun j => (cur[j]?).getD (.bool false), rfl, ⟨cur, _, hg, by omega, fun i hi => ?_⟩, fun j hj => ?_⟩⟩, fun k hk => (blk_some.1 hk).2 ▸ hb⟩
    · have hlt : i < cur.size := by omega
      show cur[i]? = some ((cur[i]?).getD _)
      rw [Array.getElem?_eq_getElem hlt]
      rfl
    · have : (cur.toList.take (n * 1))[j]? = some (.int .i64 (zs.getD j 0)) := by
        rw [h4]
        simp [List.getD_eq_getElem?_getD, List.getElem?_eq_getElem (show j < zs.length by omega)]
      rw [List.getElem?_take, if_pos (by omega)] at this
      show (cur[0 + j]?).getD _ = _
      rw [Nat.zero_add, ← Array.getElem?_toList, this]
      rfl
end
end Go.Proofs.YtbnkpnllgoghnaaGreat.GsC

namespace Go.Proofs.YtbnkpnllgoghnaaGreat.ArB
open Go.ChangeShapes Go.WideShapes Go.ChangeAt Go.RowKit
open Go.Proofs.YtbnkpnllgoghnaaGreat.Mem Go.Proofs.YtbnkpnllgoghnaaGreat.Blk Go.Proofs.YtbnkpnllgoghnaaGreat.Cells Go.Proofs.YtbnkpnllgoghnaaGreat.Orow Go.Proofs.YtbnkpnllgoghnaaGreat.GsC Go.Proofs.YtbnkpnllgoghnaaGreat.TabM Go.Proofs.YtbnkpnllgoghnaaGreat.ArM Go.Proofs.YtbnkpnllgoghnaaGreat.ArC Go.Proofs.YtbnkpnllgoghnaaGreat.ArD Go.Proofs.YtbnkpnllgoghnaaGreat.Stages
theorem infoU8 : (Tryz.prog.info? 5).map (fun i => (i.zero, i.size, i.bytes)) = some (some (.int .u8 0), 1, 1) := by kernel_rfl
theorem sizeU8 : (Tryz.prog.info? 5).map (·.size) = some 1 := by kernel_rfl
theorem infoFr : (Tryz.prog.info? 36).map (fun i => (i.zero, i.size, i.bytes)) = some (some (.agg #[.int .i64 0, .int .i64 0, .int .i64 0, .int .i64 0, .bool false]), 5, 40) := by kernel_rfl
/-! ### Copies of the caller's own -/
/-- A slice of the caller's own, of n elements of s cells. -/
def CloneOf (w : World) (t : TypeId) (s n : Nat) (f : Nat → Value) (e : Ending) (w' : World) : Prop :=
  ∃ g c, e = .returned (.slice (some ⟨g, 0, none⟩) n c) ∧ w.heap.size ≤ g ∧ OR w' g t s c n f ∧ Grow w w'
def bcell (zs : List Int) (j : Nat) : Value := .int .u8 (zs.getD j 0)
section
variable {w w' : World} {G H F : Nat → Prop} {d g cap dl Dl dt Dt : Nat} {T : Tb} {a : Ar}
set_option maxHeartbeats 1000000 in
theorem bclone_any (A : Option Addr) (n cap B : Nat) (zs : List Int) (w : World) (h0 : 0 < n) (hn : n ≤ 100000) (h : Sl w B .u8 A n zs) :
    Calls Tryz.prog 80 #[.slice A n cap] w (CloneOf w 5 1 n (bcell zs)) := by
  obtain ⟨i0, hi, hz0, hz1, hz2⟩ := info_parts infoU8
  obtain ⟨b, off, rfl, hb, hc⟩ := h.at_ h0
  have q22 : ∀ (w : World) (a : Option Addr) (n c n' c' : Nat), (binOp .eql 22 (.slice a n c) (.slice none n' c')).run Tryz.prog w = .ok (.bool a.isNone) w := fun w a n c n' c' => Lib.run_eql_slice_nil w _ _ a n c n' c' Tryz.underlying22
  have hl := h.len
  have HC := Lib.hid hc
  have HL := Lib.hid hl
  clear hc hl h
  go_enter Tryz.func80, Tryz.ntmps80
  go_wp2_with (at_builtin; refine wpList_append_lies _ rfl _ _ 22 rfl w.heap.size 5 i0 (.int .u8 0) 1 1 Tryz.underlying22 hi hz0 hz1 hz2 rfl (by decide) _ _ _ rfl (World.ownsRow_made w #[] 0 (Nat.le_refl _) (Nat.zero_le _) rfl) ⟨b, off, none⟩ n cap (zs.map (Value.int .u8)) rfl ?qc1 ?qc2 ?qc3 h0 ?qc4 ?qc5 ?qc6 _ rfl ?_)
  case qc1 => simp [HL.out]
  case qc2 =>
    intro j u hj
    have hl := HL.out
    have hjn : j < n := by
      have := (List.getElem?_eq_some_iff.1 hj).1
      simp at this
      omega
    have e : (⟨b, off, none⟩ : Addr).add j = ⟨b, off + j, none⟩ := by unfold Addr.add; split <;> simp_all
    rw [e]
    refine Lib.cell?_alloc_some _ ?_
    rw [HC.out j hjn, ← hj]
    simp [List.getD, List.getElem?_eq_getElem (show j < zs.length by omega)]
  case qc3 => intro u hu; obtain ⟨x, _, rfl⟩ := List.mem_map.1 hu; rfl
  case qc4 => unfold maxLen; omega
  case qc5 => omega
  case qc6 => simp
  intro g c w1 hown hgrow hor hlt
  have hown' := Lib.hid hown
  have hgr' : Hid (Grow w w1) := ((Kept.refl _ w).alloc _).grown hgrow (by intro k hk; simp [Value.ownBlock] at hk; omega)
  clear hown hgrow hor hlt
  go_wp2
  go_ret
  have hz := HL.out
  have hown := hown'.out
  obtain ⟨h1, h2⟩ := OR.of_own (f := bcell zs) hown (fun i hi => by simp [bcell, List.getD, List.getElem?_eq_getElem (show i < zs.length by omega)])
  exact ⟨g, c, rfl, h2, h1, hgr'.out⟩
theorem fcell_one (F : Nat → Fr) (j : Nat) : (fcell F j).oneCell' = true := by
  unfold fcell fpart
  split
  · rfl
  · split
    · rfl
    · split
      · rfl
      · split <;> rfl
set_option maxHeartbeats 1000000 in
theorem fclone_any (g n cap c : Nat) (F : Nat → Fr) (w : World) (h0 : 0 < n) (hn : n ≤ 1000) (h : FR w g cap n F) :
    Calls Tryz.prog 108 #[.slice (some ⟨g, 0, none⟩) n c] w (CloneOf w 36 5 n (fcell F)) := by
  obtain ⟨i0, hi, hz0, hz1, hz2⟩ := info_parts infoFr
  have q22 : ∀ (w : World) (a : Option Addr) (n c n' c' : Nat), (binOp .eql 31 (.slice a n c) (.slice none n' c')).run Tryz.prog w = .ok (.bool a.isNone) w := fun w a n c n' c' => Lib.run_eql_slice_nil w _ _ a n c n' c' Tryz.underlying31
  have HC := Lib.hid h
  clear h
  go_enter Tryz.func108, Tryz.ntmps108
  go_wp2_with (at_builtin; refine wpList_append_lies _ rfl _ _ 31 rfl w.heap.size 36 i0 _ 5 40 Tryz.underlying31 hi hz0 hz1 hz2 rfl (by decide) _ _ _ rfl (World.ownsRow_made w #[] 0 (Nat.le_refl _) (Nat.zero_le _) rfl) ⟨g, 0, none⟩ n c ((List.range (n * 5)).map (fcell F)) rfl ?qc1 ?qc2 ?qc3 h0 ?qc4 ?qc5 ?qc6 _ rfl ?_)
  case qc1 => simp
  case qc2 =>
    intro j u hj
    have hjn : j < n * 5 := by
      have := (List.getElem?_eq_some_iff.1 hj).1
      simpa using this
    have e : (⟨g, 0, none⟩ : Addr).add j = ⟨g, j, none⟩ := by unfold Addr.add; split <;> simp_all
    rw [e]
    refine Lib.cell?_alloc_some _ ?_
    rw [OR.cell HC.out hjn, ← hj]
    simp [hjn]
  case qc3 => intro u hu; obtain ⟨x, _, rfl⟩ := List.mem_map.1 hu; exact fcell_one F x
  case qc4 => unfold maxLen; omega
  case qc5 => omega
  case qc6 => simp
  intro g1 c1 w1 hown hgrow hor hlt
  have hown' := Lib.hid hown
  have hgr' : Hid (Grow w w1) := ((Kept.refl _ w).alloc _).grown hgrow (by intro k hk; simp [Value.ownBlock] at hk; omega)
  clear hown hgrow hor hlt
  go_wp2
  go_ret
  have hown := hown'.out
  obtain ⟨h1, h2⟩ := OR.of_own (f := fcell F) hown (fun i hi => by simp [hi])
  exact ⟨g1, c1, rfl, h2, h1, hgr'.out⟩
/-! ### Frames -/
/-- All frames, the caller's own. -/
def FramesPost (a : Ar) (w : World) (e : Ending) (w' : World) : Prop :=
  ∃ v, e = .returned v ∧ OS w' (w.heap.size ≤ ·) v 36 5 a.n (fcell a.F) ∧ Grow w w'
theorem frames_any (h : ArAt w G d a) : Calls Tryz.prog 48 #[.pointer (some ⟨d, 0, none⟩)] w (FramesPost a w) := by
  rcases h.mem with h' | ⟨g, cap, dl, Dl, dt, Dt, T, hb⟩
  · have c0 := h'.h0
    have HZ := Lib.hid h'.zero
    have q22 : ∀ (w : World) (a : Option Addr) (n c n' c' : Nat), (binOp .eql 31 (.slice a n c) (.slice none n' c')).run Tryz.prog w = .ok (.bool a.isNone) w := fun w a n c n' c' => Lib.run_eql_slice_nil w _ _ a n c n' c' Tryz.underlying31
    have HC : Hid (∀ w, Calls Tryz.prog 108 #[.slice none 0 0] w fun e w' => e = .returned (.slice none 0 0) ∧ w = w') := fun w => by
      go_enter Tryz.func108, Tryz.ntmps108
      go_wp2
      go_ret
      exact ⟨rfl, rfl⟩
    clear h h' q22
    go_enter Tryz.func48, Tryz.ntmps48
    go_wp2_with (go_at_call 108; (with_reducible refine (HC.out _).mono ?_); rintro e w' ⟨rfl, rfl⟩)
    go_ret
    exact ⟨_, rfl, .inl ⟨rfl, HZ.out⟩, Kept.refl _ _⟩
  · have c0 := hb.h0
    have HC := Lib.hid (fclone_any g a.n cap cap a.F w hb.pos (by have := h.good.n; omega) hb.fr)
    clear h hb
    go_enter Tryz.func48, Tryz.ntmps48
    go_wp2_with (go_at_call 108; (with_reducible refine HC.out.mono ?_); rintro e w1 ⟨g1, c1, rfl, hb, ho, hg⟩; have HO := Lib.hid ho; have HB := Lib.hid hb; have HG := Lib.hid hg; clear hb ho hg)
    go_ret
    exact ⟨_, rfl, .inr ⟨g1, c1, rfl, HO.out, HB.out⟩, HG.out⟩
/-! ### Body -/
theorem acell_b (v pl pt : Value) (B : Nat → List Int) (f j : Nat) (hf : f < 32) (hj : j < 16) : acell v B pl pt (1 + f * 16 + j) = .int .u8 ((B f).getD j 0) := by
  unfold acell
  rw [if_neg (by omega), if_pos (by omega), show (1 + f * 16 + j - 1) / 16 = f by omega, show (1 + f * 16 + j - 1) % 16 = j by omega]
theorem body_sl {v pl pt : Value} (h : Row w d 515 (acell v a.B pl pt)) (hg : ArM.Good a) (f : Nat) (hf : f < 32) : Sl w w.heap.size .u8 (some ⟨d, 1 + f * 16, none⟩) 16 (a.B f) :=
  ⟨hg.b f, fun _ => ⟨d, 1 + f * 16, rfl, h.lt, fun j hj => by rw [h.cell (by omega), acell_b _ _ _ _ _ _ hf hj]⟩⟩
/-- The bytes of a frame, the caller's own; nothing of one that is not used. -/
def BodyPost (a : Ar) (k : Int) (w : World) (e : Ending) (w' : World) : Prop :=
  ∃ v, e = .returned v ∧ OS w' (w.heap.size ≤ ·) v 5 1 (if a.used k = true then 16 else 0) (bcell (a.B k.toNat)) ∧ Grow w w'
theorem body_any (h : ArAt w G d a) (k : Int) : Calls Tryz.prog 97 #[.pointer (some ⟨d, 0, none⟩), .int .i64 k] w (BodyPost a k w) := by
  cases hu : a.used k with
  | false =>
    have HU := Lib.hid (used_bad h k hu)
    have HE := Lib.hid hu
    clear h hu
    go_enter Tryz.func97, Tryz.ntmps97
    go_wp2_with (go_at_call 148; (with_reducible refine HU.out.mono ?_); rintro e w' ⟨rfl, rfl⟩)
    go_ret
    refine ⟨_, rfl, .inl ⟨rfl, ?_⟩, Kept.refl _ _⟩
    rw [HE.out]; rfl
  | true =>
    have HE := Lib.hid hu
    obtain ⟨f, rfl, hf, hs⟩ := used_iff.1 hu
    have hn32 := h.good.n
    obtain ⟨g, cap, dl, Dl, dt, Dt, T, hb⟩ := ArAt.big h (by omega)
    have HU := Lib.hid (used_good hb h.good.n f hf hs)
    have HC := Lib.hid (bclone_any (some ⟨d, 1 + f * 16, none⟩) 16 16 _ _ w (by omega) (by omega) (body_sl hb.hd h.good f (by omega)))
    have hfz : (f : Int) < 32 := by omega
    clear h hb hu hs
    go_enter Tryz.func97, Tryz.ntmps97
    go_wp2_with (first
      | (go_at_call 148; (with_reducible refine HU.out.mono ?_); rintro e w' ⟨rfl, rfl⟩)
      | (go_at_call 80; (with_reducible refine HC.out.mono ?_); rintro e w1 ⟨g1, c1, rfl, hb, ho, hg⟩; have HO := Lib.hid ho; have HB := Lib.hid hb; have HG := Lib.hid hg; clear hb ho hg))
    go_ret
    refine ⟨_, rfl, ?_, HG.out⟩
    rw [if_pos HE.out, Int.toNat_natCast]
    exact .inr ⟨g1, c1, rfl, HO.out, HB.out⟩
theorem body_good (h : ArAt w G d a) (k : Int) (hk : a.used k = true) : Calls Tryz.prog 97 #[.pointer (some ⟨d, 0, none⟩), .int .i64 k] w (CloneOf w 5 1 16 (bcell (a.B k.toNat))) := by
  refine (body_any h k).mono fun e w' ⟨v, he, ho, hg⟩ => ?_
  rw [if_pos hk] at ho
  obtain ⟨g1, c1, rfl, ho, hb⟩ := ho.form (by omega)
  exact ⟨g1, c1, he, hb, ho, hg⟩
/-! ### Set -/
theorem splice_get {b zs : List Int} {o j : Nat} (hb : b.length = 16) (ho : o + zs.length ≤ 16) (hj : j < 16) : (ArM.splice b o zs).getD j 0 = if o ≤ j ∧ j < o + zs.length then zs.getD (j - o) 0 else b.getD j 0 := by
  unfold ArM.splice
  simp only [List.getD_eq_getElem?_getD]
  by_cases e1 : j < o
  · rw [if_neg (by omega), List.getElem?_append_left (by rw [List.length_take]; omega), List.getElem?_take, if_pos e1]
  · rw [List.getElem?_append_right (by rw [List.length_take]; omega), List.length_take, show min o b.length = o by omega]
    by_cases e2 : j < o + zs.length
    · rw [if_pos ⟨by omega, e2⟩, List.getElem?_append_left (by omega)]
    · rw [if_neg (by omega), List.getElem?_append_right (by omega), List.getElem?_drop, show o + zs.length + (j - o - zs.length) = j by omega]
theorem acell_set (v pl pt : Value) {B : Nat → List Int} {f o : Nat} {zs : List Int} (hf : f < 32) (hb : ∀ x, (B x).length = 16) (ho : o + zs.length ≤ 16) (i : Nat) (hi : i < 515) : laid (acell v B pl pt) (1 + f * 16 + o) zs.length (bcell zs) i = acell v (upd B f (ArM.splice (B f) o zs)) pl pt i := by
  by_cases h0 : i = 0
  · subst h0
    unfold laid
    rw [if_neg (by omega)]
    rfl
  · by_cases h1 : i ≤ 512
    · obtain ⟨p, j, hp, hj, rfl⟩ : ∃ p j, p < 32 ∧ j < 16 ∧ i = 1 + p * 16 + j := ⟨(i - 1) / 16, (i - 1) % 16, by omega, by omega, by omega⟩
      rw [acell_b _ _ _ _ _ _ hp hj]
      unfold laid
      rw [acell_b _ _ _ _ _ _ hp hj]
      by_cases e : p = f
      · subst e
        rw [upd_same, splice_get (hb p) ho hj]
        by_cases e2 : o ≤ j ∧ j < o + zs.length
        · rw [if_pos e2, if_pos (by omega)]
          unfold bcell
          rw [show 1 + p * 16 + j - (1 + p * 16 + o) = j - o by omega]
        · rw [if_neg e2, if_neg (by omega)]
      · rw [upd_other _ _ e, if_neg (by omega)]
    · unfold laid acell
      rw [if_neg (by omega), if_neg h0, if_neg h1, if_neg h0, if_neg h1]
theorem set_bad (h : ArAt w G d a) (k off : Int) (v : Value) (hk : a.used k = false) : Calls Tryz.prog 98 #[.pointer (some ⟨d, 0, none⟩), .int .i64 k, .int .i64 off, v] w fun e w' => e = .returned (.int .i64 2) ∧ w = w' := by
  have HU := Lib.hid (used_bad h k hk)
  clear h hk
  go_enter Tryz.func98, Tryz.ntmps98
  go_wp2_with (go_at_call 148; (with_reducible refine HU.out.mono ?_); rintro e w' ⟨rfl, rfl⟩)
  go_ret
  exact ⟨rfl, rfl⟩
/-- The copy into a body. -/
theorem copy_body {v pl pt : Value} (h : Row w d 515 (acell v a.B pl pt)) (hb : ∀ x, (a.B x).length = 16) (f : Nat) (hf : f < 32) (o n c B : Nat) (A : Option Addr) (zs : List Int) (hs : Sl w B .u8 A n zs) (ho : o + n ≤ 16) :
    ∃ w', (∀ ty, (Builtin.copy_ #[22, 22] ty #[.slice (some (if 16 = o then ⟨d, 1 + f * 16, none⟩ else ⟨d, 1 + f * 16 + o, none⟩)) (16 - o) (16 - o), .slice A n c]).run Tryz.prog w = .ok (.int .i64 (n : Int)) w') ∧ Row w' d 515 (acell v (upd a.B f (ArM.splice (a.B f) o zs)) pl pt) ∧ Kept (· = d) w w' := by
  have hl := hs.len
  rcases Nat.eq_zero_or_pos n with h0 | h0
  · refine ⟨w, fun ty => ?_, h.congr fun i hi => ?_, Kept.refl _ _⟩
    · subst h0
      exact run_copy_none w 22 22 ty 5 _ A _ _ 0 c Tryz.underlying22 sizeU8 (by simp)
    · rw [← acell_set v pl pt hf hb (by omega) i hi]
      unfold laid
      rw [if_neg (by omega)]
  · obtain ⟨b, off, rfl, _, hc⟩ := hs.at_ h0
    rw [if_neg (by omega)]
    obtain ⟨w', h1, h2, h3⟩ := copy_row (P := Tryz.prog) (w := w) 22 22 5 Tryz.underlying22 sizeU8 h (1 + f * 16 + o) (16 - o) ⟨b, off, none⟩ n (m := n) (u := bcell zs) (by simp only [Nat.min_def]; split <;> omega) (by omega) (fun j hj => by rw [add_off, hc j hj]; rfl) (fun _ _ => rfl)
    refine ⟨w', fun ty => h1 ty _ _, h2.congr fun i hi => ?_, h3⟩
    rw [← hl]
    exact acell_set v pl pt hf hb (by omega) i hi
theorem slice_body (d f o : Nat) (ho : o ≤ 16) (w : World) : (Instr.sliceAt 122 (.pointer (some ⟨d, 1 + f * 16, none⟩)) (some (.int .i64 (o : Int))) none none).run Tryz.prog w = .ok (.slice (some (if 16 = o then ⟨d, 1 + f * 16, none⟩ else ⟨d, 1 + f * 16 + o, none⟩)) (16 - o) (16 - o)) w := by
  have hal : Tryz.prog.arrayLen 122 = 16 := by kernel_rfl
  have hel : Tryz.prog.elem 122 = 5 := by kernel_rfl
  obtain ⟨i0, hi, hz0, hz1, hz2⟩ := info_parts infoU8
  have := run_sliceAt_array_l (P := Tryz.prog) w 122 ⟨d, 1 + f * 16, none⟩ (by rw [hal, hel]; exact Tryz.underlying122) .i64 (o : Int) (by omega) (by rw [hal]; omega)
  rw [this, hal, hel, Int.toNat_natCast]
  simp [slicedAt, sizeOf, typeInfo, hi, hz1, add_off]
set_option maxHeartbeats 1000000 in
theorem set_any (h : ArAt w G d a) (k off : Int) (A : Option Addr) (n c B : Nat) (zs : List Int) (hsl : Sl w B .u8 A n zs) (hn : n ≤ 1000000) : Calls Tryz.prog 98 #[.pointer (some ⟨d, 0, none⟩), .int .i64 k, .int .i64 off, .slice A n c] w (APost G d w (.int .i64 (a.setC k off zs)) (a.set k off zs)) := by
  cases hu : a.used k with
  | false =>
    have e1 : a.setC k off zs = 2 := by unfold Ar.setC; rw [hu]; rfl
    have e2 : a.set k off zs = a := by unfold Ar.set; rw [e1]; rfl
    rw [e1, e2]
    exact (set_bad h k off _ hu).mono fun e w' ⟨h1, h2⟩ => ⟨h1, h2 ▸ h, h2 ▸ Kept.refl _ _⟩
  | true =>
    obtain ⟨f, rfl, hf, hs⟩ := used_iff.1 hu
    have HG := Lib.hid (h.good.set (f : Int) off zs)
    have hn32 := h.good.n
    obtain ⟨g, cap, dl, Dl, dt, Dt, T, hb⟩ := ArAt.big h (by omega)
    have HU := Lib.hid (used_good hb h.good.n f hf hs)
    have hl := hsl.len
    have hnz0 : (n : Int) ≤ 1000000 := by omega
    by_cases hin : 0 ≤ off ∧ off + (zs.length : Int) ≤ 16
    · obtain ⟨o, rfl⟩ := Int.eq_ofNat_of_zero_le hin.1
      have ho : o + n ≤ 16 := by omega
      have e1 : a.setC (f : Int) (o : Int) zs = 0 := by unfold Ar.setC; rw [if_pos hu, if_pos hin]
      have e2 : a.set (f : Int) (o : Int) zs = ⟨a.n, upd a.F f ⟨(a.F f).st, (a.F f).pg, (a.F f).pn, true⟩, upd a.B f (ArM.splice (a.B f) o zs), a.Q⟩ := by unfold Ar.set; rw [if_pos e1, Int.toNat_natCast, Int.toNat_natCast]
      rw [e2] at HG
      rw [e1, e2]
      obtain ⟨w1, hcp, hr, hk⟩ := copy_body (pl := .pointer (some ⟨dl, 0, none⟩)) (pt := .pointer (some ⟨dt, 0, none⟩)) hb.hd h.good.b f (by omega) o n c B A zs hsl ho
      have hsa := slice_body d f o (by omega)
      have H1 := Lib.hid (hb.core.hdr hr hk)
      have HK1 := Lib.hid (hb.core.kd hk)
      have HT : Hid (Tabs T ⟨a.n, upd a.F f ⟨(a.F f).st, (a.F f).pg, (a.F f).pn, true⟩, upd a.B f (ArM.splice (a.B f) o zs), a.Q⟩) := hb.ts.turn hf Iff.rfl fun _ => rfl
      have HP := Lib.hid hb.pos
      have c0 := hb.h0
      have hfz : (f : Int) < (a.n : Int) := by omega
      have hnz : (a.n : Int) ≤ 32 := by omega
      have hoz : (o : Int) + (n : Int) ≤ 16 := by omega
      clear h hb hu hs e1 e2 hr hk hin hsl hl ho
      generalize (if 16 = o then (⟨d, 1 + f * 16, none⟩ : Addr) else ⟨d, 1 + f * 16 + o, none⟩) = X at *
      go_enter Tryz.func98, Tryz.ntmps98
      go_upto_region 7 with (go_at_call 148; (with_reducible refine HU.out.mono ?_); rintro e w' ⟨rfl, rfl⟩)
      clear hcp hsa c0
      have c0 := H1.out.h0
      have f0 := FR.c4 H1.out.fr hf
      have fz := H1.out.fr.frozen
      dsimp only at c0 f0
      go_wp2
      go_ret
      have hk := kept_set w1 g (f * 5 + 4) (.bool true)
      exact ⟨rfl, ⟨HG.out, .inr ⟨_, _, _, _, _, _, _, (H1.out.frm (FR.set4 H1.out.fr f true) hk).big HT.out HP.out⟩⟩, HK1.out.trans (H1.out.kg hk)⟩
    · have e1 : a.setC (f : Int) off zs = 6 := by unfold Ar.setC; rw [if_pos hu, if_neg hin]
      have e2 : a.set (f : Int) off zs = a := by unfold Ar.set; rw [e1]; rfl
      rw [e1, e2]
      have HA := Lib.hid h
      have hbad : (decide (off < 0) || decide (16 - (n : Int) < off)) = true := by
        simp only [Bool.or_eq_true, decide_eq_true_eq]
        omega
      clear h hb hu hs e1 e2 hsl HG
      by_cases h0 : off < 0
      · clear hbad hin
        go_enter Tryz.func98, Tryz.ntmps98
        go_wp2_with (go_at_call 148; (with_reducible refine HU.out.mono ?_); rintro e w' ⟨rfl, rfl⟩)
        go_ret
        exact ⟨rfl, HA.out, Kept.refl _ _⟩
      · have h1 : 16 - (n : Int) < off := by omega
        have h0' : 0 ≤ off := by omega
        clear hbad hin h0
        go_enter Tryz.func98, Tryz.ntmps98
        go_wp2_with (go_at_call 148; (with_reducible refine HU.out.mono ?_); rintro e w' ⟨rfl, rfl⟩)
        go_ret
        exact ⟨rfl, HA.out, Kept.refl _ _⟩
end
end Go.Proofs.YtbnkpnllgoghnaaGreat.ArB

namespace Go.Proofs.YtbnkpnllgoghnaaGreat.SumC
open Go.ChangeShapes Go.WideShapes Go.ChangeAt Go.RowKit
open Go.Proofs.YtbnkpnllgoghnaaGreat.SumM Go.Proofs.YtbnkpnllgoghnaaGreat.Mem
theorem u32_and1 (m : Nat) (h : m < 4294967296) : bits .and .u32 (m : Int) 1 = ((m % 2 : Nat) : Int) := by
  have := u32_and_nat m 1 h (by omega)
  rw [Nat.and_one_is_mod] at this
  exact this
theorem u32_fold (m : Nat) (h : m < 4294967296) : bits .xor .u32 ((m : Int) / 2) 2748603157 = ((m / 2 ^^^ 2748603157 : Nat) : Int) := by
  have := u32_xor_nat (m / 2) 2748603157 (by omega) (by omega)
  exact this
theorem turn_any (s c : Int) (hs : U32 s) (hc : U8 c) (w : World) :
    Calls Tryz.prog 192 #[.int .u32 s, .int .u8 c] w fun e w' => e = .returned (.int .u32 (turnI s c)) ∧ w = w' := by
  obtain ⟨h1, h2⟩ := hs
  obtain ⟨h3, h4⟩ := hc
  have hN : s.toNat ^^^ c.toNat < 4294967296 := xor_lt (by omega) (by omega)
  have HX := Lib.hid (u32_xor s c h1 h2 h3 (by omega))
  have HT : Hid (turnI s c = ((steps 8 (s.toNat ^^^ c.toNat) : Nat) : Int)) := rfl
  generalize s.toNat ^^^ c.toNat = N at hN HX HT
  generalize turnI s c = R at HT
  go_enter Tryz.func192, Tryz.ntmps192
  go_wp2
  go_step3
  go_wp2
  go_step3
  go_wp2
  go_loopg [0, 5] 8 (fun g v i wr => g ≤ 8 ∧ v = .int .u32 ((steps (8 - g) N : Nat) : Int) ∧ i = .int .i64 (g : Int) ∧ w = wr)
  case atStart => exact ⟨Nat.le_refl _, by rw [HX.out]; rfl, rfl, rfl⟩
  case round =>
    obtain ⟨hg, rfl, rfl, rfl⟩ := hrel
    have hm := steps_lt (8 - gk) hN
    by_cases h0 : gk = 0
    · subst h0
      go_wp2
      rw [Exit.noGoto_ret]
      go_ret
      exact ⟨by rw [HT.out]; rfl, rfl⟩
    · have hg0 : 0 < gk := by omega
      have HS : Hid (steps (8 - (gk - 1)) N = SumM.step (steps (8 - gk) N)) := by
        have e : 8 - (gk - 1) = (8 - gk) + 1 := by omega
        rw [e]; rfl
      generalize steps (8 - gk) N = m at hm HS
      have HG : Hid (((gk : Int) - 1) = ((gk - 1 : Nat) : Int)) := by show _ = _; omega
      rcases Nat.mod_two_eq_zero_or_one m with e | e
      · have ha : bits .and .u32 (m : Int) 1 = 0 := by rw [u32_and1 m hm, e]; rfl
        have HE := Lib.hid (step_even e)
        clear e
        go_wp2
        go_roundg (gk - 1)
        case measure => omega
        case rel => exact ⟨by omega, by rw [HS.out, HE.out]; rfl, by rw [HG.out], rfl⟩
      · have ha : bits .and .u32 (m : Int) 1 = 1 := by rw [u32_and1 m hm, e]; rfl
        have HE := Lib.hid (step_odd e)
        have HF := Lib.hid (u32_fold m hm)
        clear e
        go_wp2
        go_roundg (gk - 1)
        case measure => omega
        case rel => exact ⟨by omega, by rw [HS.out, HE.out, HF.out], by rw [HG.out], rfl⟩
theorem more_any (s : Int) (A : Option Addr) (n cap B : Nat) (zs : List Int) (w : World) (hs : U32 s) (hz : Bytes zs) (hn : n ≤ maxLen) (h : Sl w B .u8 A n zs) :
    Calls Tryz.prog 173 #[.int .u32 s, .slice A n cap] w fun e w' => e = .returned (.int .u32 (moreI s zs)) ∧ w = w' := by
  unfold maxLen at hn
  have hl := h.len
  go_enter Tryz.func173, Tryz.ntmps173
  go_wp2
  go_loopg [0, 9] n (fun g v i wr => ∃ j : Nat, j + g = n ∧ v = .int .u32 (moreI s (zs.take j)) ∧ i = .int .i64 (j : Int) ∧ w = wr)
  case atStart => exact ⟨0, by omega, by simp [moreI_nil], rfl, rfl⟩
  case round =>
    obtain ⟨j, hg, rfl, rfl, rfl⟩ := hrel
    have hb1 : Bytes (zs.take j) := fun d hd => hz d (List.mem_of_mem_take hd)
    have hm := moreI_u32 hs hb1
    by_cases h0 : j < n
    · obtain ⟨b, off, rfl, hb, hcell⟩ := h.at_ (by omega)
      have hc := hcell j h0
      have HS := Lib.hid (moreI_snoc (l := zs) s j (by omega))
      have hd : U8 (zs.getD j 0) := by
        rw [List.getD_eq_getElem?_getD, List.getElem?_eq_getElem (by omega)]
        exact hz _ (List.getElem_mem _)
      have HG := Lib.hid hg
      have HL := Lib.hid hl
      have HC := Lib.hid hcell
      clear hg hl hcell
      generalize zs.getD j 0 = d at hc hd HS
      generalize moreI s (zs.take j) = m at hm HS
      go_wp2_with (go_at_call 192; (with_reducible refine (turn_any _ _ hm hd _).mono ?_); rintro e w' ⟨rfl, rfl⟩)
      go_roundg (gk - 1)
      case measure => have := HG.out; omega
      case rel => exact ⟨j + 1, by have := HG.out; omega, by rw [HS.out], by go_num, rfl⟩
    · have hz1 : zs.take j = zs := List.take_of_length_le (by omega)
      rw [hz1] at hm ⊢
      go_wp2
      go_ret
      exact ⟨rfl, rfl⟩
/-- The numbers of a string's bytes. -/
def strNums (s : ByteArray) : List Int := s.data.toList.map fun b => (b.toNat : Int)
theorem strNums_ofNums {zs : List Int} (h : Bytes zs) : strNums (strOfNums zs) = zs := by
  unfold strNums
  rw [strOfNums_data, List.map_map]
  conv => rhs; rw [← List.map_id zs]
  refine List.map_congr_left fun c hc => ?_
  obtain ⟨h1, h2⟩ := h c hc
  simp
  omega
theorem u32_not (m : Int) (h : U32 m) : bits .xor .u32 4294967295 m = 4294967295 - m := by
  obtain ⟨h1, h2⟩ := h
  obtain ⟨a, rfl⟩ := Int.eq_ofNat_of_zero_le h1
  have e1 : BitVec.ofInt 32 4294967295 = BitVec.allOnes 32 := by decide
  have hx : 4294967295 - a < 4294967296 := by omega
  show IntKind.u32.wrap ((BitVec.ofInt 32 4294967295 ^^^ BitVec.ofInt 32 (a : Int)).toNat : Int) = _
  rw [e1, BitVec.allOnes_xor, BitVec.toNat_not, ofInt_u32 a (by omega), IntKind.wrap_u32']
  omega
theorem of_any (A : Option Addr) (n cap B : Nat) (zs : List Int) (w : World) (hz : Bytes zs) (hn : n ≤ maxLen) (h : Sl w B .u8 A n zs) :
    Calls Tryz.prog 137 #[.slice A n cap] w fun e w' => e = .returned (.int .u32 (ofI zs)) ∧ w = w' := by
  have hm := moreI_u32 (s := 4294967295) (l := zs) ⟨by omega, by omega⟩ hz
  have HN := Lib.hid (u32_not _ hm)
  have HE : Hid (ofI zs = 4294967295 - moreI 4294967295 zs) := rfl
  have HC := fun w1 (h1 : Sl w1 B .u8 A n zs) => more_any 4294967295 A n cap B zs w1 ⟨by omega, by omega⟩ hz hn h1
  generalize moreI 4294967295 zs = m at hm HN HE HC
  go_enter Tryz.func137, Tryz.ntmps137
  go_wp2_with (go_at_call 173; (with_reducible refine (HC _ h).mono ?_); rintro e w' ⟨rfl, rfl⟩)
  go_ret
  exact ⟨by rw [HE.out, ← HN.out]; rfl, rfl⟩
end Go.Proofs.YtbnkpnllgoghnaaGreat.SumC
