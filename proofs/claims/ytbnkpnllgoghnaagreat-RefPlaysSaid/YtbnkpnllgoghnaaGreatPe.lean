import Derived.Test.YtbnkpnllgoghnaaGreatPd
import Derived.ArgAppend
import Derived.Lib.AppendZerosOnto
set_option linter.unusedVariables false
namespace Go.Proofs.YtbnkpnllgoghnaaGreat
open Go.Lib (hid)
namespace RfX
open MdM (Md MdOp Re)
open ArM (Ar Fr fFree fUsed)
open TabM (upd upd_same upd_other)
open Dev (Dv)
open RfM RfI RfR RfF
def RunP (p : Pl) (c : Int) (o : MdOp) (y : Re × Pl) : Prop :=
 (∃ p',y = ((p.X.run c o).1,p') ∧ Inv p' ∧ p'.X = (p.X.run c o).2 ∧ p'.A.n = p.A.n ∧ (p.D.bad = 0 → p'.D.bad = 0) ∧
   ((p.X.run c o).1.c = 0 → (o.k = 1 → ¬ Full p) ∧ (o.k = 2 → (∃ g,g < p.A.n ∧ (p.A.F g).st = 1 ∧ (p.A.F g).pg = o.p) ∨ ¬ Full p)))
 ∨ (y = (MdM.err 8,p) ∧ Full p ∧ (p.X.run c o).1.c = 0 ∧ (o.k = 1 ∨ (o.k = 2 ∧ ∀ g,g < p.A.n → (p.A.F g).st = 1 → (p.A.F g).pg ≠ o.p)))
 ∨ (∃ p',y = (MdM.err 9,p') ∧ Inv p' ∧ p'.X = p.X ∧ p'.A.n = p.A.n ∧ p.D.bad ≠ 0)
section
variable {p : Pl} {c : Int} {o : MdOp} {f q k j : Nat} {h : Option Nat}
theorem pins_pos {a : Md} (hk : k < a.N) (hj : j < 6) (e : a.H k j = (q : Int)) : 0 < a.pins (q : Int) := by
 have := pins_putH (a := a) (P := (q : Int)) (x := -1) hk hj (by omega)
 rw [if_pos e,if_neg (by omega)] at this
 omega
theorem pin_used (i : InvE p h) (hf : f < p.A.n) (hs : (p.A.F f).st = 1) (hlt : (p.A.F f).pn < 1000) : p.A.pin (f : Int) = ⟨p.A.n,upd p.A.F f ⟨1,(p.A.F f).pg,(p.A.F f).pn + 1,(p.A.F f).di⟩,p.A.B,p.A.Q⟩ := by
 have hc : p.A.pinC (f : Int) = 0 := by
  unfold Ar.pinC
  rw [if_pos (used_nat i hf hs),Int.toNat_natCast,if_neg (show ¬ 1000 ≤ (p.A.F f).pn by omega)]
 unfold Ar.pin
 rw [if_pos hc,Int.toNat_natCast]
 unfold Ar.turn
 rw [hs]
theorem unpin_used (i : InvE p h) (hf : f < p.A.n) (hs : (p.A.F f).st = 1) (h0 : (p.A.F f).pn ≠ 0) : p.A.unpin (f : Int) = ⟨p.A.n,upd p.A.F f ⟨1,(p.A.F f).pg,(p.A.F f).pn - 1,(p.A.F f).di⟩,p.A.B,p.A.Q⟩ := by
 have hc : p.A.unpinC (f : Int) = 0 := by
  unfold Ar.unpinC
  rw [if_pos (used_nat i hf hs),Int.toNat_natCast,if_neg h0]
 unfold Ar.unpin
 rw [if_pos hc,Int.toNat_natCast]
 unfold Ar.turn
 rw [hs]
theorem mark_used (i : InvE p h) (hf : f < p.A.n) (hs : (p.A.F f).st = 1) (d : Bool) : p.A.mark (f : Int) d = ⟨p.A.n,upd p.A.F f ⟨1,(p.A.F f).pg,(p.A.F f).pn,d⟩,p.A.B,p.A.Q⟩ := by
 unfold Ar.mark
 rw [if_pos (used_nat i hf hs),Int.toNat_natCast]
 unfold Ar.turn
 rw [hs]
theorem pinned {X' : Md} (i : InvE p h) (hf : f < p.A.n) (hs : (p.A.F f).st = 1) (hp : (p.A.F f).pg = (q : Int)) (gX : MdM.Good X') (hn : X'.n = p.X.n) (hT : ∀ r,r ≠ q → X'.T r = p.X.T r) (hB : ∀ r,r ≠ q → X'.B r = p.X.B r) (hP : ∀ r : Nat,r ≠ q → X'.pins (r : Int) = p.X.pins (r : Int))
  (hh : ∀ r,r ≠ q → h ≠ some r) (o1 : X'.T q = true) (o2 : (p.A.F f).pn + 1 = (X'.pins (q : Int) : Int)) (o3 : p.A.B f = X'.B q) (o4 : (p.A.F f).di = false → says p.D q (X'.B q)) : Inv ⟨X',p.D,p.A.pin (f : Int),p.L⟩ := by
 have hle := pins_le X' gX (q : Int)
 have h0 := (i.ga.use f hf hs).2.2.1
 rw [pin_used i hf hs (by omega)]
 have key := i.step (v := ⟨1,(p.A.F f).pg,(p.A.F f).pn + 1,(p.A.F f).di⟩) (b := p.A.B f) (X' := X') (D' := p.D) (L' := p.L) (h' := none) hf hs hp rfl hp ⟨show (0 : Int) ≤ (p.A.F f).pn + 1 by omega,show (p.A.F f).pn + 1 ≤ (1000 : Int) by omega⟩ (i.ga.b f) gX hn hT hB hP rfl i.dn (fun _ _ => rfl) i.nd (fun _ => Iff.rfl) (fun r hr _ => hh r hr) (fun _ => ⟨o1,o2,o3,o4⟩)
 rw [upd_id] at key
 exact key
theorem run_err (hc : (p.X.run c o).1.c ≠ 0) (i : Inv p) (hX : (p.X.run c o).2 = p.X) : RunP p c o (p.run c o) := by
 unfold Pl.run
 rw [if_pos hc]
 exact .inl ⟨p,rfl,i,hX.symm,rfl,id,fun h => absurd h hc⟩
theorem run_ok (hc : (p.X.run c o).1.c = 0) : p.run c o = Pl.fin (p.X.run c o).1 (p.X.run c o).2 (p.act c o (p.X.run c o).1) := by
 unfold Pl.run
 rw [if_neg (fun e => e hc)]
theorem fin_bad {r : Re} {y : Md} {x : (Int × Int) × Pl} (h : x.1.2 ≠ 0) : Pl.fin r y x = (MdM.err x.1.2,x.2) := if_pos h
theorem fin_ok {r : Re} {y : Md} {x : (Int × Int) × Pl} (h : x.1.2 = 0) : Pl.fin r y x = (r,⟨y,x.2.D,if 0 ≤ x.1.1 then x.2.A.pin x.1.1 else x.2.A,x.2.L⟩) := if_neg fun e => e h
theorem new_way (i : Inv p) (hk : k < p.X.N) (ho : o.k = 1) (hr : p.X.run (k : Int) o = p.X.new k) : RunP p (k : Int) o (p.run (k : Int) o) := by
 rcases HdM.hnd_cases (p.X.H k) 6 with ⟨e,_⟩ | ⟨j,hj,e,hH,_⟩
 ·have e : p.X.free k = -1 := e
  have hn : p.X.new k = (MdM.err 4,p.X) := by unfold Md.new;rw [if_pos e]
  exact run_err (by rw [hr,hn];exact (by decide : (4 : Int) ≠ 0)) i (by rw [hr,hn])
 ·have e : p.X.free k = (j : Int) := e
  by_cases hg : p.X.gap = p.X.n
  ·have hn : p.X.new k = (MdM.err 3,p.X) := by unfold Md.new;rw [if_neg (by rw [e];omega),if_pos hg]
   exact run_err (by rw [hr,hn];exact (by decide : (3 : Int) ≠ 0)) i (by rw [hr,hn])
  ·have hlt : p.X.gap < p.X.n := by have := HdM.lst_le (fun i => if p.X.T i then (0 : Int) else -1) p.X.n;unfold Md.gap at hg ⊢;omega
   have hTq : p.X.T p.X.gap = false := by
    have := HdM.lst_at (fun i => if p.X.T i then (0 : Int) else -1) p.X.n hlt
    change (if p.X.T p.X.gap then (0 : Int) else -1) = -1 at this
    cases e2 : p.X.T p.X.gap with
    | false => rfl
    | true => rw [e2] at this;exact absurd this (by decide)
   have hn : p.X.new k = (⟨0,p.X.gap,p.X.free k,[]⟩,(p.X.putT p.X.gap true).putH k j p.X.gap) := by
    unfold Md.new
    rw [if_neg (by rw [e];omega),if_neg hg,e,Int.toNat_natCast]
   generalize p.X.gap = q at *
   have hno : ∀ x,x < p.A.n → (p.A.F x).st = 1 → (p.A.F x).pg ≠ (q : Int) := fun x hx sx px => by
    have := (i.use x q hx sx px (by simp)).1
    rw [hTq] at this
    cases this
   have hc0 : (p.X.run (k : Int) o).1.c = 0 := by rw [hr,hn]
   have hact : p.act (k : Int) o (p.X.run (k : Int) o).1 = if (p.room (q : Int)).1.2 = 0 then ((p.room (q : Int)).1,⟨(p.room (q : Int)).2.X,(p.room (q : Int)).2.D,(p.room (q : Int)).2.A.mark (p.room (q : Int)).1.1 true,(p.room (q : Int)).2.L⟩) else p.room (q : Int) := by
    unfold Pl.act
    rw [if_pos ho,hr,hn]
   rw [run_ok hc0,hact]
   rcases room_spec i hlt hno with ⟨f,p1,e1,g1,i1,c1,hf,hF,hB,hnf⟩ | ⟨e1,hfull⟩ | ⟨p1,e1,g1,i1,hb,hnf⟩
   ·rw [e1]
    dsimp only
    rw [if_pos rfl,fin_ok rfl]
    dsimp only
    rw [if_pos (by omega)]
    have hs1 : (p1.A.F f).st = 1 := by rw [hF];rfl
    have hp1 : (p1.A.F f).pg = (q : Int) := by rw [hF];rfl
    have hpn1 : (p1.A.F f).pn = 0 := by rw [hF];rfl
    refine .inl ⟨_,rfl,?_,by rw [hr,hn],?_,g1.bad,fun _ => ⟨fun _ => hnf,fun e2 => absurd (ho.symm.trans e2) (by decide)⟩⟩
    ·have i2 : InvE ⟨p1.X,p1.D,p1.A.mark (f : Int) true,p1.L⟩ (some q) := by
      rw [mark_used i1 hf hs1]
      have key := i1.step (v := ⟨1,(p1.A.F f).pg,(p1.A.F f).pn,true⟩) (b := p1.A.B f) (X' := p1.X) (D' := p1.D) (L' := p1.L) (h' := some q) hf hs1 hp1 rfl hp1 ⟨by show (0 : Int) ≤ (p1.A.F f).pn;omega,by show (p1.A.F f).pn ≤ (1000 : Int);omega⟩ (i1.ga.b f) i1.gx rfl (fun _ _ => rfl) (fun _ _ => rfl) (fun _ _ => rfl) rfl i1.dn (fun _ _ => rfl) i1.nd (fun _ => Iff.rfl) (fun _ _ x => x) (fun x => absurd rfl x)
      rw [upd_id] at key
      exact key
     have hmk := mark_used i1 hf hs1 true
     have hFm : (p1.A.mark (f : Int) true).F f = ⟨1,(q : Int),0,true⟩ := by rw [hmk];show upd _ _ _ f = _;rw [upd_same,hp1,hpn1]
     have gX' : MdM.Good ((p.X.putT q true).putH k j q) := MdM.Good.putH (MdM.Good.putT i.gx q true (.inl rfl)) k j (.inr ⟨q,rfl,hlt,MdM.upd_same _ _ _⟩)
     have hP0 := pins_out i hlt hno
     have hPq : ((p.X.putT q true).putH k j q).pins (q : Int) = 1 := by
      have := pins_putH (a := p.X.putT q true) (P := (q : Int)) (x := (q : Int)) (c := k) (j := j) hk hj (by omega)
      rw [pins_putT,hP0,if_neg (show ¬ (p.X.putT q true).H k j = (q : Int) by show ¬ p.X.H k j = (q : Int);rw [hH];omega),if_pos rfl] at this
      omega
     have hPr : ∀ r : Nat,r ≠ q → ((p.X.putT q true).putH k j q).pins (r : Int) = p.X.pins (r : Int) := fun r hr => by
      have := pins_putH (a := p.X.putT q true) (P := (r : Int)) (x := (q : Int)) (c := k) (j := j) hk hj (by omega)
      rw [pins_putT,if_neg (show ¬ (p.X.putT q true).H k j = (r : Int) by show ¬ p.X.H k j = (r : Int);rw [hH];omega),if_neg (by omega)] at this
      omega
     rw [hr,hn]
     refine pinned (p := ⟨p1.X,p1.D,p1.A.mark (f : Int) true,p1.L⟩) (q := q) i2 (by rw [hmk];exact hf) (by rw [hFm]) (by rw [hFm]) gX' (by rw [g1.X];rfl) (fun r hr => ?_) (fun r hr => ?_) (fun r hr => by rw [g1.X];exact hPr r hr) (fun r hr e => hr (by injection e with e;exact e.symm)) ?_ ?_ ?_ ?_
     ·rw [g1.X];exact MdM.upd_other _ _ hr
     ·rw [g1.X];exact MdM.upd_other _ _ hr
     ·exact MdM.upd_same _ _ _
     ·rw [hFm,hPq];rfl
     ·show (p1.A.mark (f : Int) true).B f = MdM.upd p.X.B q MdM.zeros q
      rw [MdM.upd_same,hmk,hB]
     ·rw [hFm];intro h;cases h
    ·show ((p1.A.mark (f : Int) true).pin (f : Int)).n = _
     rw [← g1.n]
     have hmk := mark_used i1 hf hs1 true
     rw [hmk]
     unfold Ar.pin
     split <;> rfl
   ·rw [e1]
    dsimp only
    rw [if_neg (by decide),fin_bad (by show (8 : Int) ≠ 0;decide)]
    exact .inr (.inl ⟨rfl,hfull,hc0,.inl ho⟩)
   ·rw [e1]
    dsimp only
    rw [if_neg (by decide),fin_bad (by show (9 : Int) ≠ 0;decide)]
    exact .inr (.inr ⟨p1,rfl,i1,g1.X,g1.n,by omega⟩)
theorem pin_n (a : Ar) (x : Int) : (a.pin x).n = a.n := by
 unfold Ar.pin
 split <;> rfl
theorem fetch_way (i : Inv p) (hk : k < p.X.N) (ho : o.k = 2) (hr : p.X.run (k : Int) o = p.X.onPage o.p (p.X.fetch k)) : RunP p (k : Int) o (p.run (k : Int) o) := by
 by_cases hp : 0 ≤ o.p ∧ o.p < (p.X.n : Int)
 ·obtain ⟨q,hq⟩ := Int.eq_ofNat_of_zero_le hp.1
  have hqn : q < p.X.n := by omega
  have e1 : p.X.onPage o.p (p.X.fetch k) = if p.X.T q = false then (MdM.err 2,p.X) else p.X.fetch k q := by
   unfold Md.onPage
   rw [if_neg (fun h => h hp),hq,Int.toNat_natCast]
  cases hT : p.X.T q with
  | false =>
   rw [hT,if_pos rfl] at e1
   exact run_err (by rw [hr,e1];exact (by decide : (2 : Int) ≠ 0)) i (by rw [hr,e1])
  | true =>
   rw [hT,if_neg (by decide)] at e1
   rcases HdM.hnd_cases (p.X.H k) 6 with ⟨e,_⟩ | ⟨j,hj,e,hH,_⟩
   ·have e : p.X.free k = -1 := e
    have hn : p.X.fetch k q = (MdM.err 4,p.X) := by unfold Md.fetch;rw [if_pos e]
    exact run_err (by rw [hr,e1,hn];exact (by decide : (4 : Int) ≠ 0)) i (by rw [hr,e1,hn])
   ·have e : p.X.free k = (j : Int) := e
    have hn : p.X.fetch k q = (⟨0,q,p.X.free k,[]⟩,p.X.putH k j q) := by
     unfold Md.fetch
     rw [if_neg (by rw [e];omega),e,Int.toNat_natCast]
    have hc0 : (p.X.run (k : Int) o).1.c = 0 := by rw [hr,e1,hn]
    have hact : p.act (k : Int) o (p.X.run (k : Int) o).1 = p.fetch (q : Int) := by
     unfold Pl.act
     rw [if_neg (by omega),if_pos ho,hq]
    rw [run_ok hc0,hact]
    rcases fetch_spec i hqn hT with ⟨f,p1,e2,g1,i1,hf,hs,hpg,hor⟩ | ⟨e2,hfull,hno⟩ | ⟨p1,e2,g1,i1,hb⟩
    ·rw [e2,fin_ok rfl]
     dsimp only
     rw [if_pos (by omega)]
     refine .inl ⟨_,rfl,?_,by rw [hr,e1,hn],(pin_n _ _).trans g1.n,g1.bad,fun _ => ⟨fun e2 => absurd (ho.symm.trans e2) (by decide),fun _ => by rw [hq];exact hor⟩⟩
     have gX' : MdM.Good (p.X.putH k j q) := MdM.Good.putH i.gx k j (.inr ⟨q,rfl,hqn,hT⟩)
     have hPq : (p.X.putH k j q).pins (q : Int) = p.X.pins (q : Int) + 1 := by
      have := pins_putH (a := p.X) (P := (q : Int)) (x := (q : Int)) (c := k) (j := j) hk hj (by omega)
      rw [if_neg (show ¬ p.X.H k j = (q : Int) by rw [hH];omega),if_pos rfl] at this
      omega
     have hPr : ∀ r : Nat,r ≠ q → (p.X.putH k j q).pins (r : Int) = p.X.pins (r : Int) := fun r hr => by
      have := pins_putH (a := p.X) (P := (r : Int)) (x := (q : Int)) (c := k) (j := j) hk hj (by omega)
      rw [if_neg (show ¬ p.X.H k j = (r : Int) by rw [hH];omega),if_neg (by omega)] at this
      omega
     obtain ⟨u1,u2,u3,u4⟩ := i1.use f q hf hs hpg (by simp)
     rw [g1.X] at u1 u2 u3 u4
     rw [hr,e1,hn]
     exact pinned (q := q) i1 hf hs hpg gX' (by rw [g1.X];rfl) (fun r _ => by rw [g1.X];rfl) (fun r _ => by rw [g1.X];rfl) (fun r hr => by rw [g1.X];exact hPr r hr) (fun r _ => by simp) hT (by rw [u2,hPq];omega) u3 u4
    ·rw [e2,fin_bad (by show (8 : Int) ≠ 0;decide)]
     exact .inr (.inl ⟨rfl,hfull,hc0,.inr ⟨ho,by rw [hq];exact hno⟩⟩)
    ·rw [e2,fin_bad (by show (9 : Int) ≠ 0;decide)]
     exact .inr (.inr ⟨p1,rfl,i1,g1.X,g1.n,hb⟩)
 ·have e1 : p.X.onPage o.p (p.X.fetch k) = (MdM.err 1,p.X) := by unfold Md.onPage;rw [if_pos hp]
  exact run_err (by rw [hr,e1];exact (by decide : (1 : Int) ≠ 0)) i (by rw [hr,e1])
theorem held_frame (i : Inv p) {c hh : Int} (h0 : ¬ p.X.held c hh < 0) : ∃ k j q f : Nat,c = (k : Int) ∧ hh = (j : Int) ∧ k < p.X.N ∧ j < 6 ∧ p.X.held c hh = (q : Int) ∧ p.X.H k j = (q : Int) ∧ q < p.X.n ∧ p.X.T q = true ∧ f < p.A.n ∧ (p.A.F f).st = 1 ∧ (p.A.F f).pg = (q : Int) ∧ p.A.find (q : Int) = (f : Int) ∧ 0 < p.X.pins (q : Int) := by
 rcases MdM.held_cases i.gx c hh with e | ⟨k,j,q,e1,e2,hk,hj,e3,e4,hq,hT⟩
 ·exact absurd (by rw [e];decide) h0
 ·have hpos := pins_pos hk hj e4
  obtain ⟨f,hf,hs,hp⟩ := i.held q hq (by simp) hpos
  exact ⟨k,j,q,f,e1,e2,hk,hj,e3,e4,hq,hT,hf,hs,hp,ArM.find_at i.ga hf hs hp,hpos⟩
theorem hand_err {g : Nat → Re × Md} (i : Inv p) (hr : p.X.run c o = p.X.onHand c o.h g) (h : p.X.held c o.h < 0) : RunP p c o (p.run c o) := by
 have e1 : p.X.onHand c o.h g = (MdM.err 5,p.X) := by unfold Md.onHand;rw [if_pos h]
 exact run_err (by rw [hr,e1];exact (by decide : (5 : Int) ≠ 0)) i (by rw [hr,e1])
theorem easy {p1 : Pl} {r : Re} {y : Md} (ho : o.k ≠ 1 ∧ o.k ≠ 2) (hr : p.X.run c o = (r,y)) (hc : r.c = 0) (hact : p.act c o (p.X.run c o).1 = ((-1,0),p1)) (hi : Inv ⟨y,p1.D,p1.A,p1.L⟩) (hn : p1.A.n = p.A.n) (hb : p.D.bad = 0 → p1.D.bad = 0) : RunP p c o (p.run c o) := by
 have hc0 : (p.X.run c o).1.c = 0 := by rw [hr];exact hc
 rw [run_ok hc0,hact,fin_ok rfl]
 dsimp only
 rw [if_neg (by decide)]
 refine .inl ⟨_,rfl,?_,rfl,hn,hb,fun _ => ⟨fun e => absurd e ho.1,fun e => absurd e ho.2⟩⟩
 rw [hr]
 exact hi
theorem read_way (i : Inv p) (ho : o.k = 3) (hr : p.X.run c o = p.X.onHand c o.h (p.X.read o.o o.n)) : RunP p c o (p.run c o) := by
 by_cases h0 : p.X.held c o.h < 0
 ·exact hand_err i hr h0
 ·obtain ⟨k,j,q,f,e1,e2,hk,hj,e3,e4,hq,hT,hf,hs,hp,hfd,hpos⟩ := held_frame i h0
  have e5 : p.X.onHand c o.h (p.X.read o.o o.n) = p.X.read o.o o.n q := by unfold Md.onHand;rw [if_neg h0,e3,Int.toNat_natCast]
  by_cases hb : o.o < 0 ∨ o.n < 0 ∨ 16 < o.o ∨ 16 - o.o < o.n
  ·have e6 : p.X.read o.o o.n q = (MdM.err 6,p.X) := by unfold Md.read;rw [if_pos hb]
   exact run_err (by rw [hr,e5,e6];exact (by decide : (6 : Int) ≠ 0)) i (by rw [hr,e5,e6])
  ·have e6 : p.X.read o.o o.n q = (⟨0,0,0,((p.X.B q).drop o.o.toNat).take o.n.toNat⟩,p.X) := by unfold Md.read;rw [if_neg hb]
   obtain ⟨g1,i1,hA,hD⟩ := front_spec i hf hs
   refine easy (p1 := p.front (f : Int)) ⟨by omega,by omega⟩ (hr.trans (e5.trans e6)) rfl ?_ ?_ (by rw [hA]) (by rw [hD];exact id)
   ·unfold Pl.act
    rw [if_neg (by omega),if_neg (by omega),if_pos ho,e3,hfd]
   ·have : (⟨p.X,(p.front (f : Int)).D,(p.front (f : Int)).A,(p.front (f : Int)).L⟩ : Pl) = p.front (f : Int) := by rw [← g1.X]
    rw [this]
    exact i1
theorem splice_same (b : List Int) (k : Nat) (d : List Int) : ArM.splice b k d = MdM.splice b k d := by
 unfold ArM.splice MdM.splice
 rw [List.append_assoc]
theorem write_way (i : Inv p) (ho : o.k = 4) (hd : MdM.Bytes o.d) (hr : p.X.run c o = p.X.onHand c o.h (p.X.write o.o o.d)) : RunP p c o (p.run c o) := by
 by_cases h0 : p.X.held c o.h < 0
 ·exact hand_err i hr h0
 ·obtain ⟨k,j,q,f,e1,e2,hk,hj,e3,e4,hq,hT,hf,hs,hp,hfd,hpos⟩ := held_frame i h0
  have e5 : p.X.onHand c o.h (p.X.write o.o o.d) = p.X.write o.o o.d q := by unfold Md.onHand;rw [if_neg h0,e3,Int.toNat_natCast]
  by_cases hb : o.o < 0 ∨ 16 < o.o ∨ 16 - o.o < (o.d.length : Int)
  ·have e6 : p.X.write o.o o.d q = (MdM.err 6,p.X) := by unfold Md.write;rw [if_pos hb]
   exact run_err (by rw [hr,e5,e6];exact (by decide : (6 : Int) ≠ 0)) i (by rw [hr,e5,e6])
  ·have e6 : p.X.write o.o o.d q = (MdM.err 0,p.X.putB q (MdM.splice (p.X.B q) o.o.toNat o.d)) := by unfold Md.write;rw [if_neg hb]
   obtain ⟨u1,u2,u3,u4⟩ := i.use f q hf hs hp (by simp)
   have hpn := (i.ga.use f hf hs).2.2
   have hset : p.A.set (f : Int) o.o o.d = ⟨p.A.n,upd p.A.F f ⟨1,(q : Int),(p.A.F f).pn,true⟩,upd p.A.B f (ArM.splice (p.A.B f) o.o.toNat o.d),p.A.Q⟩ := by
    have hc : p.A.setC (f : Int) o.o o.d = 0 := by
     unfold Ar.setC
     rw [if_pos (used_nat i hf hs),if_pos (by omega)]
    unfold Ar.set
    rw [if_pos hc,Int.toNat_natCast,hs,hp]
   have hsl : (ArM.splice (p.A.B f) o.o.toNat o.d).length = 16 := ArM.splice_len (i.ga.b f) (by omega)
   have gX' : MdM.Good (p.X.putB q (MdM.splice (p.X.B q) o.o.toNat o.d)) := i.gx.putB hT (MdM.splice_len (i.gx.len q) (by omega)) (MdM.splice_bytes (i.gx.byt q) hd)
   have i2 : Inv ⟨p.X.putB q (MdM.splice (p.X.B q) o.o.toNat o.d),p.D,p.A.set (f : Int) o.o o.d,p.L⟩ := by
    rw [hset]
    exact i.step (v := ⟨1,(q : Int),(p.A.F f).pn,true⟩) (b := ArM.splice (p.A.B f) o.o.toNat o.d) (X' := p.X.putB q (MdM.splice (p.X.B q) o.o.toNat o.d)) (D' := p.D) (L' := p.L) (h' := none) hf hs hp rfl rfl hpn hsl gX' rfl (fun _ _ => rfl) (fun r hr => MdM.upd_other _ _ hr) (fun _ _ => rfl) rfl i.dn (fun _ _ => rfl) i.nd (fun _ => Iff.rfl) (fun _ _ _ => by simp)
     (fun _ => ⟨hT,u2,by show _ = MdM.upd p.X.B q _ q;rw [MdM.upd_same,splice_same,u3],fun e => by cases e⟩)
   have hfs : (⟨p.X.putB q (MdM.splice (p.X.B q) o.o.toNat o.d),p.D,p.A.set (f : Int) o.o o.d,p.L⟩ : Pl).A.n = p.A.n := by rw [hset]
   have hss : ((p.A.set (f : Int) o.o o.d).F f).st = 1 := by rw [hset];show (upd p.A.F f ⟨1,(q : Int),(p.A.F f).pn,true⟩ f).st = 1;rw [upd_same]
   obtain ⟨g3,i3,hA3,hD3⟩ := front_spec i2 (f := f) (by rw [hfs];exact hf) hss
   refine easy (p1 := (⟨p.X,p.D,p.A.set (f : Int) o.o o.d,p.L⟩ : Pl).front (f : Int)) ⟨by omega,by omega⟩ (hr.trans (e5.trans e6)) rfl ?_ i3 hfs id
   unfold Pl.act
   rw [if_neg (by omega),if_neg (by omega),if_neg (by omega),if_pos ho,e3,hfd]
theorem unpin_way (i : Inv p) (ho : o.k = 5) (hr : p.X.run c o = p.X.onHand c o.h fun _ => (MdM.err 0,p.X.putH c.toNat o.h.toNat (-1))) : RunP p c o (p.run c o) := by
 by_cases h0 : p.X.held c o.h < 0
 ·exact hand_err i hr h0
 ·obtain ⟨k,j,q,f,e1,e2,hk,hj,e3,e4,hq,hT,hf,hs,hp,hfd,hpos⟩ := held_frame i h0
  have e5 : (p.X.onHand c o.h fun _ => (MdM.err 0,p.X.putH c.toNat o.h.toNat (-1))) = (MdM.err 0,p.X.putH k j (-1)) := by
   unfold Md.onHand
   rw [if_neg h0,e1,e2,Int.toNat_natCast,Int.toNat_natCast]
  obtain ⟨u1,u2,u3,u4⟩ := i.use f q hf hs hp (by simp)
  have hle := pins_le p.X i.gx (q : Int)
  have gX' : MdM.Good (p.X.putH k j (-1)) := i.gx.putH k j (.inl rfl)
  have hPq : (p.X.putH k j (-1)).pins (q : Int) + 1 = p.X.pins (q : Int) := by
   have := pins_putH (a := p.X) (P := (q : Int)) (x := -1) (c := k) (j := j) hk hj (by omega)
   rw [if_pos e4,if_neg (by omega)] at this
   omega
  have hPr : ∀ r : Nat,r ≠ q → (p.X.putH k j (-1)).pins (r : Int) = p.X.pins (r : Int) := fun r hr => by
   have := pins_putH (a := p.X) (P := (r : Int)) (x := -1) (c := k) (j := j) hk hj (by omega)
   rw [if_neg (show ¬ p.X.H k j = (r : Int) by rw [e4];omega),if_neg (by omega)] at this
   omega
  have hun := unpin_used i hf hs (by omega)
  refine easy (p1 := ⟨p.X,p.D,p.A.unpin (f : Int),p.L⟩) ⟨by omega,by omega⟩ (hr.trans e5) rfl ?_ ?_ (by rw [hun]) id
  ·unfold Pl.act
   rw [if_neg (by omega),if_neg (by omega),if_neg (by omega),if_neg (by omega),if_pos ho,e3,hfd]
  ·show Inv ⟨_,p.D,p.A.unpin (f : Int),p.L⟩
   rw [hun]
   have key := i.step (v := ⟨1,(p.A.F f).pg,(p.A.F f).pn - 1,(p.A.F f).di⟩) (b := p.A.B f) (X' := p.X.putH k j (-1)) (D' := p.D) (L' := p.L) (h' := none) hf hs hp rfl hp ⟨by show (0 : Int) ≤ (p.A.F f).pn - 1;omega,by show (p.A.F f).pn - 1 ≤ (1000 : Int);omega⟩ (i.ga.b f) gX' rfl (fun _ _ => rfl) (fun _ _ => rfl) hPr rfl i.dn (fun _ _ => rfl) i.nd (fun _ => Iff.rfl) (fun _ _ _ => by simp)
    (fun _ => ⟨hT,by show (p.A.F f).pn - 1 = _;omega,u3,u4⟩)
   rw [upd_id] at key
   exact key
theorem synced_way {x : Int × Pl} {r : Re} (ho : o.k ≠ 1 ∧ o.k ≠ 2) (hr : p.X.run c o = (r,p.X)) (hc : r.c = 0) (hact : p.act c o (p.X.run c o).1 = Pl.synced x) (g1 : Go p x.2) (i1 : Inv x.2) (h : x.1 = 0 ∨ (x.1 = 9 ∧ p.D.bad ≠ 0)) : RunP p c o (p.run c o) := by
 have hc0 : (p.X.run c o).1.c = 0 := by rw [hr];exact hc
 rw [run_ok hc0,hact]
 unfold Pl.synced
 rcases h with h | ⟨h,hb⟩
 ·rw [if_pos h]
  obtain ⟨g2,i2,hA2,h2⟩ := sync_spec i1
  have hg := g1.trans g2
  rcases h2 with h2 | ⟨h2,hb2⟩
  ·rw [fin_ok h2]
   dsimp only
   rw [if_neg (by decide)]
   refine .inl ⟨_,rfl,?_,rfl,by rw [hA2,g1.n],hg.bad,fun _ => ⟨fun e => absurd e ho.1,fun e => absurd e ho.2⟩⟩
   have : (⟨(p.X.run c o).2,x.2.sync.2.D,x.2.sync.2.A,x.2.sync.2.L⟩ : Pl) = x.2.sync.2 := by rw [hr];rw [← hg.X]
   rw [this]
   exact i2
  ·have e9 : ((-1,x.2.sync.1) : Int × Int).2 ≠ 0 := by show x.2.sync.1 ≠ 0;rw [h2];decide
   rw [fin_bad e9]
   refine .inr (.inr ⟨x.2.sync.2,?_,i2,hg.X,hg.n,fun e => by have := g1.bad e;omega⟩)
   show (MdM.err x.2.sync.1,_) = _
   rw [h2]
 ·rw [if_neg (by rw [h];decide)]
  have e9 : ((-1,x.1) : Int × Int).2 ≠ 0 := by show x.1 ≠ 0;rw [h];decide
  rw [fin_bad e9]
  refine .inr (.inr ⟨x.2,?_,i1,g1.X,g1.n,hb⟩)
  show (MdM.err x.1,_) = _
  rw [h]
theorem flush_way (i : Inv p) (ho : o.k = 6) (hr : p.X.run c o = p.X.onPage o.p fun _ => (MdM.err 0,p.X)) : RunP p c o (p.run c o) := by
 by_cases hp : 0 ≤ o.p ∧ o.p < (p.X.n : Int)
 ·obtain ⟨q,hq⟩ := Int.eq_ofNat_of_zero_le hp.1
  have e1 : (p.X.onPage o.p fun _ => (MdM.err 0,p.X)) = if p.X.T q = false then (MdM.err 2,p.X) else (MdM.err 0,p.X) := by
   unfold Md.onPage
   rw [if_neg (fun h => h hp),hq,Int.toNat_natCast]
  cases hT : p.X.T q with
  | false =>
   rw [hT,if_pos rfl] at e1
   exact run_err (by rw [hr,e1];exact (by decide : (2 : Int) ≠ 0)) i (by rw [hr,e1])
  | true =>
   rw [hT,if_neg (by decide)] at e1
   obtain ⟨g1,i1,_,_,h⟩ := flush_spec i q
   refine synced_way ⟨by omega,by omega⟩ (hr.trans e1) rfl ?_ g1 i1 (h.elim (fun h => .inl h.1) fun h => .inr ⟨h.1,by omega⟩)
   unfold Pl.act
   rw [if_neg (by omega),if_neg (by omega),if_neg (by omega),if_neg (by omega),if_neg (by omega),if_pos ho,hq]
 ·have e1 : (p.X.onPage o.p fun _ => (MdM.err 0,p.X)) = (MdM.err 1,p.X) := by unfold Md.onPage;rw [if_pos hp]
  exact run_err (by rw [hr,e1];exact (by decide : (1 : Int) ≠ 0)) i (by rw [hr,e1])
theorem all_way (i : Inv p) (ho : o.k = 7) (hr : p.X.run c o = (MdM.err 0,p.X)) : RunP p c o (p.run c o) := by
 obtain ⟨g1,i1,_,_,h⟩ := flushTo_spec i p.X.n
 refine synced_way ⟨by omega,by omega⟩ hr rfl ?_ g1 i1 (h.elim (fun h => .inl h.1) fun h => .inr h)
 unfold Pl.act
 rw [if_neg (by omega),if_neg (by omega),if_neg (by omega),if_neg (by omega),if_neg (by omega),if_neg (by omega),if_pos ho]
theorem del_way (i : Inv p) (ho : o.k = 8) (hr : p.X.run c o = p.X.onPage o.p p.X.del) : RunP p c o (p.run c o) := by
 by_cases hp : 0 ≤ o.p ∧ o.p < (p.X.n : Int)
 ·obtain ⟨q,hq⟩ := Int.eq_ofNat_of_zero_le hp.1
  have hqn : q < p.X.n := by omega
  have e1 : p.X.onPage o.p p.X.del = if p.X.T q = false then (MdM.err 2,p.X) else p.X.del q := by
   unfold Md.onPage
   rw [if_neg (fun h => h hp),hq,Int.toNat_natCast]
  cases hT : p.X.T q with
  | false =>
   rw [hT,if_pos rfl] at e1
   exact run_err (by rw [hr,e1];exact (by decide : (2 : Int) ≠ 0)) i (by rw [hr,e1])
  | true =>
   rw [hT,if_neg (by decide)] at e1
   by_cases h0 : 0 < p.X.pins (q : Int)
   ·have e2 : p.X.del q = (MdM.err 7,p.X) := by unfold Md.del;rw [if_pos h0]
    exact run_err (by rw [hr,e1,e2];exact (by decide : (7 : Int) ≠ 0)) i (by rw [hr,e1,e2])
   ·have e2 : p.X.del q = (MdM.err 0,p.X.putT q false) := by unfold Md.del;rw [if_neg h0]
    have hP0 : p.X.pins (q : Int) = 0 := by omega
    have gX' : MdM.Good (p.X.putT q false) := i.gx.putT q false (.inr fun x y hx hy => MdM.pins_zero hP0 x y hx hy)
    have hact : p.act c o (p.X.run c o).1 = ((-1,0),if 0 ≤ p.A.find (q : Int) then p.drop (p.A.find (q : Int)).toNat else p) := by
     unfold Pl.act
     rw [if_neg (by omega),if_neg (by omega),if_neg (by omega),if_neg (by omega),if_neg (by omega),if_neg (by omega),if_neg (by omega),hq]
    have fins : ∀ p1 : Pl,InvE p1 (some q) → (∀ x,x < p1.A.n → (p1.A.F x).st = 1 → (p1.A.F x).pg ≠ (q : Int)) → p1.X = p.X → Inv ⟨p.X.putT q false,p1.D,p1.A,p1.L⟩ := fun p1 i1 no1 hX =>
     i1.close (X' := p.X.putT q false) no1 gX' (by rw [hX];rfl) (fun r hr => by rw [hX];exact MdM.upd_other _ _ hr) (fun r hr => by rw [hX];exact MdM.upd_other _ _ hr) (fun r => by rw [hX];rfl) (by rw [hX];exact hP0)
      (fun e => by have e : MdM.upd p.X.T q false q = true := e;rw [MdM.upd_same] at e;cases e)
    rcases ArM.find_cases p.A (q : Int) with ⟨e,hno⟩ | ⟨f,hf,hs,hpg,e⟩
    ·rw [e,if_neg (by decide)] at hact
     exact easy (p1 := p) ⟨by omega,by omega⟩ (hr.trans (e1.trans e2)) rfl hact (fins p (i.weaken _) hno rfl) rfl id
    ·rw [e,if_pos (by omega),Int.toNat_natCast] at hact
     obtain ⟨u1,u2,u3,u4⟩ := i.use f q hf hs hpg (by simp)
     obtain ⟨g3,i3,D3,Q3,F3⟩ := drop_spec (i.weaken (some q)) hf hs hpg (by rw [u2,hP0];rfl) (.inl rfl)
     refine easy (p1 := p.drop f) ⟨by omega,by omega⟩ (hr.trans (e1.trans e2)) rfl hact (fins (p.drop f) i3 (fun x hx sx px => ?_) g3.X) g3.n g3.bad
     rw [F3] at sx px
     by_cases ex : x = f
     ·subst ex;rw [upd_same] at sx;have : (0 : Int) = 1 := sx;omega
     ·rw [upd_other _ _ ex] at sx px
      rw [g3.n] at hx
      exact ex (i.ga.uq x f hx hf sx hs (by omega))
 ·have e1 : p.X.onPage o.p p.X.del = (MdM.err 1,p.X) := by unfold Md.onPage;rw [if_pos hp]
  exact run_err (by rw [hr,e1];exact (by decide : (1 : Int) ≠ 0)) i (by rw [hr,e1])
theorem run_spec (i : Inv p) (c : Int) (o : MdOp) (hd : MdM.Bytes o.d) : RunP p c o (p.run c o) := by
 by_cases hb : ¬ (0 ≤ c ∧ c < (p.X.N : Int)) ∨ o.k < 1 ∨ 8 < o.k
 ·have e : p.X.run c o = (MdM.err 1,p.X) := by unfold Md.run;rw [if_pos hb]
  exact run_err (by rw [e];exact (by decide : (1 : Int) ≠ 0)) i (by rw [e])
 ·have hc : 0 ≤ c ∧ c < (p.X.N : Int) := by omega
  obtain ⟨k,rfl⟩ := Int.eq_ofNat_of_zero_le hc.1
  have hk : k < p.X.N := by omega
  have e0 : p.X.run (k : Int) o = if o.k = 1 then p.X.new k else if o.k = 2 then p.X.onPage o.p (p.X.fetch k) else if o.k = 3 then p.X.onHand (k : Int) o.h (p.X.read o.o o.n) else if o.k = 4 then p.X.onHand (k : Int) o.h (p.X.write o.o o.d) else if o.k = 5 then p.X.onHand (k : Int) o.h (fun _ => (MdM.err 0,p.X.putH (k : Int).toNat o.h.toNat (-1))) else if o.k = 6 then p.X.onPage o.p (fun _ => (MdM.err 0,p.X)) else if o.k = 7 then (MdM.err 0,p.X) else p.X.onPage o.p p.X.del := by
   unfold Md.run
   rw [if_neg hb]
   rfl
  by_cases h1 : o.k = 1
  ·rw [if_pos h1] at e0;exact new_way i hk h1 e0
  rw [if_neg h1] at e0
  by_cases h2 : o.k = 2
  ·rw [if_pos h2] at e0;exact fetch_way i hk h2 e0
  rw [if_neg h2] at e0
  by_cases h3 : o.k = 3
  ·rw [if_pos h3] at e0;exact read_way i h3 e0
  rw [if_neg h3] at e0
  by_cases h4 : o.k = 4
  ·rw [if_pos h4] at e0;exact write_way i h4 hd e0
  rw [if_neg h4] at e0
  by_cases h5 : o.k = 5
  ·rw [if_pos h5] at e0;exact unpin_way i h5 e0
  rw [if_neg h5] at e0
  by_cases h6 : o.k = 6
  ·rw [if_pos h6] at e0;exact flush_way i h6 e0
  rw [if_neg h6] at e0
  by_cases h7 : o.k = 7
  ·rw [if_pos h7] at e0;exact all_way i h7 e0
  rw [if_neg h7] at e0
  exact del_way i (by omega) e0
theorem inv_fresh {n N k : Nat} (h1 : 1 ≤ n) (h2 : n ≤ 48) (h3 : 1 ≤ N) (h4 : N ≤ 6) (h5 : 1 ≤ k) (h6 : k ≤ 32) : Inv (RfM.fresh n N k) := by
 have hs : ∀ f,((RfM.fresh n N k).A.F f).st = 0 := fun _ => rfl
 have hno : ∀ f,¬ ((RfM.fresh n N k).A.F f).st = 1 := fun f e => by rw [hs] at e;exact absurd e (by decide)
 have hT : ∀ q,(RfM.fresh n N k).X.T q = false := fun _ => rfl
 have hP : ∀ q : Nat,(RfM.fresh n N k).X.pins (q : Int) = 0 := fun q => by
  show (MdM.fresh n N).pins (q : Int) = 0
  unfold Md.pins
  rw [if_neg (by omega)]
  have hc : ∀ m,HdM.cnt (fun _ => (-1 : Int)) (q : Int) m = 0 := fun m => by
   induction m with
   | zero => rfl
   | succ m ih => rw [HdM.cnt_no (by omega)];exact ih
  have hz : ∀ m,HdM.sum ((MdM.fresh n N).has (q : Int)) m = 0 := fun m => by
   induction m with
   | zero => rfl
   | succ m ih =>
    show HdM.sum _ m + HdM.cnt (fun _ => (-1 : Int)) (q : Int) 6 = 0
    rw [ih,hc]
  exact hz _
 exact ⟨MdM.good_fresh h1 h2 h3 h4,ArM.good_fresh h6,List.nodup_nil,fun f => ⟨(fun h => by cases h),fun h => absurd h.2 (hno f)⟩,fun f _ => .inl rfl,h5,rfl,rfl,fun f _ h => absurd h (hno f),fun f q _ h => absurd h (hno f),fun q _ _ h => by rw [hP] at h;omega,fun q _ _ h => by rw [hT] at h;cases h⟩
end
end RfX
namespace RgM
open MdM (Md MdOp Re)
open ArM (Ar Fr)
open Dev (Dv)
open RfM RfI RfR RfF
def Bnd (S : Dv) (i : Nat) : Prop := S.n ≤ i ∧ S.bad ≤ 1000000
section
variable {S : Dv} {i j m k : Nat} {p : Pl} {q : Int} {f : Nat}
theorem Bnd.up (h : Bnd S i) (hj : i ≤ j) : Bnd S j := ⟨Nat.le_trans h.1 hj,h.2⟩
theorem Bnd.acc (h : Bnd S i) : Bnd (Dev.accS S) (i + 1) := by
 obtain ⟨h1,h2⟩ := h
 unfold Dev.accS
 split
 ·exact ⟨by omega,h2⟩
 ·exact ⟨by show S.n + 1 ≤ i + 1;omega,by show S.bad - 1 ≤ 1000000;omega⟩
theorem Bnd.read (h : Bnd S i) (p : Int) : Bnd (Dev.readS S p) (i + 1) := by
 unfold Dev.readS;split
 ·exact h.acc
 ·exact h.up (by omega)
theorem Bnd.write (h : Bnd S i) (p : Int) (zs : List Int) : Bnd (Dev.writeS S p zs) (i + 1) := by
 unfold Dev.writeS;split
 ·split
  ·exact h.acc
  ·exact h.acc
 ·exact h.up (by omega)
theorem Bnd.sync (h : Bnd S i) : Bnd (Dev.syncS S) (i + 1) := by
 unfold Dev.syncS;split
 ·exact h.acc
 ·exact h.acc
theorem Bnd.wr (h : Bnd p.D i) (f : Nat) : Bnd (p.wr f).D (i + 1) := h.write _ _
theorem Bnd.room (h : Bnd p.D i) (q : Int) : Bnd (p.room q).2.D (i + 1) := by
 unfold Pl.room
 split
 ·split
  ·exact h.up (by omega)
  ·unfold Pl.evict
   split
   ·split
    ·exact (h.wr _)
    ·exact (h.wr _)
   ·exact h.up (by omega)
 ·exact h.up (by omega)
theorem Bnd.load (h : Bnd p.D i) (q : Int) (f : Nat) : Bnd (p.load q f).2.D (i + 1) := by
 unfold Pl.load
 split
 ·exact h.read _
 ·split
  ·exact h.read _
  ·split
   ·exact h.read _
   ·exact h.read _
theorem Bnd.fetch (h : Bnd p.D i) (q : Int) : Bnd (p.fetch q).2.D (i + 2) := by
 unfold Pl.fetch
 split
 ·exact h.up (by omega)
 ·split
  ·exact (h.room q).up (by omega)
  ·exact (h.room q).load _ _
theorem Bnd.flush (h : Bnd p.D i) (q : Int) : Bnd (p.flush q).2.D (i + 1) := by
 unfold Pl.flush
 split
 ·exact h.wr _
 ·exact h.up (by omega)
theorem Bnd.flushTo (h : Bnd p.D i) (k : Nat) : Bnd (p.flushTo k).2.D (i + k) := by
 induction k with
 | zero => exact h
 | succ k ih =>
  unfold Pl.flushTo
  split
  ·exact ih.flush _
  ·exact ih.up (by omega)
theorem Bnd.synced {x : Int × Pl} (h : Bnd x.2.D i) : Bnd (Pl.synced x).2.D (i + 1) := by
 unfold Pl.synced
 split
 ·exact h.sync
 ·exact h.up (by omega)
theorem Bnd.act (h : Bnd p.D i) (hn : p.X.n ≤ 48) (c : Int) (o : MdOp) (r : Re) : Bnd (p.act c o r).2.D (i + 50) := by
 unfold Pl.act
 split
 ·split
  ·exact (h.room _).up (by omega)
  ·exact (h.room _).up (by omega)
 ·split
  ·exact (h.fetch _).up (by omega)
  ·split
   ·exact h.up (by omega)
   ·split
    ·exact h.up (by omega)
    ·split
     ·exact h.up (by omega)
     ·split
      ·exact (Bnd.synced (h.flush _)).up (by omega)
      ·split
       ·exact (Bnd.synced (h.flushTo _)).up (by omega)
       ·dsimp only
        split
        ·exact h.up (by omega)
        ·exact h.up (by omega)
theorem Bnd.run (h : Bnd p.D i) (hn : p.X.n ≤ 48) (c : Int) (o : MdOp) : Bnd (p.run c o).2.D (i + 50) := by
 unfold Pl.run
 split
 ·exact h.up (by omega)
 ·unfold Pl.fin
  split
  ·exact h.act hn _ _ _
  ·exact h.act hn _ _ _
theorem Bnd.fresh (n N k : Nat) : Bnd (RfM.fresh n N k).D 0 := ⟨Nat.le_refl _,Nat.zero_le _⟩
end
def saveC (p : Pl) (f : Nat) : Int := if (p.A.F f).di = true then p.wrC f else 0
def saveS (p : Pl) (f : Nat) : Pl := if (p.A.F f).di = true then p.wr f else p
def saves (p : Pl) : List Nat → Int × Pl
 | [] => (0,p)
 | q :: l => if (p.flush (q : Int)).1 = 0 then saves (p.flush (q : Int)).2 l else p.flush (q : Int)
section
variable {p : Pl} {q : Nat} {l : List Nat}
theorem saves_one (p : Pl) (q : Nat) : saves p [q] = p.flush (q : Int) := by
 unfold saves
 split
 ·next h => unfold saves;rw [← h]
 ·rfl
theorem saves_snoc (p : Pl) (l : List Nat) (q : Nat) : saves p (l ++ [q]) = if (saves p l).1 = 0 then (saves p l).2.flush (q : Int) else saves p l := by
 induction l generalizing p with
 | nil =>
  rw [List.nil_append,saves_one]
  unfold saves
  rw [if_pos rfl]
 | cons a l ih =>
  rw [List.cons_append]
  unfold saves
  split
  ·rw [ih]
  ·next h => first | rfl | rw [if_neg h]
theorem saves_range (p : Pl) (k : Nat) : saves p (List.range k) = p.flushTo k := by
 induction k with
 | zero => rfl
 | succ k ih =>
  rw [List.range_succ,saves_snoc,ih]
  rfl
def Di (p : Pl) (q : Nat) : Prop := ∃ f,f < p.A.n ∧ (p.A.F f).st = 1 ∧ (p.A.F f).pg = (q : Int) ∧ (p.A.F f).di = true
theorem flush_not (i : Inv p) (h : ¬ Di p q) : p.flush (q : Int) = (0,p) := by
 unfold Pl.flush
 rcases ArM.find_cases p.A (q : Int) with ⟨e,_⟩ | ⟨f,hf,hs,hp,e⟩
 ·rw [e,if_neg (by omega)]
 ·rw [e,Int.toNat_natCast,if_neg fun x => h ⟨f,hf,hs,hp,x.2⟩]
theorem flush_keep (i : Inv p) {r : Nat} (h : Di (p.flush (q : Int)).2 r) : Di p r := by
 obtain ⟨g,_,_,hx,_⟩ := flush_spec i q
 obtain ⟨f,hf,hs,hp,hd⟩ := h
 obtain ⟨h1,h2,h3⟩ := hx f
 refine ⟨f,by rw [← g.n];exact hf,by rw [← h1];exact hs,by rw [← h2];exact hp,?_⟩
 cases e : (p.A.F f).di with
 | true => rfl
 | false => rw [h3 e] at hd;exact absurd hd (by decide)
theorem saves_filter (i : Inv p) (E : Nat → Bool) (h : ∀ q ∈ l,Di p q → E q = true) : saves p (l.filter E) = saves p l := by
 induction l generalizing p with
 | nil => rfl
 | cons a l ih =>
  rw [List.filter_cons]
  have hr : ∀ q ∈ l,Di (p.flush (a : Int)).2 q → E q = true := fun q hq hd => h q (List.mem_cons_of_mem _ hq) (flush_keep i hd)
  split
  ·unfold saves
   split
   ·exact ih (flush_spec i a).2.1 hr
   ·rfl
  ·next hE =>
   have h0 := flush_not (q := a) i fun hd => hE (h a List.mem_cons_self hd)
   rw [ih i fun q hq hd => h q (List.mem_cons_of_mem _ hq) hd]
   conv => rhs;unfold saves
   rw [h0,if_pos rfl]
theorem sorted_filter {n : Nat} (hs : l.Pairwise (· < ·)) (hn : ∀ q ∈ l,q < n) : (List.range n).filter (fun q => decide (q ∈ l)) = l := by
 have h1 : ((List.range n).filter (fun q => decide (q ∈ l))).Pairwise (· < ·) := List.pairwise_lt_range.filter _
 have hp : ((List.range n).filter (fun q => decide (q ∈ l))).Perm l := by
  rw [List.perm_ext_iff_of_nodup (h1.imp fun h => Nat.ne_of_lt h) (hs.imp fun h => Nat.ne_of_lt h)]
  intro a
  rw [List.mem_filter]
  simp only [List.mem_range,decide_eq_true_eq]
  exact ⟨fun h => h.2,fun h => ⟨hn a h,h⟩⟩
 exact hp.eq_of_pairwise (fun a b _ _ h k => absurd (Nat.lt_trans h k) (Nat.lt_irrefl _)) h1 hs
theorem saves_all (i : Inv p) {n : Nat} (hs : l.Pairwise (· < ·)) (hn : ∀ q ∈ l,q < n) (hd : ∀ q,q < n → Di p q → q ∈ l) : saves p l = p.flushTo n := by
 rw [← saves_range,← sorted_filter hs hn]
 exact saves_filter i _ fun q hq h => decide_eq_true (hd q (List.mem_range.1 hq) h)
end
end RgM
namespace GsC
open Go.ChangeShapes Go.WideShapes Go.ChangeAt Go.RowKit
open Mem Blk Cells Stages
theorem add_off (b off j : Nat) : (⟨b,off,none⟩ : Addr).add j = ⟨b,off + j,none⟩ := by unfold Addr.add;split <;> simp_all
section
variable {w w' : World} {b n : Nat} {f g : Nat → Value}
theorem Row.setCells (vs : List Value) : ∀ {w : World} {f : Nat → Value} (o : Nat),Row w b n f → Row (w.setCells b o vs) b n (fun j => if o ≤ j ∧ j < o + vs.length then vs.getD (j - o) (f j) else f j) := by
 induction vs with
 | nil => intro w f o h;exact h.congr fun i _ => by rw [if_neg (by simp only [List.length_nil];omega)]
 | cons v r ih =>
  intro w f o h
  refine (ih (o + 1) (h.set o v)).congr fun i _ => ?_
  by_cases e : i = o
  ·subst e
   have e2 : i ≤ i ∧ i < i + (v :: r).length := by simp only [List.length_cons];omega
   rw [if_neg (show ¬ (i + 1 ≤ i ∧ i < i + 1 + r.length) by omega),if_pos rfl,if_pos e2,Nat.sub_self]
   rfl
  ·by_cases h2 : o + 1 ≤ i ∧ i < o + 1 + r.length
   ·have e2 : o ≤ i ∧ i < o + (v :: r).length := by simp only [List.length_cons];omega
    rw [if_pos h2,if_pos e2,if_neg e,show i - o = (i - (o + 1)) + 1 by omega,List.getD_cons_succ]
   ·have e2 : ¬ (o ≤ i ∧ i < o + (v :: r).length) := by simp only [List.length_cons];omega
    rw [if_neg h2,if_neg e,if_neg e2]
theorem kept_setCells (b : Nat) (vs : List Value) : ∀ (w : World) (o : Nat),Kept (fun x => x = b) w (w.setCells b o vs) := by
 induction vs with
 | nil => intro w o;exact Kept.refl _ _
 | cons v r ih => intro w o;exact (kept_set w b o v).trans (ih _ _)
theorem Row.isSome (h : Row w b n f) {j : Nat} (hj : j < n) : (w.cell? ⟨b,j,none⟩).isSome = true := by rw [h.cell hj];rfl
def laid (f : Nat → Value) (o m : Nat) (u : Nat → Value) (j : Nat) : Value := if o ≤ j ∧ j < o + m then u (j - o) else f j
theorem Row.laid {m : Nat} (h : Row w b n f) (o : Nat) (u : Nat → Value) : Row (w.setCells b o ((List.range m).map u)) b n (laid f o m u) := by
 refine (Row.setCells _ o h).congr fun i _ => ?_
 unfold GsC.laid
 simp only [List.length_map,List.length_range]
 by_cases e : o ≤ i ∧ i < o + m
 ·rw [if_pos e,if_pos e]
  simp [List.getD,show i - o < m by omega]
 ·rw [if_neg e,if_neg e]
theorem copy_row {P : Program} {N m : Nat} {f u : Nat → Value} (dT sT elem : TypeId) (hu : P.underlying dT = some (.slice elem)) (hs : (P.info? elem).map (·.size) = some 1)
  (h : Row w b N f) (o dLen : Nat) (a : Addr) (sLen : Nat) (hm : Nat.min sLen dLen = m) (hfit : o + m ≤ N) (hsrc : ∀ j,j < m → w.cell? (a.add j) = some (u j)) (h1 : ∀ j,j < m → (u j).oneCell' = true) :
  ∃ w',(∀ ty dCap sCap,(Builtin.copy_ #[dT,sT] ty #[.slice (some ⟨b,o,none⟩) dLen dCap,.slice (some a) sLen sCap]).run P w = .ok (.int .i64 (m : Int)) w') ∧ Row w' b N (laid f o m u) ∧ Kept (fun x => x = b) w w' := by
 have hl : ((List.range m).map u).length = m := by simp
 refine ⟨_,fun ty dCap sCap => ?_,Row.laid h o u,kept_setCells _ _ _ _⟩
 have hr := run_copy_cells (P := P) w dT sT ty elem b o dLen dCap a sLen sCap ((List.range m).map u) hu hs (by rw [hl,hm]) (fun j v hj => by
   have hjm : j < m := by
    have := (List.getElem?_eq_some_iff.1 hj).1
    simpa using this
   rw [hsrc j hjm,← hj]
   simp [hjm]) (fun j hj => Row.isSome h (by rw [hl] at hj;omega)) (fun j _ => h.frozen _) (fun v hv => by
   obtain ⟨j,hj,rfl⟩ := List.mem_map.1 hv
   exact h1 j (List.mem_range.1 hj))
 rw [hl] at hr
 exact hr
end
section
variable {w w' : World} {n c m B : Nat} {A : Option Addr} {zs : List Int} {F : Nat → Prop}
end
end GsC
namespace ArB
open Go.ChangeShapes Go.WideShapes Go.ChangeAt Go.RowKit
open Mem Blk Cells Orow GsC TabM ArM ArC ArD Stages
theorem infoU8 : (Tryz.prog.info? 5).map (fun i => (i.zero,i.size,i.bytes)) = some (some (.int .u8 0),1,1) := by kernel_rfl
theorem sizeU8 : (Tryz.prog.info? 5).map (·.size) = some 1 := by kernel_rfl
theorem infoFr : (Tryz.prog.info? 36).map (fun i => (i.zero,i.size,i.bytes)) = some (some (.agg #[.int .i64 0,.int .i64 0,.int .i64 0,.int .i64 0,.bool false]),5,40) := by kernel_rfl
def CloneOf (w : World) (t : TypeId) (s n : Nat) (f : Nat → Value) (e : Ending) (w' : World) : Prop :=
 ∃ g c,e = .returned (.slice (some ⟨g,0,none⟩) n c) ∧ w.heap.size ≤ g ∧ OR w' g t s c n f ∧ Grow w w'
def bcell (zs : List Int) (j : Nat) : Value := .int .u8 (zs.getD j 0)
section
variable {w w' : World} {G H F : Nat → Prop} {d g cap dl Dl dt Dt : Nat} {T : Tb} {a : Ar}
set_option maxHeartbeats 1000000 in
theorem bclone_any (A : Option Addr) (n cap B : Nat) (zs : List Int) (w : World) (h0 : 0 < n) (hn : n ≤ 100000) (h : Sl w B .u8 A n zs) :
  Calls Tryz.prog 80 #[.slice A n cap] w (CloneOf w 5 1 n (bcell zs)) := by
 obtain ⟨i0,hi,hz0,hz1,hz2⟩ := info_parts infoU8
 obtain ⟨b,off,rfl,hb,hc⟩ := h.at_ h0
 have q22 : ∀ (w : World) (a : Option Addr) (n c n' c' : Nat),(binOp .eql 22 (.slice a n c) (.slice none n' c')).run Tryz.prog w = .ok (.bool a.isNone) w := fun w a n c n' c' => Lib.run_eql_slice_nil w _ _ a n c n' c' Tryz.underlying22
 have hl := h.len
 have HC := hid hc
 have HL := hid hl
 clear hc hl h
 go_enter Tryz.func80,Tryz.ntmps80
 go_wp2_with (at_builtin;refine wpList_append_lies _ rfl _ _ 22 rfl w.heap.size 5 i0 (.int .u8 0) 1 1 Tryz.underlying22 hi hz0 hz1 hz2 rfl (by decide) _ _ _ rfl (World.ownsRow_made w #[] 0 (Nat.le_refl _) (Nat.zero_le _) rfl) ⟨b,off,none⟩ n cap (zs.map (Value.int .u8)) rfl ?qc1 ?qc2 ?qc3 h0 ?qc4 ?qc5 ?qc6 _ rfl ?_)
 case qc1 => simp [HL.out]
 case qc2 =>
  intro j u hj
  have hl := HL.out
  have hjn : j < n := by
   have := (List.getElem?_eq_some_iff.1 hj).1
   simp at this
   omega
  have e : (⟨b,off,none⟩ : Addr).add j = ⟨b,off + j,none⟩ := by unfold Addr.add;split <;> simp_all
  rw [e]
  refine Lib.cell?_alloc_some _ ?_
  rw [HC.out j hjn,← hj]
  simp [List.getD,List.getElem?_eq_getElem (show j < zs.length by omega)]
 case qc3 => intro u hu;obtain ⟨x,_,rfl⟩ := List.mem_map.1 hu;rfl
 case qc4 => unfold maxLen;omega
 case qc5 => omega
 case qc6 => simp
 intro g c w1 hown hgrow hor hlt
 have hown' := hid hown
 have hgr' : Hid (Grow w w1) := ((Kept.refl _ w).alloc _).grown hgrow (by intro k hk;simp [Value.ownBlock] at hk;omega)
 clear hown hgrow hor hlt
 go_wp2
 go_ret
 have hz := HL.out
 have hown := hown'.out
 obtain ⟨h1,h2⟩ := OR.of_own (f := bcell zs) hown (fun i hi => by simp [bcell,List.getD,List.getElem?_eq_getElem (show i < zs.length by omega)])
 exact ⟨g,c,rfl,h2,h1,hgr'.out⟩
theorem fcell_one (F : Nat → Fr) (j : Nat) : (fcell F j).oneCell' = true := by
 unfold fcell fpart
 split
 ·rfl
 ·split
  ·rfl
  ·split
   ·rfl
   ·split <;> rfl
set_option maxHeartbeats 1000000 in
theorem fclone_any (g n cap c : Nat) (F : Nat → Fr) (w : World) (h0 : 0 < n) (hn : n ≤ 1000) (h : FR w g cap n F) :
  Calls Tryz.prog 108 #[.slice (some ⟨g,0,none⟩) n c] w (CloneOf w 36 5 n (fcell F)) := by
 obtain ⟨i0,hi,hz0,hz1,hz2⟩ := info_parts infoFr
 have q22 : ∀ (w : World) (a : Option Addr) (n c n' c' : Nat),(binOp .eql 31 (.slice a n c) (.slice none n' c')).run Tryz.prog w = .ok (.bool a.isNone) w := fun w a n c n' c' => Lib.run_eql_slice_nil w _ _ a n c n' c' Tryz.underlying31
 have HC := hid h
 clear h
 go_enter Tryz.func108,Tryz.ntmps108
 go_wp2_with (at_builtin;refine wpList_append_lies _ rfl _ _ 31 rfl w.heap.size 36 i0 _ 5 40 Tryz.underlying31 hi hz0 hz1 hz2 rfl (by decide) _ _ _ rfl (World.ownsRow_made w #[] 0 (Nat.le_refl _) (Nat.zero_le _) rfl) ⟨g,0,none⟩ n c ((List.range (n * 5)).map (fcell F)) rfl ?qc1 ?qc2 ?qc3 h0 ?qc4 ?qc5 ?qc6 _ rfl ?_)
 case qc1 => simp
 case qc2 =>
  intro j u hj
  have hjn : j < n * 5 := by
   have := (List.getElem?_eq_some_iff.1 hj).1
   simpa using this
  have e : (⟨g,0,none⟩ : Addr).add j = ⟨g,j,none⟩ := by unfold Addr.add;split <;> simp_all
  rw [e]
  refine Lib.cell?_alloc_some _ ?_
  rw [OR.cell HC.out hjn,← hj]
  simp [hjn]
 case qc3 => intro u hu;obtain ⟨x,_,rfl⟩ := List.mem_map.1 hu;exact fcell_one F x
 case qc4 => unfold maxLen;omega
 case qc5 => omega
 case qc6 => simp
 intro g1 c1 w1 hown hgrow hor hlt
 have hown' := hid hown
 have hgr' : Hid (Grow w w1) := ((Kept.refl _ w).alloc _).grown hgrow (by intro k hk;simp [Value.ownBlock] at hk;omega)
 clear hown hgrow hor hlt
 go_wp2
 go_ret
 have hown := hown'.out
 obtain ⟨h1,h2⟩ := OR.of_own (f := fcell F) hown (fun i hi => by simp [hi])
 exact ⟨g1,c1,rfl,h2,h1,hgr'.out⟩
def FramesPost (a : Ar) (w : World) (e : Ending) (w' : World) : Prop :=
 ∃ v,e = .returned v ∧ OS w' (w.heap.size ≤ ·) v 36 5 a.n (fcell a.F) ∧ Grow w w'
theorem frames_any (h : ArAt w G d a) : Calls Tryz.prog 48 #[.pointer (some ⟨d,0,none⟩)] w (FramesPost a w) := by
 rcases h.mem with h' | ⟨g,cap,dl,Dl,dt,Dt,T,hb⟩
 ·have c0 := h'.h0
  have HZ := hid h'.zero
  have q22 : ∀ (w : World) (a : Option Addr) (n c n' c' : Nat),(binOp .eql 31 (.slice a n c) (.slice none n' c')).run Tryz.prog w = .ok (.bool a.isNone) w := fun w a n c n' c' => Lib.run_eql_slice_nil w _ _ a n c n' c' Tryz.underlying31
  have HC : Hid (∀ w,Calls Tryz.prog 108 #[.slice none 0 0] w fun e w' => e = .returned (.slice none 0 0) ∧ w = w') := fun w => by
   go_enter Tryz.func108,Tryz.ntmps108
   go_wp2
   go_ret
   exact ⟨rfl,rfl⟩
  clear h h' q22
  go_enter Tryz.func48,Tryz.ntmps48
  go_wp2_with (go_at_call 108;(with_reducible refine (HC.out _).mono ?_);rintro e w' ⟨rfl,rfl⟩)
  go_ret
  exact ⟨_,rfl,.inl ⟨rfl,HZ.out⟩,Kept.refl _ _⟩
 ·have c0 := hb.h0
  have HC := hid (fclone_any g a.n cap cap a.F w hb.pos (by have := h.good.n;omega) hb.fr)
  clear h hb
  go_enter Tryz.func48,Tryz.ntmps48
  go_wp2_with (go_at_call 108;(with_reducible refine HC.out.mono ?_);rintro e w1 ⟨g1,c1,rfl,hb,ho,hg⟩;have HO := hid ho;have HB := hid hb;have HG := hid hg;clear hb ho hg)
  go_ret
  exact ⟨_,rfl,.inr ⟨g1,c1,rfl,HO.out,HB.out⟩,HG.out⟩
theorem acell_b (v pl pt : Value) (B : Nat → List Int) (f j : Nat) (hf : f < 32) (hj : j < 16) : acell v B pl pt (1 + f * 16 + j) = .int .u8 ((B f).getD j 0) := by
 unfold acell
 rw [if_neg (by omega),if_pos (by omega),show (1 + f * 16 + j - 1) / 16 = f by omega,show (1 + f * 16 + j - 1) % 16 = j by omega]
theorem body_sl {v pl pt : Value} (h : Row w d 515 (acell v a.B pl pt)) (hg : ArM.Good a) (f : Nat) (hf : f < 32) : Sl w w.heap.size .u8 (some ⟨d,1 + f * 16,none⟩) 16 (a.B f) :=
 ⟨hg.b f,fun _ => ⟨d,1 + f * 16,rfl,h.lt,fun j hj => by rw [h.cell (by omega),acell_b _ _ _ _ _ _ hf hj]⟩⟩
def BodyPost (a : Ar) (k : Int) (w : World) (e : Ending) (w' : World) : Prop :=
 ∃ v,e = .returned v ∧ OS w' (w.heap.size ≤ ·) v 5 1 (if a.used k = true then 16 else 0) (bcell (a.B k.toNat)) ∧ Grow w w'
theorem body_any (h : ArAt w G d a) (k : Int) : Calls Tryz.prog 97 #[.pointer (some ⟨d,0,none⟩),.int .i64 k] w (BodyPost a k w) := by
 cases hu : a.used k with
 | false =>
  have HU := hid (used_bad h k hu)
  have HE := hid hu
  clear h hu
  go_enter Tryz.func97,Tryz.ntmps97
  go_wp2_with (go_at_call 148;(with_reducible refine HU.out.mono ?_);rintro e w' ⟨rfl,rfl⟩)
  go_ret
  refine ⟨_,rfl,.inl ⟨rfl,?_⟩,Kept.refl _ _⟩
  rw [HE.out];rfl
 | true =>
  have HE := hid hu
  obtain ⟨f,rfl,hf,hs⟩ := used_iff.1 hu
  have hn32 := h.good.n
  obtain ⟨g,cap,dl,Dl,dt,Dt,T,hb⟩ := ArAt.big h (by omega)
  have HU := hid (used_good hb h.good.n f hf hs)
  have HC := hid (bclone_any (some ⟨d,1 + f * 16,none⟩) 16 16 _ _ w (by omega) (by omega) (body_sl hb.hd h.good f (by omega)))
  have hfz : (f : Int) < 32 := by omega
  clear h hb hu hs
  go_enter Tryz.func97,Tryz.ntmps97
  go_wp2_with (first
   | (go_at_call 148;(with_reducible refine HU.out.mono ?_);rintro e w' ⟨rfl,rfl⟩)
   | (go_at_call 80;(with_reducible refine HC.out.mono ?_);rintro e w1 ⟨g1,c1,rfl,hb,ho,hg⟩;have HO := hid ho;have HB := hid hb;have HG := hid hg;clear hb ho hg))
  go_ret
  refine ⟨_,rfl,?_,HG.out⟩
  rw [if_pos HE.out,Int.toNat_natCast]
  exact .inr ⟨g1,c1,rfl,HO.out,HB.out⟩
theorem body_good (h : ArAt w G d a) (k : Int) (hk : a.used k = true) : Calls Tryz.prog 97 #[.pointer (some ⟨d,0,none⟩),.int .i64 k] w (CloneOf w 5 1 16 (bcell (a.B k.toNat))) := by
 refine (body_any h k).mono fun e w' ⟨v,he,ho,hg⟩ => ?_
 rw [if_pos hk] at ho
 obtain ⟨g1,c1,rfl,ho,hb⟩ := ho.form (by omega)
 exact ⟨g1,c1,he,hb,ho,hg⟩
theorem splice_get {b zs : List Int} {o j : Nat} (hb : b.length = 16) (ho : o + zs.length ≤ 16) (hj : j < 16) : (ArM.splice b o zs).getD j 0 = if o ≤ j ∧ j < o + zs.length then zs.getD (j - o) 0 else b.getD j 0 := by
 unfold ArM.splice
 simp only [List.getD_eq_getElem?_getD]
 by_cases e1 : j < o
 ·rw [if_neg (by omega),List.getElem?_append_left (by rw [List.length_take];omega),List.getElem?_take,if_pos e1]
 ·rw [List.getElem?_append_right (by rw [List.length_take];omega),List.length_take,show min o b.length = o by omega]
  by_cases e2 : j < o + zs.length
  ·rw [if_pos ⟨by omega,e2⟩,List.getElem?_append_left (by omega)]
  ·rw [if_neg (by omega),List.getElem?_append_right (by omega),List.getElem?_drop,show o + zs.length + (j - o - zs.length) = j by omega]
theorem acell_set (v pl pt : Value) {B : Nat → List Int} {f o : Nat} {zs : List Int} (hf : f < 32) (hb : ∀ x,(B x).length = 16) (ho : o + zs.length ≤ 16) (i : Nat) (hi : i < 515) : laid (acell v B pl pt) (1 + f * 16 + o) zs.length (bcell zs) i = acell v (upd B f (ArM.splice (B f) o zs)) pl pt i := by
 by_cases h0 : i = 0
 ·subst h0
  unfold laid
  rw [if_neg (by omega)]
  rfl
 ·by_cases h1 : i ≤ 512
  ·obtain ⟨p,j,hp,hj,rfl⟩ : ∃ p j,p < 32 ∧ j < 16 ∧ i = 1 + p * 16 + j := ⟨(i - 1) / 16,(i - 1) % 16,by omega,by omega,by omega⟩
   rw [acell_b _ _ _ _ _ _ hp hj]
   unfold laid
   rw [acell_b _ _ _ _ _ _ hp hj]
   by_cases e : p = f
   ·subst e
    rw [upd_same,splice_get (hb p) ho hj]
    by_cases e2 : o ≤ j ∧ j < o + zs.length
    ·rw [if_pos e2,if_pos (by omega)]
     unfold bcell
     rw [show 1 + p * 16 + j - (1 + p * 16 + o) = j - o by omega]
    ·rw [if_neg e2,if_neg (by omega)]
   ·rw [upd_other _ _ e,if_neg (by omega)]
  ·unfold laid acell
   rw [if_neg (by omega),if_neg h0,if_neg h1,if_neg h0,if_neg h1]
theorem set_bad (h : ArAt w G d a) (k off : Int) (v : Value) (hk : a.used k = false) : Calls Tryz.prog 98 #[.pointer (some ⟨d,0,none⟩),.int .i64 k,.int .i64 off,v] w fun e w' => e = .returned (.int .i64 2) ∧ w = w' := by
 have HU := hid (used_bad h k hk)
 clear h hk
 go_enter Tryz.func98,Tryz.ntmps98
 go_wp2_with (go_at_call 148;(with_reducible refine HU.out.mono ?_);rintro e w' ⟨rfl,rfl⟩)
 go_ret
 exact ⟨rfl,rfl⟩
theorem copy_body {v pl pt : Value} (h : Row w d 515 (acell v a.B pl pt)) (hb : ∀ x,(a.B x).length = 16) (f : Nat) (hf : f < 32) (o n c B : Nat) (A : Option Addr) (zs : List Int) (hs : Sl w B .u8 A n zs) (ho : o + n ≤ 16) :
  ∃ w',(∀ ty,(Builtin.copy_ #[22,22] ty #[.slice (some (if 16 = o then ⟨d,1 + f * 16,none⟩ else ⟨d,1 + f * 16 + o,none⟩)) (16 - o) (16 - o),.slice A n c]).run Tryz.prog w = .ok (.int .i64 (n : Int)) w') ∧ Row w' d 515 (acell v (upd a.B f (ArM.splice (a.B f) o zs)) pl pt) ∧ Kept (· = d) w w' := by
 have hl := hs.len
 rcases Nat.eq_zero_or_pos n with h0 | h0
 ·refine ⟨w,fun ty => ?_,h.congr fun i hi => ?_,Kept.refl _ _⟩
  ·subst h0
   exact run_copy_none w 22 22 ty 5 _ A _ _ 0 c Tryz.underlying22 sizeU8 (by simp)
  ·rw [← acell_set v pl pt hf hb (by omega) i hi]
   unfold laid
   rw [if_neg (by omega)]
 ·obtain ⟨b,off,rfl,_,hc⟩ := hs.at_ h0
  rw [if_neg (by omega)]
  obtain ⟨w',h1,h2,h3⟩ := copy_row (P := Tryz.prog) (w := w) 22 22 5 Tryz.underlying22 sizeU8 h (1 + f * 16 + o) (16 - o) ⟨b,off,none⟩ n (m := n) (u := bcell zs) (by simp only [Nat.min_def];split <;> omega) (by omega) (fun j hj => by rw [add_off,hc j hj];rfl) (fun _ _ => rfl)
  refine ⟨w',fun ty => h1 ty _ _,h2.congr fun i hi => ?_,h3⟩
  rw [← hl]
  exact acell_set v pl pt hf hb (by omega) i hi
theorem slice_body (d f o : Nat) (ho : o ≤ 16) (w : World) : (Instr.sliceAt 122 (.pointer (some ⟨d,1 + f * 16,none⟩)) (some (.int .i64 (o : Int))) none none).run Tryz.prog w = .ok (.slice (some (if 16 = o then ⟨d,1 + f * 16,none⟩ else ⟨d,1 + f * 16 + o,none⟩)) (16 - o) (16 - o)) w := by
 have hal : Tryz.prog.arrayLen 122 = 16 := by kernel_rfl
 have hel : Tryz.prog.elem 122 = 5 := by kernel_rfl
 obtain ⟨i0,hi,hz0,hz1,hz2⟩ := info_parts infoU8
 have := run_sliceAt_array_l (P := Tryz.prog) w 122 ⟨d,1 + f * 16,none⟩ (by rw [hal,hel];exact Tryz.underlying122) .i64 (o : Int) (by omega) (by rw [hal];omega)
 rw [this,hal,hel,Int.toNat_natCast]
 simp [slicedAt,sizeOf,typeInfo,hi,hz1,add_off]
set_option maxHeartbeats 1000000 in
theorem set_any (h : ArAt w G d a) (k off : Int) (A : Option Addr) (n c B : Nat) (zs : List Int) (hsl : Sl w B .u8 A n zs) (hn : n ≤ 1000000) : Calls Tryz.prog 98 #[.pointer (some ⟨d,0,none⟩),.int .i64 k,.int .i64 off,.slice A n c] w (APost G d w (.int .i64 (a.setC k off zs)) (a.set k off zs)) := by
 cases hu : a.used k with
 | false =>
  have e1 : a.setC k off zs = 2 := by unfold Ar.setC;rw [hu];rfl
  have e2 : a.set k off zs = a := by unfold Ar.set;rw [e1];rfl
  rw [e1,e2]
  exact (set_bad h k off _ hu).mono fun e w' ⟨h1,h2⟩ => ⟨h1,h2 ▸ h,h2 ▸ Kept.refl _ _⟩
 | true =>
  obtain ⟨f,rfl,hf,hs⟩ := used_iff.1 hu
  have HG := hid (h.good.set (f : Int) off zs)
  have hn32 := h.good.n
  obtain ⟨g,cap,dl,Dl,dt,Dt,T,hb⟩ := ArAt.big h (by omega)
  have HU := hid (used_good hb h.good.n f hf hs)
  have hl := hsl.len
  have hnz0 : (n : Int) ≤ 1000000 := by omega
  by_cases hin : 0 ≤ off ∧ off + (zs.length : Int) ≤ 16
  ·obtain ⟨o,rfl⟩ := Int.eq_ofNat_of_zero_le hin.1
   have ho : o + n ≤ 16 := by omega
   have e1 : a.setC (f : Int) (o : Int) zs = 0 := by unfold Ar.setC;rw [if_pos hu,if_pos hin]
   have e2 : a.set (f : Int) (o : Int) zs = ⟨a.n,upd a.F f ⟨(a.F f).st,(a.F f).pg,(a.F f).pn,true⟩,upd a.B f (ArM.splice (a.B f) o zs),a.Q⟩ := by unfold Ar.set;rw [if_pos e1,Int.toNat_natCast,Int.toNat_natCast]
   rw [e2] at HG
   rw [e1,e2]
   obtain ⟨w1,hcp,hr,hk⟩ := copy_body (pl := .pointer (some ⟨dl,0,none⟩)) (pt := .pointer (some ⟨dt,0,none⟩)) hb.hd h.good.b f (by omega) o n c B A zs hsl ho
   have hsa := slice_body d f o (by omega)
   have H1 := hid (hb.core.hdr hr hk)
   have HK1 := hid (hb.core.kd hk)
   have HT : Hid (Tabs T ⟨a.n,upd a.F f ⟨(a.F f).st,(a.F f).pg,(a.F f).pn,true⟩,upd a.B f (ArM.splice (a.B f) o zs),a.Q⟩) := hb.ts.turn hf Iff.rfl fun _ => rfl
   have HP := hid hb.pos
   have c0 := hb.h0
   have hfz : (f : Int) < (a.n : Int) := by omega
   have hnz : (a.n : Int) ≤ 32 := by omega
   have hoz : (o : Int) + (n : Int) ≤ 16 := by omega
   clear h hb hu hs e1 e2 hr hk hin hsl hl ho
   generalize (if 16 = o then (⟨d,1 + f * 16,none⟩ : Addr) else ⟨d,1 + f * 16 + o,none⟩) = X at *
   go_enter Tryz.func98,Tryz.ntmps98
   go_upto_region 7 with (go_at_call 148;(with_reducible refine HU.out.mono ?_);rintro e w' ⟨rfl,rfl⟩)
   clear hcp hsa c0
   have c0 := H1.out.h0
   have f0 := FR.c4 H1.out.fr hf
   have fz := H1.out.fr.frozen
   dsimp only at c0 f0
   go_wp2
   go_ret
   have hk := kept_set w1 g (f * 5 + 4) (.bool true)
   exact ⟨rfl,⟨HG.out,.inr ⟨_,_,_,_,_,_,_,(H1.out.frm (FR.set4 H1.out.fr f true) hk).big HT.out HP.out⟩⟩,HK1.out.trans (H1.out.kg hk)⟩
  ·have e1 : a.setC (f : Int) off zs = 6 := by unfold Ar.setC;rw [if_pos hu,if_neg hin]
   have e2 : a.set (f : Int) off zs = a := by unfold Ar.set;rw [e1];rfl
   rw [e1,e2]
   have HA := hid h
   have hbad : (decide (off < 0) || decide (16 - (n : Int) < off)) = true := by
    simp only [Bool.or_eq_true,decide_eq_true_eq]
    omega
   clear h hb hu hs e1 e2 hsl HG
   by_cases h0 : off < 0
   ·clear hbad hin
    go_enter Tryz.func98,Tryz.ntmps98
    go_wp2_with (go_at_call 148;(with_reducible refine HU.out.mono ?_);rintro e w' ⟨rfl,rfl⟩)
    go_ret
    exact ⟨rfl,HA.out,Kept.refl _ _⟩
   ·have h1 : 16 - (n : Int) < off := by omega
    have h0' : 0 ≤ off := by omega
    clear hbad hin h0
    go_enter Tryz.func98,Tryz.ntmps98
    go_wp2_with (go_at_call 148;(with_reducible refine HU.out.mono ?_);rintro e w' ⟨rfl,rfl⟩)
    go_ret
    exact ⟨rfl,HA.out,Kept.refl _ _⟩
end
end ArB
namespace SumC
open Go.ChangeShapes Go.WideShapes Go.ChangeAt Go.RowKit
open SumM Mem
theorem u32_and1 (m : Nat) (h : m < 4294967296) : bits .and .u32 (m : Int) 1 = ((m % 2 : Nat) : Int) := by
 have := u32_and_nat m 1 h (by omega)
 rw [Nat.and_one_is_mod] at this
 exact this
theorem u32_fold (m : Nat) (h : m < 4294967296) : bits .xor .u32 ((m : Int) / 2) 2748603157 = ((m / 2 ^^^ 2748603157 : Nat) : Int) := by
 have := u32_xor_nat (m / 2) 2748603157 (by omega) (by omega)
 exact this
theorem turn_any (s c : Int) (hs : U32 s) (hc : U8 c) (w : World) :
  Calls Tryz.prog 192 #[.int .u32 s,.int .u8 c] w fun e w' => e = .returned (.int .u32 (turnI s c)) ∧ w = w' := by
 obtain ⟨h1,h2⟩ := hs
 obtain ⟨h3,h4⟩ := hc
 have hN : s.toNat ^^^ c.toNat < 4294967296 := xor_lt (by omega) (by omega)
 have HX := hid (u32_xor s c h1 h2 h3 (by omega))
 have HT : Hid (turnI s c = ((steps 8 (s.toNat ^^^ c.toNat) : Nat) : Int)) := rfl
 generalize s.toNat ^^^ c.toNat = N at hN HX HT
 generalize turnI s c = R at HT
 go_enter Tryz.func192,Tryz.ntmps192
 go_wp2
 go_step3
 go_wp2
 go_step3
 go_wp2
 go_loopg [0,5] 8 (fun g v i wr => g ≤ 8 ∧ v = .int .u32 ((steps (8 - g) N : Nat) : Int) ∧ i = .int .i64 (g : Int) ∧ w = wr)
 case atStart => exact ⟨Nat.le_refl _,by rw [HX.out];rfl,rfl,rfl⟩
 case round =>
  obtain ⟨hg,rfl,rfl,rfl⟩ := hrel
  have hm := steps_lt (8 - gk) hN
  by_cases h0 : gk = 0
  ·subst h0
   go_wp2
   rw [Exit.noGoto_ret]
   go_ret
   exact ⟨by rw [HT.out];rfl,rfl⟩
  ·have hg0 : 0 < gk := by omega
   have HS : Hid (steps (8 - (gk - 1)) N = SumM.step (steps (8 - gk) N)) := by
    have e : 8 - (gk - 1) = (8 - gk) + 1 := by omega
    rw [e];rfl
   generalize steps (8 - gk) N = m at hm HS
   have HG : Hid (((gk : Int) - 1) = ((gk - 1 : Nat) : Int)) := by show _ = _;omega
   rcases Nat.mod_two_eq_zero_or_one m with e | e
   ·have ha : bits .and .u32 (m : Int) 1 = 0 := by rw [u32_and1 m hm,e];rfl
    have HE := hid (step_even e)
    clear e
    go_wp2
    go_roundg (gk - 1)
    case measure => omega
    case rel => exact ⟨by omega,by rw [HS.out,HE.out];rfl,by rw [HG.out],rfl⟩
   ·have ha : bits .and .u32 (m : Int) 1 = 1 := by rw [u32_and1 m hm,e];rfl
    have HE := hid (step_odd e)
    have HF := hid (u32_fold m hm)
    clear e
    go_wp2
    go_roundg (gk - 1)
    case measure => omega
    case rel => exact ⟨by omega,by rw [HS.out,HE.out,HF.out],by rw [HG.out],rfl⟩
theorem refTurn_any (s c : Int) (hs : U32 s) (hc : U8 c) (w : World) :
  Calls Tryz.prog 216 #[.int .u32 s,.int .u8 c] w fun e w' => e = .returned (.int .u32 (turnI s c)) ∧ w = w' := by
 obtain ⟨h1,h2⟩ := hs
 obtain ⟨h3,h4⟩ := hc
 have hN : s.toNat ^^^ c.toNat < 4294967296 := xor_lt (by omega) (by omega)
 have HX := hid (u32_xor s c h1 h2 h3 (by omega))
 have HT : Hid (turnI s c = ((steps 8 (s.toNat ^^^ c.toNat) : Nat) : Int)) := rfl
 generalize s.toNat ^^^ c.toNat = N at hN HX HT
 generalize turnI s c = R at HT
 go_enter Tryz.func216,Tryz.ntmps216
 go_wp2
 go_loopg [0,5] 8 (fun g v i wr => ∃ j : Nat,j + g = 8 ∧ v = .int .u32 ((steps j N : Nat) : Int) ∧ i = .int .i64 (j : Int) ∧ w = wr)
 case atStart => exact ⟨0,rfl,by rw [HX.out];rfl,rfl,rfl⟩
 case round =>
  obtain ⟨j,hg,rfl,rfl,rfl⟩ := hrel
  have hm := steps_lt j hN
  by_cases h0 : j < 8
  ·have HS : Hid (steps (j + 1) N = SumM.step (steps j N)) := rfl
   generalize steps j N = m at hm HS
   rcases Nat.mod_two_eq_zero_or_one m with e | e
   ·have ha : bits .and .u32 (m : Int) 1 = 0 := by rw [u32_and1 m hm,e];rfl
    have HE := hid (step_even e)
    have HG := hid hg
    clear e hg
    go_wp2
    go_roundg (gk - 1)
    case measure => have := HG.out;omega
    case rel => exact ⟨j + 1,by have := HG.out;omega,by rw [HS.out,HE.out];rfl,by go_num,rfl⟩
   ·have ha : bits .and .u32 (m : Int) 1 = 1 := by rw [u32_and1 m hm,e];rfl
    have HE := hid (step_odd e)
    have HF := hid (u32_fold m hm)
    have HG := hid hg
    clear e hg
    go_wp2
    go_roundg (gk - 1)
    case measure => have := HG.out;omega
    case rel => exact ⟨j + 1,by have := HG.out;omega,by rw [HS.out,HE.out,HF.out],by go_num,rfl⟩
  ·obtain rfl : j = 8 := by omega
   go_wp2
   go_ret
   exact ⟨by rw [HT.out];rfl,rfl⟩
theorem more_any (s : Int) (A : Option Addr) (n cap B : Nat) (zs : List Int) (w : World) (hs : U32 s) (hz : Bytes zs) (hn : n ≤ maxLen) (h : Sl w B .u8 A n zs) :
  Calls Tryz.prog 173 #[.int .u32 s,.slice A n cap] w fun e w' => e = .returned (.int .u32 (moreI s zs)) ∧ w = w' := by
 unfold maxLen at hn
 have hl := h.len
 go_enter Tryz.func173,Tryz.ntmps173
 go_wp2
 go_loopg [0,9] n (fun g v i wr => ∃ j : Nat,j + g = n ∧ v = .int .u32 (moreI s (zs.take j)) ∧ i = .int .i64 (j : Int) ∧ w = wr)
 case atStart => exact ⟨0,by omega,by simp [moreI_nil],rfl,rfl⟩
 case round =>
  obtain ⟨j,hg,rfl,rfl,rfl⟩ := hrel
  have hb1 : Bytes (zs.take j) := fun d hd => hz d (List.mem_of_mem_take hd)
  have hm := moreI_u32 hs hb1
  by_cases h0 : j < n
  ·obtain ⟨b,off,rfl,hb,hcell⟩ := h.at_ (by omega)
   have hc := hcell j h0
   have HS := hid (moreI_snoc (l := zs) s j (by omega))
   have hd : U8 (zs.getD j 0) := by
    rw [List.getD_eq_getElem?_getD,List.getElem?_eq_getElem (by omega)]
    exact hz _ (List.getElem_mem _)
   have HG := hid hg
   have HL := hid hl
   have HC := hid hcell
   clear hg hl hcell
   generalize zs.getD j 0 = d at hc hd HS
   generalize moreI s (zs.take j) = m at hm HS
   go_wp2_with (go_at_call 192;(with_reducible refine (turn_any _ _ hm hd _).mono ?_);rintro e w' ⟨rfl,rfl⟩)
   go_roundg (gk - 1)
   case measure => have := HG.out;omega
   case rel => exact ⟨j + 1,by have := HG.out;omega,by rw [HS.out],by go_num,rfl⟩
  ·have hz1 : zs.take j = zs := List.take_of_length_le (by omega)
   rw [hz1] at hm ⊢
   go_wp2
   go_ret
   exact ⟨rfl,rfl⟩
def strNums (s : ByteArray) : List Int := s.data.toList.map fun b => (b.toNat : Int)
theorem strNums_len (s : ByteArray) : (strNums s).length = s.size := by unfold strNums;rw [List.length_map,Array.length_toList];rfl
theorem strNums_bytes (s : ByteArray) : Bytes (strNums s) := by
 intro c hc
 obtain ⟨b,_,rfl⟩ := List.mem_map.1 hc
 have := b.toNat_lt
 exact ⟨by omega,by omega⟩
theorem strNums_at (s : ByteArray) (k : Nat) (h : k < s.size) : (strNums s).getD k 0 = (s[k].toNat : Int) := by
 have h' : k < s.data.toList.length := by rw [Array.length_toList];exact h
 unfold strNums
 rw [List.getD_eq_getElem?_getD,List.getElem?_map,List.getElem?_eq_getElem h']
 rfl
theorem strNums_ofNums {zs : List Int} (h : Bytes zs) : strNums (strOfNums zs) = zs := by
 unfold strNums
 rw [strOfNums_data,List.map_map]
 conv => rhs;rw [← List.map_id zs]
 refine List.map_congr_left fun c hc => ?_
 obtain ⟨h1,h2⟩ := h c hc
 simp
 omega
theorem refMore_any (s : Int) (t : ByteArray) (w : World) (hs : U32 s) (hn : t.size ≤ maxLen) :
  Calls Tryz.prog 207 #[.int .u32 s,.string t] w fun e w' => e = .returned (.int .u32 (moreI s (strNums t))) ∧ w = w' := by
 unfold maxLen at hn
 have hz := strNums_bytes t
 have hl := strNums_len t
 go_enter Tryz.func207,Tryz.ntmps207
 go_wp2
 go_loopg [0,5] t.size (fun g v i wr => ∃ j : Nat,j + g = t.size ∧ v = .int .u32 (moreI s ((strNums t).take j)) ∧ i = .int .i64 (j : Int) ∧ w = wr)
 case atStart => exact ⟨0,by omega,by simp [moreI_nil],rfl,rfl⟩
 case round =>
  obtain ⟨j,hg,rfl,rfl,rfl⟩ := hrel
  have hm := moreI_u32 (l := (strNums t).take j) hs fun d hd => hz d (List.mem_of_mem_take hd)
  by_cases h0 : j < t.size
  ·have HS := hid (moreI_snoc (l := strNums t) s j (by omega))
   rw [strNums_at t j h0] at HS
   have hd : U8 (t[j].toNat : Int) := by
    have := t[j].toNat_lt
    exact ⟨by omega,by omega⟩
   have HG := hid hg
   have HL := hid hl
   clear hg hl
   generalize moreI s ((strNums t).take j) = m at hm HS
   go_wp2_with (go_at_call 216;(with_reducible refine (refTurn_any _ _ hm hd _).mono ?_);rintro e w' ⟨rfl,rfl⟩)
   go_roundg (gk - 1)
   case measure => have := HG.out;omega
   case rel => exact ⟨j + 1,by have := HG.out;omega,by rw [HS.out],by go_num,rfl⟩
  ·have hz1 : (strNums t).take j = strNums t := List.take_of_length_le (by omega)
   rw [hz1] at hm ⊢
   go_wp2
   go_ret
   exact ⟨rfl,rfl⟩
theorem u32_not (m : Int) (h : U32 m) : bits .xor .u32 4294967295 m = 4294967295 - m := by
 obtain ⟨h1,h2⟩ := h
 obtain ⟨a,rfl⟩ := Int.eq_ofNat_of_zero_le h1
 have e1 : BitVec.ofInt 32 4294967295 = BitVec.allOnes 32 := by decide
 have hx : 4294967295 - a < 4294967296 := by omega
 show IntKind.u32.wrap ((BitVec.ofInt 32 4294967295 ^^^ BitVec.ofInt 32 (a : Int)).toNat : Int) = _
 rw [e1,BitVec.allOnes_xor,BitVec.toNat_not,ofInt_u32 a (by omega),IntKind.wrap_u32']
 omega
theorem of_any (A : Option Addr) (n cap B : Nat) (zs : List Int) (w : World) (hz : Bytes zs) (hn : n ≤ maxLen) (h : Sl w B .u8 A n zs) :
  Calls Tryz.prog 137 #[.slice A n cap] w fun e w' => e = .returned (.int .u32 (ofI zs)) ∧ w = w' := by
 have hm := moreI_u32 (s := 4294967295) (l := zs) ⟨by omega,by omega⟩ hz
 have HN := hid (u32_not _ hm)
 have HE : Hid (ofI zs = 4294967295 - moreI 4294967295 zs) := rfl
 have HC := fun w1 (h1 : Sl w1 B .u8 A n zs) => more_any 4294967295 A n cap B zs w1 ⟨by omega,by omega⟩ hz hn h1
 generalize moreI 4294967295 zs = m at hm HN HE HC
 go_enter Tryz.func137,Tryz.ntmps137
 go_wp2_with (go_at_call 173;(with_reducible refine (HC _ h).mono ?_);rintro e w' ⟨rfl,rfl⟩)
 go_ret
 exact ⟨by rw [HE.out,← HN.out];rfl,rfl⟩
theorem refOf_any (t : ByteArray) (w : World) (hn : t.size ≤ maxLen) :
  Calls Tryz.prog 190 #[.string t] w fun e w' => e = .returned (.int .u32 (ofI (strNums t))) ∧ w = w' := by
 have hm := moreI_u32 (s := 4294967295) (l := strNums t) ⟨by omega,by omega⟩ (strNums_bytes t)
 have HN := hid (u32_not _ hm)
 have HE : Hid (ofI (strNums t) = 4294967295 - moreI 4294967295 (strNums t)) := rfl
 have HC := fun w1 => refMore_any 4294967295 t w1 ⟨by omega,by omega⟩ hn
 generalize moreI 4294967295 (strNums t) = m at hm HN HE HC
 go_enter Tryz.func190,Tryz.ntmps190
 go_wp2_with (go_at_call 207;(with_reducible refine (HC _).mono ?_);rintro e w' ⟨rfl,rfl⟩)
 go_ret
 exact ⟨by rw [HE.out,← HN.out];rfl,rfl⟩
end SumC
namespace PageC
open Go.ChangeShapes Go.WideShapes Go.ChangeAt Go.RowKit
open SumM Mem SumC Blk PageM
theorem infoU8 : (Tryz.prog.info? 5).map (fun i => (i.zero,i.size,i.bytes)) = some (some (.int .u8 0),1,1) := by kernel_rfl
theorem sizeU8 : (Tryz.prog.info? 5).map (·.size) = some 1 := by kernel_rfl
theorem isPage_any (id : Int) (w : World) (hlo : -9223372036854775808 ≤ id) (hhi : id < 9223372036854775808) :
  Calls Tryz.prog 81 #[.int .i64 id] w fun e w' => e = .returned (.bool (isPage id)) ∧ w = w' := by
 have HP : Hid (isPage id = (decide (0 ≤ id) && decide (id < 48))) := rfl
 by_cases h0 : 0 ≤ id
 ·by_cases h1 : id < 48
  ·go_enter Tryz.func81,Tryz.ntmps81
   go_wp2
   go_ret
   exact ⟨by rw [HP.out];simp [h0,h1],rfl⟩
  ·have h1' : 48 ≤ id := by omega
   go_enter Tryz.func81,Tryz.ntmps81
   go_wp2
   go_ret
   exact ⟨by rw [HP.out];simp [h1],rfl⟩
 ·have h0' : id < 0 := by omega
  go_enter Tryz.func81,Tryz.ntmps81
  go_wp2
  go_ret
  exact ⟨by rw [HP.out,decide_eq_false (by omega)];rfl,rfl⟩
def FreshBytes (w : World) (n : Nat) (zs : List Int) (e : Ending) (w' : World) : Prop :=
 ∃ g,e = .returned (.slice (some ⟨g,0,none⟩) n n) ∧ w.heap.size ≤ g ∧ NBlk w' g 5 .u8 zs ∧ Grow w w'
theorem blank_any (w : World) : Calls Tryz.prog 84 #[] w (FreshBytes w 24 (zeros 24)) := by
 have hmk := fun w => run_make_row' (P := Tryz.prog) 22 5 (.int .u8 0) 1 Tryz.underlying22 infoU8 rfl .i64 .i64 24 (by omega) (by omega) w
 simp only [Int.cast_ofNat_Int] at hmk
 go_enter Tryz.func84,Tryz.ntmps84
 go_wp2
 go_ret
 exact ⟨w.heap.size,rfl,Nat.le_refl _,NBlk.made w _ _ 24,(Kept.refl _ _).alloc _⟩
theorem zeros_at {w : World} {g n : Nat} (h : NBlk w g 5 .u8 (zeros n)) : ∀ j,j < n → w.cell? ⟨g,j,none⟩ = some (.int .u8 0) := fun j hj => by
 rw [NBlk.at_ h (by rw [zeros_len];exact hj)]
 simp [zeros,List.getD_eq_getElem?_getD,hj]
def SealGood (w : World) (id : Int) (zs : List Int) (e : Ending) (w' : World) : Prop :=
 ∃ g,e = .returned (.tuple #[.slice (some ⟨g,0,none⟩) 24 24,.int .i64 0]) ∧ w.heap.size ≤ g ∧ NBlk w' g 5 .u8 (sealI id zs) ∧ Grow w w'
set_option maxHeartbeats 1000000 in
theorem seal_good (id : Int) (A : Option Addr) (cap B : Nat) (zs : List Int) (w : World) (h0 : 0 ≤ id) (h1 : id < 48) (hz : Bytes zs) (h : Sl w B .u8 A 16 zs) (hB : B ≤ w.heap.size) :
  Calls Tryz.prog 82 #[.int .i64 id,.slice A 16 cap] w (SealGood w id zs) := by
 have HP := hid (isPage_any id w (by omega) (by omega))
 have hp : isPage id = true := by simp [isPage,h0,h1]
 rw [hp] at HP
 clear hp
 obtain ⟨b,off,rfl,hb,hcell⟩ := h.at_ (by omega)
 have HC := hid hcell
 have HS := hid h
 clear hcell h
 go_enter Tryz.func82,Tryz.ntmps82
 go_upto_region 7 with (first
  | (go_at_call 81;(with_reducible refine HP.out.mono ?_);rintro e w' ⟨rfl,rfl⟩)
  | (go_at_call 84;(with_reducible refine (blank_any _).mono ?_);rintro e w1 ⟨g,rfl,hg,hblk,hgr⟩;have hc := zeros_at hblk;have hf := Blk.frozenAll hblk;have HBLK := hid hblk;have HGR := hid hgr;clear hblk hgr))
 have hblk := HBLK.out
 have hgr := HGR.out
 have hb4 := (((NBlk.set hblk 4 (id + 1)).set 5 ((id + 1) / 256)).set 6 90).set 7 165
 have hgr4 := (((hgr.setCell (p := ⟨g,4,none⟩) (fun h => absurd h (by show ¬ g < _;omega)) (.int .u8 (id + 1))).setCell (p := ⟨g,5,none⟩) (fun h => absurd h (by show ¬ g < _;omega)) (.int .u8 ((id + 1) / 256))).setCell (p := ⟨g,6,none⟩) (fun h => absurd h (by show ¬ g < _;omega)) (.int .u8 90)).setCell (p := ⟨g,7,none⟩) (fun h => absurd h (by show ¬ g < _;omega)) (.int .u8 165)
 clear hc hf hblk hgr HBLK HGR
 generalize ((((w1.setCell { block := g,off := 4 } (Value.int IntKind.u8 (id + 1))).setCell { block := g,off := 5 } (Value.int IntKind.u8 ((id + 1) / 256))).setCell { block := g,off := 6 } (Value.int IntKind.u8 90)).setCell { block := g,off := 7 } (Value.int IntKind.u8 165)) = w2 at hb4 hgr4 ⊢
 have HB4 := hid hb4
 have HG4 := hid hgr4
 clear hb4 hgr4
 have hsrc : Sl w2 B .u8 (some ⟨b,off,none⟩) 16 zs := Sl.kept HS.out HG4.out hB fun _ _ x => x
 obtain ⟨w3,hcopy,hb5,hk5⟩ := run_copy (P := Tryz.prog) 22 22 3 5 Tryz.underlying22 sizeU8 HB4.out 8 16 16 cap hsrc 16 (by decide) (by simp [zeros])
 have HG5 : Hid (Grow w w3) := HG4.out.then hk5 fun k hk e => by omega
 rw [List.take_of_length_le (Nat.le_of_eq hsrc.len)] at hb5
 have hq : (id + 1) / 256 = 0 := by omega
 have e5 : (((((zeros 24).set 4 (id + 1)).set 5 ((id + 1) / 256)).set 6 90).set 7 165).take 8 = [0,0,0,0] ++ hdr id := by rw [hq];rfl
 have e6 : (((((zeros 24).set 4 (id + 1)).set 5 ((id + 1) / 256)).set 6 90).set 7 165).drop (8 + 16) = [] := rfl
 rw [e5,e6,List.append_nil,List.append_assoc] at hb5
 have hlz : zs.length = 16 := hsrc.len
 have hb6 : NBlk w3 g 5 .u8 ([0,0,0,0] ++ tail id zs) := hb5
 have ht := tail_bytes h0 h1 hz
 have htl : (tail id zs).length = 20 := by rw [tail_len];omega
 have hs4 : Sl w3 w3.heap.size .u8 (some ⟨g,4,none⟩) 20 (tail id zs) := by
  have := Sl.of_blk (B := w3.heap.size) hb6 4 20 (by simp [htl]) (Blk.lt hb6)
  have e : (([0,0,0,0] ++ tail id zs).drop 4).take 20 = tail id zs := List.take_of_length_le (Nat.le_of_eq htl)
  rwa [e] at this
 have hc : ∀ j,j < 24 → w3.cell? ⟨g,j,none⟩ = some (.int .u8 (([0,0,0,0] ++ tail id zs).getD j 0)) := fun j hj => NBlk.at_ hb6 (by simp [htl];omega)
 have hf := Blk.frozenAll hb6
 have HO := hid (of_any (some ⟨g,4,none⟩) 20 20 _ (tail id zs) w3 ht (by unfold maxLen;omega) hs4)
 have hu := ofI_u32 ht
 have HB6 := hid hb6
 have HT : Hid (sealI id zs = le4 (ofI (tail id zs)) ++ tail id zs) := rfl
 clear hb5 hk5 e5 e6 hb6 hs4 hsrc HB4 HG4 HP HC HS hq hlz htl
 generalize ofI (tail id zs) = s at hu HO HT
 obtain ⟨hu0,hu1⟩ := hu
 generalize tail id zs = ts at *
 go_wp2_with (go_at_call 137;(with_reducible refine HO.out.mono ?_);rintro e w' ⟨rfl,rfl⟩)
 go_ret2
 have hl : s / 16777216 = s / 16777216 % 256 := by omega
 have hb7 := (((NBlk.set HB6.out 0 (s % 256)).set 1 (s / 256 % 256)).set 2 (s / 65536 % 256)).set 3 (s / 16777216)
 refine ⟨g,rfl,hg,?_,(((HG5.out.setCell (p := ⟨g,0,none⟩) (fun h => absurd h (by show ¬ g < _;omega)) _).setCell (p := ⟨g,1,none⟩) (fun h => absurd h (by show ¬ g < _;omega)) _).setCell (p := ⟨g,2,none⟩) (fun h => absurd h (by show ¬ g < _;omega)) _).setCell (p := ⟨g,3,none⟩) (fun h => absurd h (by show ¬ g < _;omega)) _⟩
 rw [HT.out,le4,← hl]
 exact hb7
theorem take_snoc' (l : List Int) (k : Nat) (h : k < l.length) : l.take (k + 1) = l.take k ++ [l.getD k 0] := by
 rw [List.take_succ_eq_append_getElem h,List.getD_eq_getElem?_getD,List.getElem?_eq_getElem h];rfl
def whichI (zs x y : List Int) : Int := if x = zs then 0 else if y = zs then 1 else -1
set_option maxHeartbeats 1000000 in
theorem which_any (A A0 A1 : Option Addr) (n cap c0 c1 gs : Nat) (B : Nat) (zs x y : List Int) (w : World) (hn : n ≤ maxLen)
  (h : Sl w B .u8 A n zs) (hx : Sl w B .u8 A0 n x) (hy : Sl w B .u8 A1 n y) (g0 : w.cell? ⟨gs,0,none⟩ = some (.slice A0 n c0)) (g1 : w.cell? ⟨gs,1,none⟩ = some (.slice A1 n c1)) :
  Calls Tryz.prog 83 #[.slice A n cap,.slice (some ⟨gs,0,none⟩) 2 2] w fun e w' => e = .returned (.int .i64 (whichI zs x y)) ∧ w = w' := by
 unfold maxLen at hn
 have HZ := hid h
 have HX := hid hx
 have HY := hid hy
 clear h hx hy
 go_enter Tryz.func83,Tryz.ntmps83
 go_wp2
 go_step3
 go_wp2
 go_step3
 go_wp2
 go_loopg [11] 2 (fun g i wr => ∃ j : Nat,j + g = 2 ∧ i = .int .i64 (j : Int) ∧ (1 ≤ j → x ≠ zs) ∧ (2 ≤ j → y ≠ zs) ∧ w = wr)
 case atStart => exact ⟨0,rfl,rfl,fun h => absurd h (by omega),fun h => absurd h (by omega),rfl⟩
 case round =>
  obtain ⟨j,hg,rfl,q1,q2,rfl⟩ := hrel
  have Q1 := hid q1
  have Q2 := hid q2
  clear q1 q2
  match j,hg with
  | 0,hg =>
   obtain rfl : gk = 2 := by omega
   clear hg
   simp only [Int.cast_ofNat_Int]
   go_wp2
   go_loopg [18] n (fun g i wr => ∃ q : Nat,q + g = n ∧ i = .int .i64 (q : Int) ∧ x.take q = zs.take q ∧ w = wr)
   case atStart => exact ⟨0,by omega,rfl,rfl,rfl⟩
   case round =>
    obtain ⟨q,hq,rfl,ht,rfl⟩ := hrel
    have lx := HX.out.len
    have lz := HZ.out.len
    by_cases hlt : q < n
    ·obtain ⟨b,off,rfl,_,hcell⟩ := HZ.out.at_ (by omega)
     obtain ⟨b',off',rfl,_,hcell'⟩ := HX.out.at_ (by omega)
     have hc := hcell q hlt
     have hc' := hcell' q hlt
     have HSX := hid (take_snoc' x q (by omega))
     have HSZ := hid (take_snoc' zs q (by omega))
     have HQ := hid hq
     have HT := hid ht
     have HM : Hid (x.getD q 0 ≠ zs.getD q 0 → x ≠ zs) := fun h1 h2 => h1 (by rw [h2])
     clear hq ht hcell hcell' lx lz
     generalize x.getD q 0 = c at hc' HSX HM
     generalize zs.getD q 0 = d at hc HSZ HM
     by_cases he : c = d
     ·subst he
      go_wp2
      go_roundg (gk - 1)
      case measure => have := HQ.out;omega
      case rel => exact ⟨q + 1,by have := HQ.out;omega,by go_num,by rw [HSX.out,HSZ.out,HT.out],rfl⟩
     ·have hn' : (c != d) = true := by simpa [bne_iff_ne] using he
      go_wp2
      go_roundg 1
      case measure => omega
      case rel => exact ⟨1,by omega,by go_num,fun _ => HM.out he,fun h => absurd h (by omega),rfl⟩
    ·have e : x = zs := by
      have e1 : q = n := by omega
      rw [e1,List.take_of_length_le (by omega),List.take_of_length_le (by omega)] at ht
      exact ht
     have HW : Hid (whichI zs x y = 0) := by
      show whichI zs x y = 0
      unfold whichI
      rw [if_pos e]
     clear ht e lx lz hq
     go_wp2
     rw [Exit.noGoto_ret]
     go_ret
     exact ⟨by rw [HW.out];rfl,rfl⟩
  | 1,hg =>
   obtain rfl : gk = 1 := by omega
   clear hg
   simp only [Int.cast_ofNat_Int]
   go_wp2
   go_loopg [18] n (fun g i wr => ∃ q : Nat,q + g = n ∧ i = .int .i64 (q : Int) ∧ y.take q = zs.take q ∧ w = wr)
   case atStart => exact ⟨0,by omega,rfl,rfl,rfl⟩
   case round =>
    obtain ⟨q,hq,rfl,ht,rfl⟩ := hrel
    have lx := HY.out.len
    have lz := HZ.out.len
    by_cases hlt : q < n
    ·obtain ⟨b,off,rfl,_,hcell⟩ := HZ.out.at_ (by omega)
     obtain ⟨b',off',rfl,_,hcell'⟩ := HY.out.at_ (by omega)
     have hc := hcell q hlt
     have hc' := hcell' q hlt
     have HSX := hid (take_snoc' y q (by omega))
     have HSZ := hid (take_snoc' zs q (by omega))
     have HQ := hid hq
     have HT := hid ht
     have HM : Hid (y.getD q 0 ≠ zs.getD q 0 → y ≠ zs) := fun h1 h2 => h1 (by rw [h2])
     clear hq ht hcell hcell' lx lz
     generalize y.getD q 0 = c at hc' HSX HM
     generalize zs.getD q 0 = d at hc HSZ HM
     by_cases he : c = d
     ·subst he
      go_wp2
      go_roundg (gk - 1)
      case measure => have := HQ.out;omega
      case rel => exact ⟨q + 1,by have := HQ.out;omega,by go_num,by rw [HSX.out,HSZ.out,HT.out],rfl⟩
     ·have hn' : (c != d) = true := by simpa [bne_iff_ne] using he
      go_wp2
      go_roundg 0
      case measure => omega
      case rel => exact ⟨2,by omega,by go_num,fun _ => Q1.out (by omega),fun _ => HM.out he,rfl⟩
    ·have e : y = zs := by
      have e1 : q = n := by omega
      rw [e1,List.take_of_length_le (by omega),List.take_of_length_le (by omega)] at ht
      exact ht
     have HW : Hid (whichI zs x y = 1) := by
      show whichI zs x y = 1
      unfold whichI
      rw [if_neg (Q1.out (by omega)),if_pos e]
     clear ht e lx lz hq
     go_wp2
     rw [Exit.noGoto_ret]
     go_ret
     exact ⟨by rw [HW.out];rfl,rfl⟩
  | j + 2,hg =>
   obtain ⟨rfl,rfl⟩ : j = 0 ∧ gk = 0 := by omega
   have HW : Hid (whichI zs x y = -1) := by
    show whichI zs x y = -1
    unfold whichI
    rw [if_neg (Q1.out (by omega)),if_neg (Q2.out (by omega))]
   clear hg
   simp only [Nat.zero_add,Int.cast_ofNat_Int]
   go_wp2
   rw [Exit.noGoto_ret]
   go_ret
   exact ⟨by rw [HW.out];rfl,rfl⟩
def OpenPost (w : World) (id : Int) (zs : List Int) (e : Ending) (w' : World) : Prop :=
 ∃ A c,e = .returned (.tuple #[.slice A (openB id zs).length c,.int .i64 (openC id zs)]) ∧ (openC id zs = 0 → ∃ g,A = some ⟨g,8,none⟩ ∧ w.heap.size ≤ g ∧ NBlk w' g 5 .u8 (sealI id (openB id zs))) ∧ (openC id zs ≠ 0 → A = none ∧ c = 0) ∧ Grow w w'
set_option maxHeartbeats 1000000 in
theorem open_good (id : Int) (A : Option Addr) (cap B : Nat) (zs : List Int) (w : World) (h0 : 0 ≤ id) (h1 : id < 48) (hz : Bytes zs) (h : Sl w B .u8 A 24 zs) (hB : B ≤ w.heap.size) (hcap : 24 ≤ cap) (hcap' : cap ≤ maxLen) :
  Calls Tryz.prog 30 #[.int .i64 id,.slice A 24 cap] w (OpenPost w id zs) := by
 unfold maxLen at hcap'
 have HP := hid (isPage_any id w (by omega) (by omega))
 have hp : isPage id = true := by simp [isPage,h0,h1]
 rw [hp] at HP
 clear hp
 obtain ⟨b,off,rfl,hb,hcell⟩ := h.at_ (by omega)
 have HS := hid h
 have h8 : Sl w B .u8 (some ⟨b,off + 8,none⟩) 16 (zs.drop 8) := by
  have := h.cut (m := 8) (cap := cap) (by omega) (by omega)
  rw [if_neg (by omega)] at this
  simpa [Addr.add] using this
 have hz8 : Bytes (zs.drop 8) := fun c hc => hz c (List.mem_of_mem_drop hc)
 have H8 := hid (fun cap => seal_good id (some ⟨b,off + 8,none⟩) cap B (zs.drop 8) w h0 h1 hz8 h8 hB)
 clear hcell h h8
 go_enter Tryz.func30,Tryz.ntmps30
 go_upto_region 4 with (first
  | (go_at_call 81;(with_reducible refine HP.out.mono ?_);rintro e w' ⟨rfl,rfl⟩)
  | (go_at_call 82;(with_reducible refine (H8.out _).mono ?_);rintro e w1 ⟨g,rfl,hg,hblk,hgr⟩;have HBLK := hid hblk;have HGR := hid hgr;clear hblk hgr))
 go_wp2_with (go_at_call 84;(with_reducible refine (blank_any _).mono ?_);rintro e w2 ⟨g2,rfl,hg2,hblk2,hgr2⟩;have HBLK2 := hid hblk2;have HGR2 := hid hgr2;clear hblk2 hgr2)
 have hgz : g < w1.heap.size := Blk.lt HBLK.out
 have hg2z : g2 < w2.heap.size := Blk.lt HBLK2.out
 have hzw : w.heap.size ≤ w1.heap.size := HGR.out.size
 have hzw2 : w1.heap.size ≤ w2.heap.size := HGR2.out.size
 have HG3 : Hid (Grow w (w2.alloc (.cells #[.slice (some ⟨g2,0,none⟩) 24 24,.slice (some ⟨g,0,none⟩) 24 24] 22))) := (HGR.out.trans HGR2.out).alloc _
 have HB3 : Hid (NBlk (w2.alloc (.cells #[.slice (some ⟨g2,0,none⟩) 24 24,.slice (some ⟨g,0,none⟩) 24 24] 22)) g 5 .u8 (sealI id (zs.drop 8))) := (Blk.grow HBLK.out HGR2.out).alloc _
 have HZ3 : Hid (NBlk (w2.alloc (.cells #[.slice (some ⟨g2,0,none⟩) 24 24,.slice (some ⟨g,0,none⟩) 24 24] 22)) g2 5 .u8 (zeros 24)) := Blk.alloc HBLK2.out _
 have HL3 : Hid (Blk (w2.alloc (.cells #[.slice (some ⟨g2,0,none⟩) 24 24,.slice (some ⟨g,0,none⟩) 24 24] 22)) w2.heap.size 22 [.slice (some ⟨g2,0,none⟩) 24 24,.slice (some ⟨g,0,none⟩) 24 24]) := Blk.new w2 _ [.slice (some ⟨g2,0,none⟩) 24 24,.slice (some ⟨g,0,none⟩) 24 24]
 generalize w2.alloc (.cells #[.slice (some ⟨g2,0,none⟩) 24 24,.slice (some ⟨g,0,none⟩) 24 24] 22) = w3 at HG3 HB3 HZ3 HL3 ⊢
 have hw3 : B ≤ w3.heap.size := Nat.le_trans hB HG3.out.size
 have hl : zs.length = 24 := HS.out.len
 have hS3 : Sl w3 w3.heap.size .u8 (some ⟨b,off,none⟩) 24 zs := (Sl.kept HS.out HG3.out hB fun _ _ x => x).more hw3
 have HW := which_any (some ⟨b,off,none⟩) (some ⟨g2,0,none⟩) (some ⟨g,0,none⟩) 24 cap 24 24 w2.heap.size w3.heap.size zs (zeros 24) (sealI id (zs.drop 8)) w3 (by unfold maxLen;omega) hS3
  (Sl.of_blk0 HZ3.out (by simp [zeros]) (Blk.lt HZ3.out)) (Sl.of_blk0 HB3.out (by rw [seal_len];simp;omega) (Blk.lt HB3.out)) (by rw [Blk.cell HL3.out];rfl) (by rw [Blk.cell HL3.out];rfl)
 refine HW.mono ?_
 clear HW
 rintro e w' ⟨rfl,rfl⟩
 have hoc := openC_good h0 h1 hl
 have hob : openB id zs = if openC id zs = 0 then zs.drop 8 else [] := rfl
 have hwi : whichI zs (zeros 24) (sealI id (zs.drop 8)) = if zeros 24 = zs then 0 else if sealI id (zs.drop 8) = zs then 1 else -1 := rfl
 have HG := HG3
 have HBX := HB3
 clear hS3 HZ3 HL3 HGR2 HBLK2 HBLK HGR H8 HS HP
 by_cases e1 : zs = zeros 24
 ·rw [if_pos e1] at hoc
  rw [if_pos e1.symm] at hwi
  rw [hoc,if_neg (by decide)] at hob
  have HOC := hid hoc
  have HOB := hid hob
  rw [hwi]
  clear hoc hob hwi hl e1
  go_wp2
  go_ret2
  exact ⟨none,0,by rw [HOC.out,HOB.out];rfl,fun h => absurd h (by rw [HOC.out];decide),fun _ => ⟨rfl,rfl⟩,HG.out⟩
 ·by_cases e2 : zs = sealI id (zs.drop 8)
  ·rw [if_neg e1,if_pos e2] at hoc
   rw [if_neg (fun h => e1 h.symm),if_pos e2.symm] at hwi
   rw [hoc,if_pos rfl] at hob
   have HOC := hid hoc
   have HOB := hid hob
   rw [hwi]
   have hl8 : (zs.drop 8).length = 16 := by rw [List.length_drop,hl]
   have HL8 := hid hl8
   clear hoc hob hwi hl hl8 e1 e2
   go_wp2
   go_ret2
   exact ⟨some ⟨g,8,none⟩,16,by rw [HOC.out,HOB.out,HL8.out];rfl,fun _ => ⟨g,rfl,hg,by rw [HOB.out];exact HBX.out⟩,fun h => absurd HOC.out h,HG.out⟩
  ·rw [if_neg e1,if_neg e2] at hoc
   rw [if_neg (fun h => e1 h.symm),if_neg (fun h => e2 h.symm)] at hwi
   rw [hoc,if_neg (by decide)] at hob
   have HOC := hid hoc
   have HOB := hid hob
   rw [hwi]
   clear hoc hob hwi hl e1 e2
   go_wp2
   go_ret2
   exact ⟨none,0,by rw [HOC.out,HOB.out];rfl,fun h => absurd h (by rw [HOC.out];decide),fun _ => ⟨rfl,rfl⟩,HG.out⟩
theorem open_is {id : Int} {args : Array Value} {zs body : List Int} {w : World} {n : Nat} (h : Calls Tryz.prog 30 args w (OpenPost w id zs)) (hc : openC id zs = 0) (hb : openB id zs = body) (hn : body.length = n) :
  Calls Tryz.prog 30 args w fun e w' => ∃ g c,e = .returned (.tuple #[.slice (some ⟨g,8,none⟩) n c,.int .i64 0]) ∧ w.heap.size ≤ g ∧ NBlk w' g 5 .u8 (sealI id body) ∧ Grow w w' :=
 h.mono fun e w' ⟨A,c,he,h1,_,h3⟩ => by
  subst hb hn
  obtain ⟨g,rfl,hg,hblk⟩ := h1 hc
  rw [hc] at he
  exact ⟨g,c,he,hg,hblk,h3⟩
theorem open_not {id k : Int} {args : Array Value} {zs : List Int} {w : World} (h : Calls Tryz.prog 30 args w (OpenPost w id zs)) (hc : openC id zs = k) (hk : k ≠ 0) :
  Calls Tryz.prog 30 args w fun e w' => e = .returned (.tuple #[.slice none 0 0,.int .i64 k]) ∧ Grow w w' :=
 h.mono fun e w' ⟨A,c,he,_,h2,h3⟩ => by
  subst hc
  obtain ⟨rfl,rfl⟩ := h2 hk
  have hb : openB id zs = [] := by unfold openB;rw [if_neg hk]
  rw [hb] at he
  exact ⟨he,h3⟩
end PageC
namespace RefM
open Go.ChangeShapes Go.WideShapes Go.ChangeAt Go.RowKit
open SumM Mem Blk PageM Str Dev LibC DevC DevM DevY DevN DevS RefD Stages
theorem accC_down {S : Dv} (h : S.down = true) : accC S = 12 := by unfold accC;rw [h];rfl
theorem accS_down {S : Dv} (h : S.down = true) : accS S = S := by unfold accS;rw [h];rfl
section
variable {w : World} {r : Rf} {S : Dv}
set_option maxHeartbeats 1000000 in
set_option maxRecDepth 100000 in
theorem rread_any (h : RefAt w r S) (p : Int) (hlo : -9223372036854775808 ≤ p) (hhi : p < 9223372036854775808) (hn : (S.n : Int) < 9223372036854775807) (hbb : (S.bad : Int) < 9223372036854775807) :
  Calls Tryz.prog 119 #[.pointer (some ⟨r.m,0,none⟩),.int .i64 p] w (RefPost r w (.tuple #[.string (strOfNums (readB S p)),.int .i64 (readC S p)]) (readS S p)) := by
 have H := hid h
 obtain ⟨t,h3,h4⟩ := h
 have c0 := h3.c0
 have c5 := h3.c5
 have hN := h3.size
 by_cases hp : 0 ≤ p ∧ p < (S.N : Int)
 ·obtain ⟨hp0,hp1⟩ := hp
  have hh : hasI S p = true := by simp [hasI,hp0,hp1]
  have hrc : readC S p = accC S := by unfold readC;rw [hh];rfl
  have hrs : readS S p = accS S := by unfold readS;rw [hh];rfl
  cases hd : S.down with
  | true =>
   rw [hd] at c5
   have HV : Hid (readB S p = [] ∧ readC S p = 12 ∧ readS S p = S) := by
    have e : readC S p = 12 := by rw [hrc,accC_down hd]
    refine ⟨?_,e,by rw [hrs,accS_down hd]⟩
    unfold readB;rw [e,if_neg (by decide)]
   clear h3 h4 hh hrc hrs hd
   generalize S.N = N at *
   have hge : decide ((N : Int) ≤ p) = false := by rw [decide_eq_false_iff_not];omega
   clear hp1
   clear hn hbb
   go_enter Tryz.func119,Tryz.ntmps119
   go_wp2
   go_ret2
   exact ⟨by rw [HV.out.1,HV.out.2.1];rfl,by rw [HV.out.2.2];exact H.out,Kept.refl _ _⟩
  | false =>
   rw [hd] at c5
   by_cases hb : S.bad = 1
   ·have CA := hid (racc_hit H.out hd hn hb)
    have HV : Hid (readB S p = [] ∧ readC S p = 9 ∧ readS S p = accS S) := by
     have e : readC S p = 9 := by rw [hrc,accC_up hd,if_pos hb]
     refine ⟨?_,e,hrs⟩
     unfold readB;rw [e,if_neg (by decide)]
    clear h3 h4 hh hrc hrs hd hb
    generalize S.N = N at *
    have hge : decide ((N : Int) ≤ p) = false := by rw [decide_eq_false_iff_not];omega
    clear hp1
    clear hn hbb
    go_enter Tryz.func119,Tryz.ntmps119
    go_wp2_with (go_at_call 122;(with_reducible refine CA.out.mono ?_);rintro e w1 ⟨rfl,hdev,hk⟩;have HD := hid hdev;have HK := hid hk;clear hdev hk)
    go_ret2
    exact ⟨by rw [HV.out.1,HV.out.2.1];rfl,by rw [HV.out.2.2];exact HD.out,HK.out⟩
   ·have CA := hid (racc_miss H.out hd hn hbb hb)
    obtain ⟨k,rfl⟩ := Int.eq_ofNat_of_zero_le hp0
    have hk : k < S.N := by omega
    have HV : Hid (readB S (k : Int) = cur S k ∧ readC S (k : Int) = 0 ∧ readS S (k : Int) = accS S) := by
     have e : readC S (k : Int) = 0 := by rw [hrc,accC_up hd,if_neg hb]
     refine ⟨?_,e,hrs⟩
     unfold readB;rw [e,if_pos rfl];rfl
    have HK' := hid hk
    have HUP := hid (accS_up hd)
    clear h3 h4 hh hrc hrs hb hd hk
    generalize hNN : S.N = N at c0 hN hp1
    have HNN := hid hNN
    clear hNN
    have hge : decide (N ≤ k) = false := by rw [decide_eq_false_iff_not];omega
    have HP1 := hid hp1
    clear hhi hlo
    clear hp1
    clear hn hbb
    go_enter Tryz.func119,Tryz.ntmps119
    go_upto_region 7 with (go_at_call 122;(with_reducible refine CA.out.mono ?_);rintro e w1 ⟨rfl,hdev,hk⟩;have HD := hid hdev;have HK := hid hk;clear hdev hk)
    obtain ⟨t',g3,g4⟩ := HD.out
    have hkz := HP1.out
    have c1 := g3.c1
    have r1 := g3.tail.cell (i := k) (by rw [accS_N];exact HK'.out)
    simp only [strV,g4 HUP.out.2.2 k (by rw [accS_N];exact HK'.out),cur_acc] at r1
    rw [accS_N,HNN.out] at c1
    clear g3 g4
    go_wp2
    go_ret2
    exact ⟨by rw [HV.out.1,HV.out.2.1];rfl,by rw [HV.out.2.2];exact HD.out,HK.out⟩
 ·have hh : hasI S p = false := by
   rw [← Bool.not_eq_true]
   simpa [hasI] using hp
  have HV : Hid (readB S p = [] ∧ readC S p = 1 ∧ readS S p = S) := by
   have e : readC S p = 1 := by unfold readC;rw [hh];rfl
   refine ⟨?_,e,by unfold readS;rw [hh];rfl⟩
   unfold readB;rw [e,if_neg (by decide)]
  by_cases hp0 : 0 ≤ p
  ·have hp1 : (S.N : Int) ≤ p := by omega
   clear h3 h4 hh hp
   generalize S.N = N at *
   clear hn hbb
   go_enter Tryz.func119,Tryz.ntmps119
   go_wp2
   go_ret2
   exact ⟨by rw [HV.out.1,HV.out.2.1];rfl,by rw [HV.out.2.2];exact H.out,Kept.refl _ _⟩
  ·have hp1 : p < 0 := by omega
   clear h3 h4 hh hp hp0
   generalize S.N = N at *
   clear hn hbb
   go_enter Tryz.func119,Tryz.ntmps119
   go_wp2
   go_ret2
   exact ⟨by rw [HV.out.1,HV.out.2.1];rfl,by rw [HV.out.2.2];exact H.out,Kept.refl _ _⟩
set_option maxHeartbeats 1000000 in
set_option maxRecDepth 100000 in
theorem rwrite_any (h : RefAt w r S) (p : Int) (zs : List Int) (hlo : -9223372036854775808 ≤ p) (hhi : p < 9223372036854775808) (hm : zs.length ≤ maxLen) (hn : (S.n : Int) < 9223372036854775807) (hbb : (S.bad : Int) < 9223372036854775807) :
  Calls Tryz.prog 161 #[.pointer (some ⟨r.m,0,none⟩),.int .i64 p,.string (strOfNums zs)] w (RefPost r w (.int .i64 (writeC S p zs.length)) (writeS S p zs)) := by
 unfold maxLen at hm
 have H := hid h
 obtain ⟨t,h3,h4⟩ := h
 have c0 := h3.c0
 have c5 := h3.c5
 have hN := h3.size
 have hsz : (strOfNums zs).size = zs.length := strOfNums_size zs
 by_cases hp : 0 ≤ p ∧ p < (S.N : Int)
 ·obtain ⟨hp0,hp1⟩ := hp
  have hh : hasI S p = true := by simp [hasI,hp0,hp1]
  by_cases hl : zs.length = 24
  ·have hwc : writeC S p zs.length = accC S := by unfold writeC;rw [hh,hl];rfl
   have hws : writeS S p zs = if accC S = 0 then putS (accS S) p.toNat zs else accS S := by unfold writeS;rw [hh,hl];rfl
   have HL := hid hl
   rw [hl] at hsz
   cases hd : S.down with
   | true =>
    rw [hd] at c5
    have HV : Hid (writeC S p zs.length = 12 ∧ writeS S p zs = S) := ⟨by rw [hwc,accC_down hd],by rw [hws,accC_down hd,if_neg (by decide),accS_down hd]⟩
    clear h3 h4 hh hwc hws hd hl hm
    generalize S.N = N at *
    have hge : decide ((N : Int) ≤ p) = false := by rw [decide_eq_false_iff_not];omega
    clear hp1
    clear hn hbb
    go_enter Tryz.func161,Tryz.ntmps161
    go_wp2
    go_ret
    exact ⟨by rw [HV.out.1];rfl,by rw [HV.out.2];exact H.out,Kept.refl _ _⟩
   | false =>
    rw [hd] at c5
    by_cases hb : S.bad = 1
    ·have CA := hid (racc_hit H.out hd hn hb)
     have e9 : accC S = 9 := by rw [accC_up hd,if_pos hb]
     have HV : Hid (writeC S p zs.length = 9 ∧ writeS S p zs = accS S) := ⟨by rw [hwc,e9],by rw [hws,e9,if_neg (by decide)]⟩
     clear h3 h4 hh hwc hws hd hb hl hm e9
     generalize S.N = N at *
     have hge : decide ((N : Int) ≤ p) = false := by rw [decide_eq_false_iff_not];omega
     clear hp1
     clear hn hbb
     go_enter Tryz.func161,Tryz.ntmps161
     go_wp2_with (go_at_call 122;(with_reducible refine CA.out.mono ?_);rintro e w1 ⟨rfl,hdev,hk⟩;have HD := hid hdev;have HK := hid hk;clear hdev hk)
     go_ret
     exact ⟨by rw [HV.out.1];rfl,by rw [HV.out.2];exact HD.out,HK.out⟩
    ·have CA := hid (racc_miss H.out hd hn hbb hb)
     have e0 : accC S = 0 := by rw [accC_up hd,if_neg hb]
     obtain ⟨k,rfl⟩ := Int.eq_ofNat_of_zero_le hp0
     have hk : k < S.N := by omega
     have HV : Hid (writeC S (k : Int) zs.length = 0 ∧ writeS S (k : Int) zs = putS (accS S) k zs) := ⟨by rw [hwc,e0],by rw [hws,e0,if_pos rfl];rfl⟩
     have HK' := hid hk
     have HUP := hid (accS_up hd)
     clear h3 h4 hh hwc hws hd hb hl hm e0 hk
     generalize hNN : S.N = N at c0 hN hp1
     have HNN := hid hNN
     clear hNN
     have hge : decide (N ≤ k) = false := by rw [decide_eq_false_iff_not];omega
     have HP1 := hid hp1
     clear hhi hlo
     clear hp1
     clear hn hbb
     go_enter Tryz.func161,Tryz.ntmps161
     go_upto_region 7 with (go_at_call 122;(with_reducible refine CA.out.mono ?_);rintro e w1 ⟨rfl,hdev,hk⟩;have HD := hid hdev;have HK := hid hk;clear hdev hk)
     obtain ⟨t',g3,g4⟩ := HD.out
     have hkz := HP1.out
     have c1 := g3.c1
     have c2 := g3.c2
     have r1 := g3.tail.cell (i := k) (by rw [accS_N];exact HK'.out)
     have f1 := g3.tail.frozen k
     have r2 := g3.wait.cell (i := k) (by rw [accS_N];exact HK'.out)
     have f2 := g3.wait.frozen k
     rw [accS_N,HNN.out] at c1 c2
     have hne := g3.ne
     have HG3 := hid g3
     have HG4 := hid g4
     have q1 := up_cell (F := fun k => k = r.T ∨ k = r.V) (w := w1.drew) c1 (fun e => by rcases e with e | e;exact hne.2.1 e;exact hne.2.2.1 e)
     have q2 := up_cell (F := fun k => k = r.T ∨ k = r.V) (w := w1.drew) c2 (fun e => by rcases e with e | e;exact hne.2.1 e;exact hne.2.2.1 e)
     have HS1 : Hid (Rows3 (w1.setCell ⟨r.T,k,none⟩ (.string (strOfNums zs))) r (accS S).n (accS S).bad (accS S).N (accS S).down (accS S).dur (fun q => if q = k then zs else t' q) (fun p => ((accS S).wr p).isSome)) := g3.setT HL.out
     have HS2 : Hid (Rows3 ((w1.setCell ⟨r.T,k,none⟩ (.string (strOfNums zs))).setCell ⟨r.V,k,none⟩ (.bool true)) r (accS S).n (accS S).bad (accS S).N (accS S).down (accS S).dur (fun q => if q = k then zs else t' q) (fun q => if q = k then true else ((accS S).wr q).isSome)) := HS1.out.setV
     have HFIN : Hid (RefAt ((w1.setCell ⟨r.T,k,none⟩ (.string (strOfNums zs))).setCell ⟨r.V,k,none⟩ (.bool true)).drew r (putS (accS S) k zs)) := by
      refine ⟨fun q => if q = k then zs else t' q,(HS2.out.grow (Kept.drew' _)).congr (fun p _ => rfl) (fun p _ => rfl) (fun p _ => ?_),fun _ p hp => ?_⟩
      ·show ((if p = k then some zs else (accS S).wr p).isSome) = (if p = k then true else ((accS S).wr p).isSome)
       split <;> rfl
      ·rw [cur_put]
       show (if p = k then zs else t' p) = _
       split
       ·rfl
       ·exact HG4.out HUP.out.2.2 p hp
     have HKF : Hid (Kept (POwn r) w ((w1.setCell ⟨r.T,k,none⟩ (.string (strOfNums zs))).setCell ⟨r.V,k,none⟩ (.bool true)).drew) := ((HK.out.trans ((kept_set _ _ _ _).mono fun _ _ e => .inr (.inr (.inl e)))).trans ((kept_set _ _ _ _).mono fun _ _ e => .inr (.inr (.inr e)))).drew
     have r2' := HS1.out.wait.cell (i := k) (by rw [accS_N];exact HK'.out)
     have f2' := HS1.out.wait.frozen k
     clear g3 g4 c1 c2 hne r2 f2
     refine wp_region_stages (Kept fun k => k = r.T ∨ k = r.V) (kept_refl _) (kept_trans _) [([0,1,2,3,4,5,6,7,8,9,10,11],12),([13],14)] [] (by kernel_rfl) (by kernel_rfl) ?_
     simp only [selSt,sel,ZmC,ZmN,ZgS,ZgZ]
     refine st_cons fun K1 hK1 => ?_
     repeat (go_big_quiet_step (fail))
     refine wpQuiet_nil ?_
     clear q1 q2
     go_wp2
     refine norm_up (hK1 _ _ ((kept_set _ _ _ _).mono fun _ _ e => .inl e) ?_)
     clear hK1 K1
     refine st_cons fun K2 hK2 => ?_
     repeat (go_big_quiet_step (fail))
     refine wpQuiet_nil ?_
     go_wp2
     refine norm_up (hK2 _ _ ((kept_set _ _ _ _).mono fun _ _ e => .inr e) (st_nil fun K3 hK3 => wpQuiet_nil (hK3 _ ?_)))
     clear hK2 K2 K3 hK3 r1 r2' f1 f2'
     go_wp2
     go_ret
     exact ⟨by rw [HV.out.1];rfl,by rw [HV.out.2];exact HFIN.out,HKF.out⟩
  ·have HV : Hid (writeC S p zs.length = 1 ∧ writeS S p zs = S) := by
    have e : (zs.length == 24) = false := by simpa using hl
    exact ⟨by unfold writeC;rw [hh,e];rfl,by unfold writeS;rw [hh,e];rfl⟩
   have hne : ((zs.length : Int) != 24) = true := by simpa [bne_iff_ne] using (by omega : ¬ (zs.length : Int) = 24)
   clear h3 h4 hh hl
   generalize S.N = N at *
   generalize zs.length = L at *
   have hge : decide ((N : Int) ≤ p) = false := by rw [decide_eq_false_iff_not];omega
   clear hp1 hm
   clear hn hbb
   go_enter Tryz.func161,Tryz.ntmps161
   go_wp2
   go_ret
   exact ⟨by rw [HV.out.1];rfl,by rw [HV.out.2];exact H.out,Kept.refl _ _⟩
 ·have hh : hasI S p = false := by
   rw [← Bool.not_eq_true]
   simpa [hasI] using hp
  have HV : Hid (writeC S p zs.length = 1 ∧ writeS S p zs = S) := ⟨by unfold writeC;rw [hh];rfl,by unfold writeS;rw [hh];rfl⟩
  clear hsz hm
  by_cases hp0 : 0 ≤ p
  ·have hp1 : (S.N : Int) ≤ p := by omega
   clear h3 h4 hh hp
   generalize S.N = N at *
   clear hn hbb
   go_enter Tryz.func161,Tryz.ntmps161
   go_wp2
   go_ret
   exact ⟨by rw [HV.out.1];rfl,by rw [HV.out.2];exact H.out,Kept.refl _ _⟩
  ·have hp1 : p < 0 := by omega
   clear h3 h4 hh hp hp0
   generalize S.N = N at *
   clear hn hbb
   go_enter Tryz.func161,Tryz.ntmps161
   go_wp2
   go_ret
   exact ⟨by rw [HV.out.1];rfl,by rw [HV.out.2];exact H.out,Kept.refl _ _⟩
set_option maxHeartbeats 1000000 in
theorem rwaits_any (h : RefAt w r S) :
  Calls Tryz.prog 72 #[.pointer (some ⟨r.m,0,none⟩)] w (IntsOf w (waitL S S.N)) := by
 have H := hid h
 obtain ⟨t,h3,_⟩ := h
 have hN := h3.size
 clear h3
 go_enter Tryz.func72,Tryz.ntmps72
 go_wp2
 go_loopg [3,4] S.N (fun g v i wr => ∃ j : Nat,j + g = S.N ∧ i = .int .i64 (j : Int) ∧ wr.ownsRow w.heap.size 3 1 v (waitL S j).length ((waitL S j).map (Value.int .i64)) ∧ Below w.heap.size w wr)
 case atStart => exact ⟨0,by omega,rfl,World.ownsRow_nil _ _ _ _,Below.refl _ _⟩
 case round =>
  obtain ⟨j,hg,rfl,hown,hbel⟩ := hrel
  have HO := hid hown
  have HB := hid hbel
  have HG := hid hg
  have hdev := H.out.grow (Kept.of_below hbel)
  obtain ⟨t',h3,_⟩ := hdev
  have c2 := h3.c2
  by_cases hj : j < S.N
  ·have hjz : (j : Int) < (S.N : Int) := by omega
   have r1 := h3.wait.cell (i := j) hj
   have hle := waitL_le S j
   have hbs : w.heap.size ≤ wr.heap.size := hbel.size
   clear h3 hg hown hbel
   cases ho : (S.wr j).isSome with
   | false =>
    rw [ho] at r1
    have HE : Hid (waitL S (j + 1) = waitL S j) := by
     show waitL S (j + 1) = waitL S j
     rw [waitL,ho];rfl
    clear ho
    go_wp2
    go_roundg (gk - 1)
    case measure => have := HG.out;omega
    case rel => exact ⟨j + 1,by have := HG.out;omega,by go_num,by rw [HE.out];exact HO.out,HB.out⟩
   | true =>
    rw [ho] at r1
    have HE : Hid (waitL S (j + 1) = waitL S j ++ [(j : Int)]) := by
     show waitL S (j + 1) = waitL S j ++ [(j : Int)]
     rw [waitL,ho];rfl
    clear ho
    generalize waitL S j = l at *
    go_wp2_with (at_builtin;refine wpList_append_one rfl (.tmp 21) (.tmp 23) 33 rfl w.heap.size 3 (.int .i64 0) 8 Tryz.underlying33 infoI rfl _ l.length _ rfl (World.ownsRow.alloc HO.out _) wr.heap.size (.int .i64 (j : Int)) rfl (cell_new1 _ _ _) rfl (by unfold maxLen;omega) (by omega) (by simp;omega) ?_;intro g cap w2 hown hbel;have HOW := hid hown;have HBW := hid hbel;clear hown hbel)
    go_roundg (gk - 1)
    case measure => have := HG.out;omega
    case rel => exact ⟨j + 1,by have := HG.out;omega,by go_num,by rw [HE.out];simpa using HOW.out,(HB.out.alloc hbs _).trans HBW.out⟩
  ·have hjN : j = S.N := by omega
   subst hjN
   obtain ⟨A,c,rfl,hsl⟩ := Sl.of_row1 hown
   have HSL := hid hsl
   have HNEW : Hid (∀ x,A = some x → w.heap.size ≤ x.block) := fun x e => (World.ownsRow.lt hown x.block (by rw [e];rfl)).1
   clear h3 hown hbel hg hsl
   go_wp2
   go_ret
   exact ⟨A,_,c,rfl,HSL.out,HNEW.out,Kept.of_below HB.out⟩
end
end RefM
namespace RefY
open Go.ChangeShapes Go.WideShapes Go.ChangeAt Go.RowKit
open SumM Mem Blk PageM Str Dev LibC DevC DevM DevY DevN DevS RefD RefM Stages
section
variable {w : World} {r : Rf} {S : Dv}
set_option maxHeartbeats 1000000 in
theorem rsync_any (h : RefAt w r S) (hn : (S.n : Int) < 9223372036854775807) (hbb : (S.bad : Int) < 9223372036854775807) :
  Calls Tryz.prog 63 #[.pointer (some ⟨r.m,0,none⟩)] w (RefPost r w (.int .i64 (accC S)) (syncS S)) := by
 have H := hid h
 obtain ⟨t,h3,h4⟩ := h
 have c5 := h3.c5
 have hN := h3.size
 cases hd : S.down with
 | true =>
  rw [hd] at c5
  have HV : Hid (accC S = 12 ∧ syncS S = S) := ⟨accC_down hd,by unfold syncS;rw [accC_down hd,if_neg (by decide),accS_down hd]⟩
  clear h3 h4 hd hn hbb
  go_enter Tryz.func63,Tryz.ntmps63
  go_wp2
  go_ret
  exact ⟨by rw [HV.out.1];rfl,by rw [HV.out.2];exact H.out,Kept.refl _ _⟩
 | false =>
  rw [hd] at c5
  by_cases hb : S.bad = 1
  ·have CA := hid (racc_hit H.out hd hn hb)
   have e9 : accC S = 9 := by rw [accC_up hd,if_pos hb]
   have HV : Hid (accC S = 9 ∧ syncS S = accS S) := ⟨e9,by unfold syncS;rw [e9,if_neg (by decide)]⟩
   clear h3 h4 hd hn hbb hb e9
   go_enter Tryz.func63,Tryz.ntmps63
   go_wp2_with (go_at_call 122;(with_reducible refine CA.out.mono ?_);rintro e w1 ⟨rfl,hdev,hk⟩;have HD := hid hdev;have HK := hid hk;clear hdev hk)
   go_ret
   exact ⟨by rw [HV.out.1];rfl,by rw [HV.out.2];exact HD.out,HK.out⟩
  ·have CA := hid (racc_miss H.out hd hn hbb hb)
   have e0 : accC S = 0 := by rw [accC_up hd,if_neg hb]
   have HV : Hid (accC S = 0 ∧ syncS S = flushS (accS S)) := ⟨e0,by unfold syncS;rw [e0,if_pos rfl]⟩
   have HUP := hid (accS_up hd)
   rw [← accS_N] at hN
   clear h3 h4 hd hn hbb hb e0
   generalize accS S = U at *
   go_enter Tryz.func63,Tryz.ntmps63
   go_wp2_with (go_at_call 122;(with_reducible refine CA.out.mono ?_);rintro e w1 ⟨rfl,hdev,hk⟩;have HD := hid hdev;have HK := hid hk;clear hdev hk)
   obtain ⟨t',g3,g4⟩ := HD.out
   have HT := hid (g4 HUP.out.2.2)
   have H0 : Hid (Rows3 w1 r U.n U.bad U.N U.down (fun p => if p < 0 then t' p else U.dur p) t' (fun p => if p < 0 then false else (U.wr p).isSome)) := g3.congr (fun p _ => by show (if p < 0 then t' p else U.dur p) = U.dur p;rw [if_neg (by omega)]) (fun p _ => rfl) (fun p _ => by show (if p < 0 then false else (U.wr p).isSome) = (U.wr p).isSome;rw [if_neg (by omega)])
   clear g3 g4
   go_loopg [3] U.N (fun g i wr => ∃ j : Nat,j + g = U.N ∧ i = .int .i64 (j : Int) ∧ Rows3 wr r U.n U.bad U.N U.down (fun p => if p < j then t' p else U.dur p) t' (fun p => if p < j then false else (U.wr p).isSome) ∧ Kept (POwn r) w wr)
   case atStart => exact ⟨0,by omega,rfl,H0.out,HK.out⟩
   case round =>
    obtain ⟨j,hg,rfl,hr,hkk⟩ := hrel
    have HR := hid hr
    have HKK := hid hkk
    have HG := hid hg
    have c0 := hr.c0
    by_cases hj : j < U.N
    ·have hjz : (j : Int) < (U.N : Int) := by omega
     have c1 := hr.c1
     have c2 := hr.c2
     have rT := hr.tail.cell (i := j) hj
     have rA := hr.safe.cell (i := j) hj
     have fA := hr.safe.frozen j
     have hne := hr.ne
     simp only [strV] at rT
     have q0 := up_cell (F := fun k => k = r.A ∨ k = r.V) (w := wr.drew) c0 (fun e => by rcases e with e | e;exact hne.1 e;exact hne.2.2.1 e)
     have q1 := up_cell (F := fun k => k = r.A ∨ k = r.V) (w := wr.drew) c1 (fun e => by rcases e with e | e;exact hne.1 e;exact hne.2.2.1 e)
     have q2 := up_cell (F := fun k => k = r.A ∨ k = r.V) (w := wr.drew) c2 (fun e => by rcases e with e | e;exact hne.1 e;exact hne.2.2.1 e)
     have q3 := up_cell (F := fun k => k = r.A ∨ k = r.V) (w := wr.drew) rT (fun e => by rcases e with e | e;exact hne.2.2.2.1 e.symm;exact hne.2.2.2.2.2 e)
     have HS1 := hid (hr.setA (k := j) (z := t' j) (hr.ok j hj).2)
     have HS2 := hid (HS1.out.setV (k := j) (b := false))
     have rV := HS1.out.wait.cell (i := j) hj
     have fV := HS1.out.wait.frozen j
     have HNX : Hid (Rows3 ((wr.setCell ⟨r.A,j,none⟩ (strV (t' j))).setCell ⟨r.V,j,none⟩ (.bool false)).drew r U.n U.bad U.N U.down (fun p => if p < j + 1 then t' p else U.dur p) t' (fun p => if p < j + 1 then false else (U.wr p).isSome)) := by
      refine (HS2.out.grow (Kept.drew' _)).congr (fun p _ => ?_) (fun p _ => rfl) (fun p _ => ?_)
      ·show (if p < j + 1 then t' p else U.dur p) = (if p = j then t' j else if p < j then t' p else U.dur p)
       by_cases e : p = j
       ·rw [if_pos (by omega),if_pos e,e]
       ·by_cases e2 : p < j
        ·rw [if_pos (by omega),if_neg e,if_pos e2]
        ·rw [if_neg (by omega),if_neg e,if_neg e2]
      ·show (if p < j + 1 then false else (U.wr p).isSome) = (if p = j then false else if p < j then false else (U.wr p).isSome)
       by_cases e : p = j
       ·rw [if_pos (by omega),if_pos e]
       ·by_cases e2 : p < j
        ·rw [if_pos (by omega),if_neg e,if_pos e2]
        ·rw [if_neg (by omega),if_neg e,if_neg e2]
     have HKX : Hid (Kept (POwn r) w ((wr.setCell ⟨r.A,j,none⟩ (strV (t' j))).setCell ⟨r.V,j,none⟩ (.bool false)).drew) := ((hkk.trans ((kept_set _ _ _ _).mono fun _ _ e => .inr (.inl e))).trans ((kept_set _ _ _ _).mono fun _ _ e => .inr (.inr (.inr e)))).drew
     simp only [strV] at rA rV fV HNX HKX
     clear hr hkk hg c1 c2 hne rT HS1 HS2
     go_upto_region 8 with (fail)
     refine wp_region_stages (Kept fun k => k = r.A ∨ k = r.V) (kept_refl _) (kept_trans _) [([0,1,2,3,4,5,6,7,8,9,10,11,12,13,14,15,16,17],18),([19],20)] [] (by kernel_rfl) (by kernel_rfl) ?_
     simp only [selSt,sel,ZmC,ZmN,ZgS,ZgZ]
     refine st_cons fun K1 hK1 => ?_
     repeat (go_big_quiet_step (fail))
     refine wpQuiet_nil ?_
     clear q0 q1 q2 q3
     go_wp2
     refine norm_up (hK1 _ _ ((kept_set _ _ _ _).mono fun _ _ e => .inl e) ?_)
     clear hK1 K1
     refine st_cons fun K2 hK2 => ?_
     repeat (go_big_quiet_step (fail))
     refine wpQuiet_nil ?_
     go_wp2
     refine norm_up (hK2 _ _ ((kept_set _ _ _ _).mono fun _ _ e => .inr e) (st_nil fun K3 hK3 => wpQuiet_nil (hK3 _ ?_)))
     clear hK2 K2 K3 hK3 rA rV fA fV
     go_wp2
     go_roundg (U.N - (j + 1))
     case measure => have := HG.out;omega
     case rel => exact ⟨j + 1,by omega,by go_num,HNX.out,HKX.out⟩
    ·have hjN : j = U.N := by omega
     subst hjN
     have HFIN : Hid (RefAt wr r (flushS U)) := by
      refine ⟨t',hr.congr (fun p hp => ?_) (fun p _ => rfl) (fun p hp => ?_),fun _ p hp => HT.out p hp⟩
      ·show cur U p = (if p < U.N then t' p else U.dur p)
       rw [if_pos hp,HT.out p hp]
      ·show false = (if p < U.N then false else (U.wr p).isSome)
       rw [if_pos hp]
     clear hr hkk hg
     go_wp2
     go_ret
     exact ⟨by rw [HV.out.1];rfl,by rw [HV.out.2];exact HFIN.out,HKK.out⟩
end
end RefY
end Go.Proofs.YtbnkpnllgoghnaaGreat
