/-
  Texts behind the statements of this seat: part 13.
-/
import Derived.Test.YtbnkpnllgoghnaaGreatQe
import Derived.Test.YtbnkpnllgoghnaaGreatQl
import Derived.Test.YtbnkpnllgoghnaaGreatQk
import Derived.Test.YtbnkpnllgoghnaaGreatQf
set_option linter.unusedVariables false

namespace Go.Proofs.YtbnkpnllgoghnaaGreat.RfL
open Go.Proofs.YtbnkpnllgoghnaaGreat.MdM (Md MdOp Re)
open Go.Proofs.YtbnkpnllgoghnaaGreat.ArM (Ar Fr fFree fUsed)
open Go.Proofs.YtbnkpnllgoghnaaGreat.TabM (upd upd_same upd_other)
open Go.Proofs.YtbnkpnllgoghnaaGreat.Dev (Dv)
open Go.Proofs.YtbnkpnllgoghnaaGreat.RfM Go.Proofs.YtbnkpnllgoghnaaGreat.RfI Go.Proofs.YtbnkpnllgoghnaaGreat.RfR Go.Proofs.YtbnkpnllgoghnaaGreat.RfF Go.Proofs.YtbnkpnllgoghnaaGreat.RfX
section
variable {p a b : Pl} {c : Int} {o : MdOp} {f q k n : Nat} {z : List Int}
theorem map_nodup {g : Nat → Nat} (h : ∀ i j, i < n → j < n → g i = g j → i = j) : ((List.range n).map g).Nodup := by
  unfold List.Nodup
  rw [List.pairwise_map]
  refine List.Pairwise.imp_of_mem (R := fun i j => i < j) (fun {i j} hi hj hij e => ?_) List.pairwise_lt_range
  have := h i j (List.mem_range.1 hi) (List.mem_range.1 hj) e
  omega
/-- So many unlike numbers below n are all of them. -/
theorem all_met {l : List Nat} (hn : l.Nodup) (hl : ∀ x ∈ l, x < n) (e : l.length = n) {x : Nat} (hx : x < n) : x ∈ l := by
  by_cases h : x ∈ l
  · exact h
  · have := ListM.len_le n (x :: l) (List.nodup_cons.2 ⟨h, hn⟩) fun y hy => by
      rcases List.mem_cons.1 hy with rfl | hy
      · exact hx
      · exact hl y hy
    rw [List.length_cons, e] at this
    omega
/-- With a frame for each page there is one for a page that has none. -/
theorem room_there (i : Inv p) (hn : p.X.n ≤ p.A.n) (hq : q < p.X.n) (hno : ∀ x, x < p.A.n → (p.A.F x).st = 1 → (p.A.F x).pg ≠ (q : Int)) : ¬ Full p := fun H => by
  have hpg : ∀ x, x < p.A.n → ∃ r, r < p.X.n ∧ (p.A.F x).pg = (r : Int) := fun x hx => i.pg x hx (H x hx).1
  have nd : ((List.range p.A.n).map fun x => ((p.A.F x).pg).toNat).Nodup := map_nodup fun x y hx hy e => by
    obtain ⟨r, hr, e1⟩ := hpg x hx
    obtain ⟨s, hs, e2⟩ := hpg y hy
    exact i.ga.uq x y hx hy (H x hx).1 (H y hy).1 (by omega)
  have := ListM.len_le p.X.n (q :: (List.range p.A.n).map fun x => ((p.A.F x).pg).toNat) (List.nodup_cons.2 ⟨fun hm => by
    obtain ⟨x, hx, e⟩ := List.mem_map.1 hm
    have hx := List.mem_range.1 hx
    obtain ⟨r, hr, e1⟩ := hpg x hx
    exact hno x hx (H x hx).1 (by omega), nd⟩) fun y hy => by
      rcases List.mem_cons.1 hy with rfl | hy
      · exact hq
      · obtain ⟨x, hx, e⟩ := List.mem_map.1 hy
        obtain ⟨r, hr, e1⟩ := hpg x (List.mem_range.1 hx)
        omega
  rw [List.length_cons, List.length_map, List.length_range] at this
  omega
/-- A new page has no frame. -/
theorem gap_none (i : Inv p) (hc : (p.X.new k).1.c = 0) : ∃ q, q < p.X.n ∧ ∀ x, x < p.A.n → (p.A.F x).st = 1 → (p.A.F x).pg ≠ (q : Int) := by
  unfold Md.new at hc
  split at hc
  · exact absurd hc (by show (4 : Int) ≠ 0; decide)
  · split at hc
    · exact absurd hc (by show (3 : Int) ≠ 0; decide)
    · rename_i hg
      have hlt : p.X.gap < p.X.n := by have := HdM.lst_le (fun i => if p.X.T i then (0 : Int) else -1) p.X.n; unfold Md.gap at hg ⊢; omega
      refine ⟨p.X.gap, hlt, fun x hx sx px => ?_⟩
      have h1 := (i.use x _ hx sx px (by simp)).1
      have := HdM.lst_at (fun i => if p.X.T i then (0 : Int) else -1) p.X.n hlt
      change (if p.X.T p.X.gap then (0 : Int) else -1) = -1 at this
      rw [h1] at this
      exact absurd this (by decide)
theorem run_new (ho : o.k = 1) (hc : (p.X.run c o).1.c = 0) : ∃ k : Nat, c = (k : Int) ∧ k < p.X.N ∧ p.X.run c o = p.X.new k := by
  by_cases hb : ¬ (0 ≤ c ∧ c < (p.X.N : Int)) ∨ o.k < 1 ∨ 8 < o.k
  · have e : p.X.run c o = (MdM.err 1, p.X) := by unfold Md.run; rw [if_pos hb]
    rw [e] at hc
    exact absurd hc (by show (1 : Int) ≠ 0; decide)
  · have h0 : 0 ≤ c ∧ c < (p.X.N : Int) := by omega
    obtain ⟨k, rfl⟩ := Int.eq_ofNat_of_zero_le h0.1
    refine ⟨k, rfl, by omega, ?_⟩
    unfold Md.run
    rw [if_neg hb, if_pos ho, Int.toNat_natCast]
theorem run_page (ho : o.k = 2) (hc : (p.X.run c o).1.c = 0) : ∃ q : Nat, o.p = (q : Int) ∧ q < p.X.n := by
  by_cases hb : ¬ (0 ≤ c ∧ c < (p.X.N : Int)) ∨ o.k < 1 ∨ 8 < o.k
  · have e : p.X.run c o = (MdM.err 1, p.X) := by unfold Md.run; rw [if_pos hb]
    rw [e] at hc
    exact absurd hc (by show (1 : Int) ≠ 0; decide)
  · have e : p.X.run c o = p.X.onPage o.p (p.X.fetch c.toNat) := by
      unfold Md.run
      rw [if_neg hb, if_neg (by omega), if_pos ho]
    rw [e] at hc
    by_cases hp : 0 ≤ o.p ∧ o.p < (p.X.n : Int)
    · obtain ⟨q, hq⟩ := Int.eq_ofNat_of_zero_le hp.1
      exact ⟨q, hq, by omega⟩
    · unfold Md.onPage at hc
      rw [if_pos hp] at hc
      exact absurd hc (by show (1 : Int) ≠ 0; decide)
/-- With a frame for each page, and nothing that fails, the pool tells what the model tells. -/
theorem run_model (i : Inv p) (hn : p.X.n ≤ p.A.n) (hb : p.D.bad = 0) (hd : MdM.Bytes o.d) (c : Int) : (p.run c o).1 = (p.X.run c o).1 ∧ Inv (p.run c o).2 ∧ (p.run c o).2.X = (p.X.run c o).2 ∧ (p.run c o).2.A.n = p.A.n ∧ (p.run c o).2.D.bad = 0 := by
  rcases run_spec i c o hd with ⟨p', e, i', hX, hA, hbad, _⟩ | ⟨e, hF, hc, hk⟩ | ⟨p', e, _, _, _, hb'⟩
  · rw [e]
    exact ⟨rfl, i', hX, hA, hbad hb⟩
  · exfalso
    rcases hk with hk | ⟨hk, hno⟩
    · obtain ⟨k, rfl, hkN, er⟩ := run_new hk hc
      rw [er] at hc
      obtain ⟨q, hq, hno⟩ := gap_none i hc
      exact room_there i hn hq hno hF
    · obtain ⟨q, hq, hqn⟩ := run_page hk hc
      rw [hq] at hno
      exact room_there i hn hqn hno hF
  · exact absurd hb hb'
theorem ite9 {P : Prop} [Decidable P] {x y : Re × Md} (h : x.1.c ≠ 9) (h' : y.1.c ≠ 9) : (if P then x else y).1.c ≠ 9 := by
  split
  · exact h
  · exact h'
/-- Two pools with one model and as many frames: what is full in one is full in the other. -/
theorem full_same (ia : Inv a) (ib : Inv b) (hX : a.X = b.X) (hn : a.A.n = b.A.n) (hF : Full a) : Full b ∧ ∀ r : Int, (∀ x, x < a.A.n → (a.A.F x).st = 1 → (a.A.F x).pg ≠ r) → ∀ x, x < b.A.n → (b.A.F x).st = 1 → (b.A.F x).pg ≠ r := by
  have key : ∀ x, x < a.A.n → ∃ y, y < b.A.n ∧ (b.A.F y).st = 1 ∧ (b.A.F y).pg = (a.A.F x).pg ∧ b.A.find (a.A.F x).pg = (y : Int) ∧ (b.A.F y).pn = (a.A.F x).pn := fun x hx => by
    obtain ⟨s1, s2⟩ := hF x hx
    obtain ⟨r, hr, e⟩ := ia.pg x hx s1
    obtain ⟨_, u2, _⟩ := ia.use x r hx s1 e (by simp)
    obtain ⟨y, hy, sy, py⟩ := ib.held r (by rw [← hX]; exact hr) (by simp) (by rw [← hX]; omega)
    obtain ⟨_, w2, _⟩ := ib.use y r hy sy py (by simp)
    exact ⟨y, hy, sy, by rw [py, e], by rw [e]; exact ArM.find_at ib.ga hy sy py, by rw [w2, u2, hX]⟩
  have nd : ((List.range a.A.n).map fun x => (b.A.find (a.A.F x).pg).toNat).Nodup := map_nodup fun x y hx hy e => by
    obtain ⟨x', _, _, px, fx, _⟩ := key x hx
    obtain ⟨y', _, _, py, fy, _⟩ := key y hy
    rw [fx, fy, Int.toNat_natCast, Int.toNat_natCast] at e
    subst e
    exact ia.ga.uq x y hx hy (hF x hx).1 (hF y hy).1 (by rw [← px, py])
  have met : ∀ y, y < b.A.n → ∃ x, x < a.A.n ∧ (b.A.F y).st = 1 ∧ (b.A.F y).pg = (a.A.F x).pg ∧ (b.A.F y).pn = (a.A.F x).pn := fun y hy => by
    have hm := all_met nd (n := b.A.n) (fun w hw => by
      obtain ⟨x, hx, e⟩ := List.mem_map.1 hw
      obtain ⟨x', h1, _, _, fx, _⟩ := key x (List.mem_range.1 hx)
      rw [fx, Int.toNat_natCast] at e
      omega) (by rw [List.length_map, List.length_range, hn]) hy
    obtain ⟨x, hx, e⟩ := List.mem_map.1 hm
    have hx := List.mem_range.1 hx
    obtain ⟨x', h1, h2, h3, fx, h4⟩ := key x hx
    rw [fx, Int.toNat_natCast] at e
    subst e
    exact ⟨x, hx, h2, h3, h4⟩
  refine ⟨fun y hy => ?_, fun r hno y hy _ e => ?_⟩
  · obtain ⟨x, hx, h1, _, h3⟩ := met y hy
    exact ⟨h1, by rw [h3]; exact (hF x hx).2⟩
  · obtain ⟨x, hx, _, h2, _⟩ := met y hy
    exact hno x hx (hF x hx).1 (by rw [← h2]; exact e)
/-- Two pools with one model and as many frames tell the same, but for a failing access. -/
theorem run_same (ia : Inv a) (ib : Inv b) (hX : a.X = b.X) (hn : a.A.n = b.A.n) (hb : b.D.bad = 0) (hd : MdM.Bytes o.d) (c : Int) :
    Inv (a.run c o).2 ∧ Inv (b.run c o).2 ∧ (a.run c o).2.A.n = a.A.n ∧ (b.run c o).2.A.n = b.A.n ∧ (b.run c o).2.D.bad = 0 ∧ (a.D.bad = 0 → (a.run c o).2.D.bad = 0) ∧
    (((a.run c o).1 = (b.run c o).1 ∧ (a.run c o).2.X = (b.run c o).2.X ∧ (b.run c o).1.c ≠ 9) ∨ ((a.run c o).1 = MdM.err 9 ∧ (a.run c o).2.X = a.X ∧ a.D.bad ≠ 0)) := by
  have code : (a.X.run c o).1.c ≠ 9 := by
    have e : ∀ (n : Int) (m : Md), n ≠ 9 → ((MdM.err n, m) : Re × Md).1.c ≠ 9 := fun _ _ h => h
    have pg : ∀ (x : Int) (g : Nat → Re × Md), (∀ q, (g q).1.c ≠ 9) → (a.X.onPage x g).1.c ≠ 9 := fun x g h => ite9 (e 1 _ (by decide)) (ite9 (e 2 _ (by decide)) (h _))
    have hh : ∀ (x : Int) (g : Nat → Re × Md), (∀ q, (g q).1.c ≠ 9) → (a.X.onHand c x g).1.c ≠ 9 := fun x g h => ite9 (e 5 _ (by decide)) (h _)
    have z : ∀ (r : Re) (m : Md), r.c = 0 → ((r, m) : Re × Md).1.c ≠ 9 := fun r m h => by show r.c ≠ 9; omega
    refine ite9 (e 1 _ (by decide)) (ite9 ?_ (ite9 (pg _ _ fun q => ?_) (ite9 (hh _ _ fun q => ?_) (ite9 (hh _ _ fun q => ?_) (ite9 (hh _ _ fun q => z _ _ rfl) (ite9 (pg _ _ fun q => z _ _ rfl) (ite9 (z _ _ rfl) (pg _ _ fun q => ?_))))))))
    · exact ite9 (e 4 _ (by decide)) (ite9 (e 3 _ (by decide)) (z _ _ rfl))
    · exact ite9 (e 4 _ (by decide)) (z _ _ rfl)
    · exact ite9 (e 6 _ (by decide)) (z _ _ rfl)
    · exact ite9 (e 6 _ (by decide)) (z _ _ rfl)
    · exact ite9 (e 7 _ (by decide)) (z _ _ rfl)
  rcases run_spec ia c o hd with ⟨p1, e1, i1, X1, A1, b1, w1⟩ | ⟨e1, F1, c1, k1⟩ | ⟨p1, e1, i1, X1, A1, b1⟩
  · rcases run_spec ib c o hd with ⟨p2, e2, i2, X2, A2, b2, w2⟩ | ⟨e2, F2, c2, k2⟩ | ⟨p2, e2, i2, X2, A2, b2⟩
    · rw [e1, e2]
      exact ⟨i1, i2, A1, A2, b2 hb, b1, .inl ⟨by rw [hX], by rw [X1, X2, hX], by rw [← hX]; exact code⟩⟩
    · exfalso
      obtain ⟨Fa, na⟩ := full_same ib ia hX.symm hn.symm F2
      have hc : (a.X.run c o).1.c = 0 := by rw [hX]; exact c2
      rcases k2 with k2 | ⟨k2, no2⟩
      · exact (w1 hc).1 k2 Fa
      · rcases (w1 hc).2 k2 with ⟨g, hg, sg, pg⟩ | h
        · exact na o.p no2 g hg sg pg
        · exact h Fa
    · exact absurd hb b2
  · rcases run_spec ib c o hd with ⟨p2, e2, i2, X2, A2, b2, w2⟩ | ⟨e2, F2, c2, k2⟩ | ⟨p2, e2, i2, X2, A2, b2⟩
    · exfalso
      obtain ⟨Fb, nb⟩ := full_same ia ib hX hn F1
      have hc : (b.X.run c o).1.c = 0 := by rw [← hX]; exact c1
      rcases k1 with k1 | ⟨k1, no1⟩
      · exact (w2 hc).1 k1 Fb
      · rcases (w2 hc).2 k1 with ⟨g, hg, sg, pg⟩ | h
        · exact nb o.p no1 g hg sg pg
        · exact h Fb
    · rw [e1, e2]
      exact ⟨ia, ib, rfl, rfl, hb, id, .inl ⟨rfl, hX, by show (8 : Int) ≠ 9; decide⟩⟩
    · exact absurd hb b2
  · rcases run_spec ib c o hd with ⟨p2, e2, i2, X2, A2, b2, w2⟩ | ⟨e2, F2, c2, k2⟩ | ⟨p2, e2, i2, X2, A2, b2⟩
    · rw [e1, e2]
      exact ⟨i1, i2, A1, A2, b2 hb, fun e => absurd e b1, .inr ⟨rfl, X1, b1⟩⟩
    · rw [e1, e2]
      exact ⟨i1, ib, A1, rfl, hb, fun e => absurd e b1, .inr ⟨rfl, X1, b1⟩⟩
    · exact absurd hb b2
/-- An access that is said to fail: nothing else has turned. -/
theorem inv_fail (i : Inv p) (k : Int) : Inv ⟨p.X, Dev.failS p.D k, p.A, p.L⟩ := by
  have e : (Dev.failS p.D k).N = p.D.N ∧ (Dev.failS p.D k).down = p.D.down ∧ ∀ r, Dev.cur (Dev.failS p.D k) r = Dev.cur p.D r := by
    unfold Dev.failS
    split <;> exact ⟨rfl, rfl, fun _ => rfl⟩
  exact i.same e.1 (by rw [e.2.1]; exact i.dn) e.2.2 i.nd fun _ => Iff.rfl
/-- Behind a flush of all the device has all pages, durably. -/
theorem all_durable (i : Inv p) (hb : p.D.bad = 0) (ho : o.k = 7) (hc : 0 ≤ c ∧ c < (p.X.N : Int)) :
    (p.run c o).1 = MdM.err 0 ∧ (p.run c o).2.X = p.X ∧ (∀ r, (p.run c o).2.D.wr r = none) ∧ ∀ r, r < p.X.n → p.X.T r = true → PageM.openC (r : Int) ((p.run c o).2.D.dur r) = 0 ∧ PageM.openB (r : Int) ((p.run c o).2.D.dur r) = p.X.B r := by
  have hr : p.X.run c o = (MdM.err 0, p.X) := by
    unfold Md.run
    rw [if_neg (by omega), if_neg (by omega), if_neg (by omega), if_neg (by omega), if_neg (by omega), if_neg (by omega), if_neg (by omega), if_pos ho]
  have hc0 : (p.X.run c o).1.c = 0 := by rw [hr]; rfl
  have hact : p.act c o (p.X.run c o).1 = Pl.synced (p.flushTo p.X.n) := by
    unfold Pl.act
    rw [if_neg (by omega), if_neg (by omega), if_neg (by omega), if_neg (by omega), if_neg (by omega), if_neg (by omega), if_pos ho]
  obtain ⟨g1, i1, _, hF, hcase⟩ := flushTo_spec i p.X.n
  rcases hcase with ⟨h0, hcl⟩ | ⟨_, hb'⟩
  · obtain ⟨g2, i2, hA2, h2⟩ := sync_spec i1
    have hb1 := g1.bad hb
    have h20 : (p.flushTo p.X.n).2.sync.1 = 0 := h2.resolve_right fun e => by omega
    have e : p.run c o = (MdM.err 0, ⟨p.X, (p.flushTo p.X.n).2.sync.2.D, (p.flushTo p.X.n).2.sync.2.A, (p.flushTo p.X.n).2.sync.2.L⟩) := by
      rw [run_ok hc0, hact]
      unfold Pl.synced
      rw [if_pos h0, fin_ok h20]
      dsimp only
      rw [if_neg (by decide), hr]
    rw [e]
    have hacc : Dev.accC (p.flushTo p.X.n).2.D = 0 := h20
    have hs : (p.flushTo p.X.n).2.sync.2.D = Dev.flushS (Dev.accS (p.flushTo p.X.n).2.D) := by
      show Dev.syncS _ = _
      unfold Dev.syncS
      rw [if_pos hacc]
    refine ⟨rfl, rfl, fun r => by rw [hs]; rfl, fun r hr hT => ?_⟩
    have hX1 : (p.flushTo p.X.n).2.X = p.X := g1.X
    have hdur : (p.flushTo p.X.n).2.sync.2.D.dur r = Dev.cur (p.flushTo p.X.n).2.D r := by
      rw [hs]
      show Dev.cur (Dev.accS _) r = _
      exact cur_acc _ r
    show PageM.openC (r : Int) ((p.flushTo p.X.n).2.sync.2.D.dur r) = 0 ∧ PageM.openB (r : Int) ((p.flushTo p.X.n).2.sync.2.D.dur r) = p.X.B r
    rw [hdur]
    have say : says (p.flushTo p.X.n).2.D r (p.X.B r) := by
      rcases ArM.find_cases (p.flushTo p.X.n).2.A (r : Int) with ⟨_, hno⟩ | ⟨x, hx, sx, px, _⟩
      · have := i1.rest r (by rw [hX1]; exact hr) (by simp) (by rw [hX1]; exact hT) hno
        rwa [hX1] at this
      · obtain ⟨_, _, _, u4⟩ := i1.use x r hx sx px (by simp)
        rw [hX1] at u4
        exact u4 (hcl x r (by rw [g1.n] at hx; exact hx) (by rw [← (hF x).1]; exact sx) (by rw [← (hF x).2]; exact px) hr)
    exact say
  · exact absurd hb hb'
end
end Go.Proofs.YtbnkpnllgoghnaaGreat.RfL

namespace Go.Proofs.YtbnkpnllgoghnaaGreat.RgMd
open Go.ChangeShapes Go.WideShapes Go.ChangeAt Go.RowKit
open Go.Proofs.YtbnkpnllgoghnaaGreat.Mem Go.Proofs.YtbnkpnllgoghnaaGreat.Blk Go.Proofs.YtbnkpnllgoghnaaGreat.Cells Go.Proofs.YtbnkpnllgoghnaaGreat.Orow Go.Proofs.YtbnkpnllgoghnaaGreat.Calls13 Go.Proofs.YtbnkpnllgoghnaaGreat.MdNear Go.Proofs.YtbnkpnllgoghnaaGreat.RfP Go.Proofs.YtbnkpnllgoghnaaGreat.RgS Go.Proofs.YtbnkpnllgoghnaaGreat.RgQ Go.Proofs.YtbnkpnllgoghnaaGreat.RgN
open Go.Proofs.YtbnkpnllgoghnaaGreat.MdM (Md MdOp Re)
open Go.Proofs.YtbnkpnllgoghnaaGreat.RfM (Pl)
theorem model_bytes {a : Md} (g : MdM.Good a) (c : Int) (o : MdOp) : MdM.Bytes (a.run c o).1.d := by
  let P : Re × Md → Prop := fun x => MdM.Bytes x.1.d
  show P (a.run c o)
  have nil : ∀ (r : Re) (m : Md), r.d = [] → P (r, m) := fun r m h => by show MdM.Bytes r.d; rw [h]; exact fun _ h => by cases h
  have pg : ∀ (x : Int) (f : Nat → Re × Md), (∀ q, P (f q)) → P (a.onPage x f) := fun x f h => RfE.each (P := P) (nil _ _ rfl) (RfE.each (P := P) (nil _ _ rfl) (h _))
  have hh : ∀ (x : Int) (f : Nat → Re × Md), (∀ q, P (f q)) → P (a.onHand c x f) := fun x f h => RfE.each (P := P) (nil _ _ rfl) (h _)
  unfold Md.run
  refine RfE.each (P := P) (nil _ _ rfl) (RfE.each (P := P) ?_ (RfE.each (P := P) ?_ (RfE.each (P := P) ?_ (RfE.each (P := P) ?_ (RfE.each (P := P) ?_ (RfE.each (P := P) ?_ (RfE.each (P := P) ?_ ?_)))))))
  · unfold Md.new
    exact RfE.each (P := P) (nil _ _ rfl) (RfE.each (P := P) (nil _ _ rfl) (nil _ _ rfl))
  · refine pg _ _ fun q => ?_
    unfold Md.fetch
    exact RfE.each (P := P) (nil _ _ rfl) (nil _ _ rfl)
  · refine hh _ _ fun q => ?_
    unfold Md.read
    refine RfE.each (P := P) (nil _ _ rfl) ?_
    intro z hz
    exact g.byt q z (List.mem_of_mem_drop (List.mem_of_mem_take hz))
  · refine hh _ _ fun q => ?_
    unfold Md.write
    exact RfE.each (P := P) (nil _ _ rfl) (nil _ _ rfl)
  · exact hh _ _ fun q => nil _ _ rfl
  · exact pg _ _ fun q => nil _ _ rfl
  · exact nil _ _ rfl
  · refine pg _ _ fun q => ?_
    unfold Md.del
    exact RfE.each (P := P) (nil _ _ rfl) (nil _ _ rfl)
/-- The model's state: its parts in box m, all of it the caller's. -/
def MB (w : World) (c : Nat → Nat) (m : Nat) (a : Md) : Prop := Out c m ∧ ∃ AT nT cT AB nB cB AH nH cH, Blk w m 64 [.slice AT nT cT, .slice AB nB cB, .slice AH nH cH] ∧ PmC.PAt w (fun k => Out c k ∧ k ≠ m) (.agg #[.slice AT nT cT, .slice AB nB cB, .slice AH nH cH]) a
section
variable {w w' w0 : World} {c c' : Nat → Nat} {m g n n' j j' l : Nat} {a U : Md} {F : Nat → Prop} {A A' : Option Addr} {zs d : List Int}
theorem MB.keep (h : MB w c m a) (hk : Kept F w w') (hF : ∀ k, k < w.heap.size → F k → ¬ Out c k) (hc : ∀ k, k < w.heap.size → c' k = c k) : MB w' c' m a := by
  obtain ⟨h1, AT, nT, cT, AB, nB, cB, AH, nH, cH, h2, h3⟩ := h
  have hm := h2.lt
  have hout : ∀ k, k < w.heap.size → Out c k → Out c' k := fun k hk x => by unfold Out; rw [hc k hk]; exact x
  refine ⟨hout m hm h1, AT, nT, cT, AB, nB, cB, AH, nH, cH, h2.kept hk fun e => hF m hm e h1, ?_⟩
  have h4 := (h3.mono (X := fun k => (Out c k ∧ k ≠ m) ∧ k < w.heap.size) fun k hk x => ⟨x, hk⟩).kept hk fun k x e => hF k x.2 e x.1.1
  exact h4.mono fun k _ x => ⟨hout k x.2 x.1.1, x.1.2⟩
theorem MB.went (h : MB w c m a) (hw : Went w c w' c') : MB w' c' m a := h.keep hw.kept (fun k hk e x => by have h1 := e.2; unfold Out at x; omega) hw.old
theorem MB.grow (h : MB w c m a) (hk : Grow w w') : MB w' (paint w.heap.size 0 c) m a := h.went (Went.grow hk)
theorem MB.drew (h : MB w c m a) : MB w.drew c m a := h.went (Went.drew w c)
theorem pat_went {v : Value} (h : PmC.PAt w (fun k => Out c k ∧ k ≠ m) v a) (hw : Went w c w' c') : PmC.PAt w' (fun k => Out c' k ∧ k ≠ m) v a := by
  have h4 := (h.mono (X := fun k => (Out c k ∧ k ≠ m) ∧ k < w.heap.size) fun k hk x => ⟨x, hk⟩).kept hw.kept fun k x e => by
    have h1 := e.2
    have h2 := x.1.1
    unfold Out at h2
    omega
  exact h4.mono fun k _ x => ⟨by unfold Out; rw [hw.old k x.2]; exact x.1.1, x.1.2⟩
/-- A new state is laid into the box. -/
theorem MB.put {AT AB AH : Option Addr} {nT cT nB cB nH cH : Nat} {x y z : Value} (ho : Out c m) (hb : Blk w m 64 [x, y, z]) (h : PmC.PAt w (fun k => Out c k ∧ k ≠ m) (.agg #[.slice AT nT cT, .slice AB nB cB, .slice AH nH cH]) U) :
    MB (((w.setCell ⟨m, 0, none⟩ (.slice AT nT cT)).setCell ⟨m, 1, none⟩ (.slice AB nB cB)).setCell ⟨m, 2, none⟩ (.slice AH nH cH)) c m U ∧
    Kept (· = m) w (((w.setCell ⟨m, 0, none⟩ (.slice AT nT cT)).setCell ⟨m, 1, none⟩ (.slice AB nB cB)).setCell ⟨m, 2, none⟩ (.slice AH nH cH)) := by
  have hk := PmD.put3_kept w m (.slice AT nT cT) (.slice AB nB cB) (.slice AH nH cH) (F := fun k => k = m) fun k e => e
  exact ⟨⟨ho, _, _, _, _, _, _, _, _, _, PmD.put3_blk hb, h.kept hk fun k x e => x.2 e⟩, hk⟩
theorem MB.new {v : Value} (h : PmC.PAt w (w0.heap.size ≤ ·) v a) (hc : ∀ k, w0.heap.size ≤ k → Out c k) : ∃ AT nT cT AB nB cB AH nH cH, v = .agg #[.slice AT nT cT, .slice AB nB cB, .slice AH nH cH] ∧
    MB (w.alloc (.cells #[.slice AT nT cT, .slice AB nB cB, .slice AH nH cH] 64)) (paint w.heap.size 0 c) w.heap.size a ∧ Grow w (w.alloc (.cells #[.slice AT nT cT, .slice AB nB cB, .slice AH nH cH] 64)) := by
  obtain ⟨AT, cT, AB, cB, AH, cH, rfl⟩ := PmF.pat_form h
  have hg : Grow w (w.alloc (.cells #[.slice AT a.n cT, .slice AB a.n cB, .slice AH a.N cH] 64)) := (Kept.refl _ _).alloc _
  refine ⟨_, _, _, _, _, _, _, _, _, rfl, ⟨out_new (c := 0) (Nat.le_refl _), _, _, _, _, _, _, _, _, _, Blk.new w _ _, ?_⟩, hg⟩
  have h2 := h.mono (X := fun k => Out c k ∧ k < w.heap.size) fun k hk x => ⟨hc k x, hk⟩
  exact (h2.grow hg).mono fun k _ x => ⟨by unfold Out; rw [paint_old x.2]; exact x.1, Nat.ne_of_lt x.2⟩
theorem bytes_take (h : BytesAt w A n n') (hl : l ≤ n) (hk : Kept F w w') (hF : ∀ k, k < w.heap.size → ¬ F k) : ∃ d, Sl w' w.heap.size .u8 A l d ∧ MdM.Bytes d ∧ l ≤ n' ∧ n' ≤ maxLen := by
  obtain ⟨d, hs, hb, h1, h2⟩ := h
  refine ⟨d.take l, ⟨by rw [List.length_take, hs.len]; omega, fun h0 => ?_⟩, fun z hz => hb z (List.mem_of_mem_take hz), by omega, h2⟩
  obtain ⟨b, off, rfl, hlt, hc⟩ := hs.at_ (by omega)
  refine ⟨b, off, rfl, hlt, fun j hj => ?_⟩
  rw [show (d.take l).getD j 0 = d.getD j 0 by simp [List.getD_eq_getElem?_getD, hj]]
  exact hk.cellN (hc j (by omega)) (hF b hlt)
theorem same_true {x y z : Int} (hz : Sl w w.heap.size .u8 A n zs) (hy : Sl w w.heap.size .u8 A' n' zs) (hb : MdM.Bytes zs) : Calls Tryz.prog 27 #[.agg #[.int .i64 x, .int .i64 y, .int .i64 z, .slice A n j], .agg #[.int .i64 x, .int .i64 y, .int .i64 z, .slice A' n' j']] w fun e w' => e = .returned (.bool true) ∧ Grow w w' :=
  (PmF.sameRes_any (m := j) (m' := j') hz hy hb hb).mono fun e w' ⟨⟨b, he, hb'⟩, hg⟩ => ⟨by rw [he, hb'.2 ⟨rfl, rfl, rfl, rfl⟩], hg⟩
end
/-- The sizes of the parts, from the state. -/
theorem MB.form {w : World} {c : Nat → Nat} {m : Nat} {a : Md} (h : MB w c m a) : ∃ AT cT AB cB AH cH, Blk w m 64 [.slice AT a.n cT, .slice AB a.n cB, .slice AH a.N cH] ∧ PmC.PAt w (fun k => Out c k ∧ k ≠ m) (.agg #[.slice AT a.n cT, .slice AB a.n cB, .slice AH a.N cH]) a := by
  obtain ⟨_, AT, nT, cT, AB, nB, cB, AH, nH, cH, h2, h3⟩ := h
  obtain ⟨AT', cT', AB', cB', AH', cH', e⟩ := PmF.pat_form h3
  simp only [Value.agg.injEq, Array.mk.injEq, List.cons.injEq, Value.slice.injEq, and_true] at e
  obtain ⟨⟨_, rfl, _⟩, ⟨_, rfl, _⟩, _, rfl, _⟩ := e
  exact ⟨_, _, _, _, _, _, h2, h3⟩
/-- What stands in the cells of a page that the state tells of. -/
theorem pat_page {w : World} {G : Nat → Prop} {a : Md} {AT AB AH : Option Addr} {nT cT nB cB nH cH : Nat} (h : PmC.PAt w G (.agg #[.slice AT nT cT, .slice AB nB cB, .slice AH nH cH]) a) {q : Nat} (hq : q < a.n) :
    ∃ gT gB gq cq, AT = some ⟨gT, 0, none⟩ ∧ AB = some ⟨gB, 0, none⟩ ∧ w.cell? ⟨gT, q, none⟩ = some (.bool (a.T q)) ∧ w.cell? ⟨gB, q, none⟩ = some (.slice (some ⟨gq, 0, none⟩) 16 cq) ∧ Sl w w.heap.size .u8 (some ⟨gq, 0, none⟩) 16 (a.B q) := by
  obtain ⟨gT, cT', gB, cB', gH, cH', qb, cb, q', cp, e, hm⟩ := h.mem
  simp only [Value.agg.injEq, Array.mk.injEq, List.cons.injEq, Value.slice.injEq, and_true] at e
  obtain ⟨⟨rfl, _, _⟩, ⟨rfl, _, _⟩, _⟩ := e
  refine ⟨gT, gB, qb q, cb q, rfl, rfl, ?_, ?_, ?_⟩
  · rw [OR.cell hm.tb (by omega)]; rfl
  · rw [OR.cell hm.bb (by omega)]; rfl
  · have h1 := hm.br q hq
    exact ⟨h.good.len q, fun _ => ⟨qb q, 0, rfl, h1.lt, fun j hj => by rw [Nat.zero_add, OR.cell h1 (by omega)]; rfl⟩⟩
/-- The pool, and the model's state in box m: the same pages, handles, texts. -/
structure MI (w : World) (ν : Nm) (m : Nat) (p : Pl) (k : Nat) (c : Nat → Nat) (wx : World) : Prop where
  s : Std w wx c ν p k
  x : MB wx c m p.X
  b : w.heap.size ≤ m
structure PN (n : Nat) (p : Pl) : Prop where
  xn : p.X.n = 5
  xN : p.X.N = 3
  an : p.A.n = n
  bad : p.D.bad = 0
theorem pn_run {p : Pl} {o : MdOp} (h : PN 5 p) (i : RfI.Inv p) (hd : MdM.Bytes o.d) (c : Int) : (p.run c o).1 = (p.X.run c o).1 ∧ (p.run c o).2.X = (p.X.run c o).2 ∧ PN 5 (p.run c o).2 := by
  obtain ⟨h1, _, h2, h3, h4⟩ := RfL.run_model (o := o) i (by rw [h.xn, h.an]; exact Nat.le_refl _) h.bad hd c
  have h5 := (RfE.model_tells p.X c o).2
  exact ⟨h1, h2, by rw [h2, h5.1]; exact h.xn, by rw [h2, h5.2]; exact h.xN, by rw [h3]; exact h.an, h4⟩
theorem pn_calm {n : Nat} {p : Pl} {o : MdOp} (h : PN n p) (i : RfI.Inv p) (hd : MdM.Bytes o.d) (c : Int) : ((p.run c o).1 = (p.X.run c o).1 ∧ (p.run c o).1.c ≠ 8 ∧ (p.run c o).2.X = (p.X.run c o).2 ∧ PN n (p.run c o).2) ∨ (p.run c o = (MdM.err 8, p) ∧ RfR.Full p ∧ (o.k = 1 ∨ o.k = 2)) := by
  rcases RfE.calm (o := o) i h.bad hd c with ⟨h1, h2, _, h3, h4, h5⟩ | hx
  · have h6 := (RfE.model_tells p.X c o).2
    exact .inl ⟨h1, h2, h3, by rw [h3, h6.1]; exact h.xn, by rw [h3, h6.2]; exact h.xN, by rw [h4]; exact h.an, h5⟩
  · exact .inr hx
/-- Fine's answer, not looked at. -/
def FineQ (w : World) (A : Option Addr) (len : Nat) (m : Int) (e : Ending) (w' : World) : Prop := w = w' ∧ ∃ b, e = .returned (.bool b) ∧ (b = true → (len : Int) ≤ m ∧ ∀ b off, A = some ⟨b, off, none⟩ → ∀ i, i < len → ∀ x, CallAt w b (off + i * 7) x → x.len ≤ 40)
theorem fine_q {w : World} {A : Option Addr} {len cap : Nat} (m : Int) (h : CallsAt w A len cap) : Calls Tryz.prog 18 #[.slice A len cap, .int .i64 m] w (FineQ w A len m) :=
  (fine_any m h).mono fun e w' ⟨h1, h2⟩ => ⟨h1, by
    rcases h2 with rfl | ⟨rfl, h3⟩
    · exact ⟨false, rfl, fun h => by cases h⟩
    · exact ⟨true, rfl, fun _ => h3⟩⟩
end Go.Proofs.YtbnkpnllgoghnaaGreat.RgMd

namespace Go.Proofs.YtbnkpnllgoghnaaGreat.RgTw
open Go.ChangeShapes Go.WideShapes Go.ChangeAt Go.RowKit
open Go.Proofs.YtbnkpnllgoghnaaGreat.Mem Go.Proofs.YtbnkpnllgoghnaaGreat.Blk Go.Proofs.YtbnkpnllgoghnaaGreat.Cells Go.Proofs.YtbnkpnllgoghnaaGreat.RfP Go.Proofs.YtbnkpnllgoghnaaGreat.RgS Go.Proofs.YtbnkpnllgoghnaaGreat.RgQ Go.Proofs.YtbnkpnllgoghnaaGreat.RgN
open Go.Proofs.YtbnkpnllgoghnaaGreat.MdM (Md MdOp Re)
open Go.Proofs.YtbnkpnllgoghnaaGreat.RfM (Pl)
open Go.Proofs.YtbnkpnllgoghnaaGreat.RgM (Bnd)
/-! ### An access that is to fail -/
/-- The pool whose device is told when to fail. -/
def fl (p : Pl) (m : Int) : Pl := ⟨p.X, Dev.failS p.D m, p.A, p.L⟩
theorem pfail {w : World} {c : Nat → Nat} {ν : Nm} {p : Pl} {k : Nat} (x : PAt w c ν p k) (m : Int) : Calls Tryz.prog 19 #[.pointer (some ⟨ν.d, 0, none⟩), .int .i64 m] w fun e w' => e = .returned (.bool (Dev.failB m)) ∧ ∃ c', Went w c w' c' ∧ PAt w' c' ν (fl p m) k := by
  refine (DevC.fail_any x.m.dev m).mono fun e w' ⟨he, hd, hk⟩ => ⟨he, ?_⟩
  obtain ⟨c', hw, hm⟩ := x.m.setD hd hk
  refine ⟨c', hw, ⟨hm, RfL.inv_fail x.i m, ⟨x.f.n, x.f.N, x.f.K⟩, ?_⟩⟩
  have hb := x.b
  unfold Bnd at hb ⊢
  show (Dev.failS p.D m).n ≤ k ∧ (Dev.failS p.D m).bad ≤ 1000000
  unfold Dev.failS
  split
  · rename_i h
    simp only [Dev.failB, Bool.and_eq_true, decide_eq_true_eq] at h
    exact ⟨hb.1, by show m.toNat ≤ 1000000; omega⟩
  · exact hb
/-- Both show the same. -/
structure FQ (n : Nat) (a b : Pl) : Prop where
  x : a.X = b.X
  an : a.A.n = n
  bn : b.A.n = n
  a0 : a.D.bad = 0
  b0 : b.D.bad = 0
section
variable {n : Nat} {a b : Pl} {o : MdOp}
theorem FQ.run (h : FQ n a b) (ia : RfI.Inv a) (ib : RfI.Inv b) (hd : MdM.Bytes o.d) (c : Int) : (a.run c o).1 = (b.run c o).1 ∧ FQ n (a.run c o).2 (b.run c o).2 := by
  obtain ⟨_, _, h1, h2, h3, h4, h5⟩ := RfL.run_same (o := o) ia ib h.x (h.an.trans h.bn.symm) h.b0 hd c
  rcases h5 with ⟨e1, e2, _⟩ | ⟨_, _, e3⟩
  · exact ⟨e1, e2, h1.trans h.an, h2.trans h.bn, h4 h.a0, h3⟩
  · exact absurd h.a0 e3
theorem fl0 (p : Pl) : (fl p 0).D.bad = 0 := rfl
theorem FQ.fail (h : FQ n a b) (ia : RfI.Inv a) (ib : RfI.Inv b) (hd : MdM.Bytes o.d) (c : Int) :
    (((fl a 1).run c o).1 = (b.run c o).1 ∧ (b.run c o).1.c ≠ 9 ∧ FQ n (fl ((fl a 1).run c o).2 0) (b.run c o).2) ∨ (((fl a 1).run c o).1 = MdM.err 9 ∧ FQ n (fl ((fl a 1).run c o).2 0) b) := by
  obtain ⟨_, _, h1, h2, h3, _, h5⟩ := RfL.run_same (a := fl a 1) (o := o) (RfL.inv_fail ia 1) ib h.x (h.an.trans h.bn.symm) h.b0 hd c
  rcases h5 with ⟨e1, e2, e3⟩ | ⟨e1, e2, _⟩
  · exact .inl ⟨e1, e3, e2, h1.trans h.an, h2.trans h.bn, fl0 _, h3⟩
  · exact .inr ⟨e1, e2.trans h.x, h1.trans h.an, h.bn, fl0 _, h.b0⟩
end
/-! ### Two pools -/
def Bx (W : Nat) (w : World) (cA cB : Nat → Nat) (bs : List (Nat × TypeId × List Value)) : Prop := ∀ b ∈ bs, Blk w b.1 b.2.1 b.2.2 ∧ Out cA b.1 ∧ Out cB b.1 ∧ W ≤ b.1
def Dx (w : World) (cA cB : Nat → Nat) (ds : List (Option Addr × Nat × List Int)) : Prop := ∀ d ∈ ds, Sl w w.heap.size .u8 d.1 d.2.1 d.2.2 ∧ (0 < d.2.1 → ∀ x, d.1 = some x → Out cA x.block ∧ Out cB x.block)
structure S2 (w : World) (νA νB : Nm) (wx : World) (cA : Nat → Nat) (a : Pl) (k : Nat) (cB : Nat → Nat) (b : Pl) (l : Nat) (bs : List (Nat × TypeId × List Value)) (ds : List (Option Addr × Nat × List Int)) : Prop where
  a : Std w wx cA νA a k
  b : Std w wx cB νB b l
  d : ∀ i, i < wx.heap.size → Out cA i ∨ Out cB i
  x : Bx w.heap.size wx cA cB bs
  y : Dx wx cA cB ds
section
variable {w w0 w1 wx w' : World} {νA νB : Nm} {cA cB cA' cB' : Nat → Nat} {a b a' b' : Pl} {k l k' l' n g : Nat} {bs : List (Nat × TypeId × List Value)} {ds : List (Option Addr × Nat × List Int)} {F : Nat → Prop} {A : Option Addr} {r : List Int} {t : TypeId} {cs cs' : List Value}
theorem out_eq {c c' : Nat → Nat} {i : Nat} (h : Out c i) (e : c' i = c i) : Out c' i := by unfold Out; rw [e]; exact h
theorem not_mine {c : Nat → Nat} {i : Nat} (h : Out c i) : ¬ Mine w c i := fun e => by have := e.2; unfold Out at h; omega
/-- One pool went on: the other one, and the caller's, stay. -/
theorem keep2 (h : S2 w νA νB wx cA a k cB b l bs ds) (hw : Went wx cA w' cA') : Std w w' (paint wx.heap.size 0 cB) νB b l ∧ (∀ i, i < w'.heap.size → Out cA' i ∨ Out (paint wx.heap.size 0 cB) i) ∧ Bx w.heap.size w' cA' (paint wx.heap.size 0 cB) bs ∧ Dx w' cA' (paint wx.heap.size 0 cB) ds := by
  have oB : ∀ i, i < wx.heap.size → Out cB i → Out (paint wx.heap.size 0 cB) i := fun i hi x => out_eq x (paint_old hi)
  have oA : ∀ i, i < wx.heap.size → Out cA i → Out cA' i := fun i hi x => out_eq x (hw.old i hi)
  refine ⟨⟨h.b.x.keep hw.kept (fun i hi m => ?_) fun i hi => paint_old hi, h.b.g.then hw.kept fun i hi m => ?_, fun i hi => (paint_old (Nat.lt_of_lt_of_le hi h.b.g.size)).trans (h.b.z i hi)⟩, fun i _ => ?_, fun q hq => ?_, fun q hq => ?_⟩
  · rcases h.d i hi with x | x
    · exact absurd m (not_mine x)
    · exact x
  · have := h.a.z i hi
    have := m.2
    omega
  · rcases Nat.lt_or_ge i wx.heap.size with hi | hi
    · rcases h.d i hi with x | x
      · exact .inl (oA i hi x)
      · exact .inr (oB i hi x)
    · exact .inr (out_new (c := 0) hi)
  · obtain ⟨h1, h2, h3, h4⟩ := h.x q hq
    exact ⟨h1.kept hw.kept (not_mine h2), oA _ h1.lt h2, oB _ h1.lt h3, h4⟩
  · obtain ⟨h1, h2⟩ := h.y q hq
    exact ⟨(sl_kept h1 hw.kept fun h0 x e => not_mine (h2 h0 x e).1).more hw.kept.size, fun h0 x e => ⟨oA _ (PmT.sl_lt h1 h0 e) (h2 h0 x e).1, oB _ (PmT.sl_lt h1 h0 e) (h2 h0 x e).2⟩⟩
theorem S2.flip (h : S2 w νA νB wx cA a k cB b l bs ds) : S2 w νB νA wx cB b l cA a k bs ds :=
  ⟨h.b, h.a, fun i hi => (h.d i hi).symm, fun q hq => ⟨(h.x q hq).1, (h.x q hq).2.2.1, (h.x q hq).2.1, (h.x q hq).2.2.2⟩, fun q hq => ⟨(h.y q hq).1, fun h0 x e => ⟨((h.y q hq).2 h0 x e).2, ((h.y q hq).2 h0 x e).1⟩⟩⟩
theorem S2.went (h : S2 w νA νB wx cA a k cB b l bs ds) (hw : Went wx cA w' cA') (hp : PAt w' cA' νA a' k') : S2 w νA νB w' cA' a' k' (paint wx.heap.size 0 cB) b l bs ds := by
  obtain ⟨h1, h2, h3, h4⟩ := keep2 h hw
  exact ⟨h.a.went hw hp, h1, h2, h3, h4⟩
/-- .. with what it told. -/
theorem S2.told (h : S2 w νA νB wx cA a k cB b l bs ds) (hw : Went wx cA w' cA') (hp : PAt w' cA' νA a' k') (hd : Dt w' cA' .u8 A n r) (hn : 0 < n → ∀ x, A = some x → wx.heap.size ≤ x.block) : S2 w νA νB w' cA' a' k' (paint wx.heap.size 0 cB) b l bs ((A, n, r) :: ds) := by
  have h1 := h.went hw hp
  refine ⟨h1.a, h1.b, h1.d, h1.x, fun q hq => ?_⟩
  rcases List.mem_cons.1 hq with rfl | hq
  · exact ⟨hd.s, fun h0 x e => ⟨hd.o h0 x e, out_new (c := 0) (hn h0 x e)⟩⟩
  · exact h1.y q hq
theorem S2.grow (h : S2 w νA νB wx cA a k cB b l bs ds) (hk : Grow wx w') : S2 w νA νB w' (paint wx.heap.size 0 cA) a k (paint wx.heap.size 0 cB) b l bs ds := h.went (Went.grow hk) (h.a.x.grow hk)
/-- A new box of the caller's. -/
theorem S2.add (h : S2 w νA νB wx cA a k cB b l bs ds) (hk : Grow wx w') (hb : Blk w' wx.heap.size t cs) : S2 w νA νB w' (paint wx.heap.size 0 cA) a k (paint wx.heap.size 0 cB) b l ((wx.heap.size, t, cs) :: bs) ds := by
  have h1 := h.grow hk
  refine ⟨h1.a, h1.b, h1.d, fun q hq => ?_, h1.y⟩
  rcases List.mem_cons.1 hq with rfl | hq
  · exact ⟨hb, out_new (c := 0) (Nat.le_refl _), out_new (c := 0) (Nat.le_refl _), h.a.g.size⟩
  · exact h1.x q hq
theorem S2.less (h : S2 w νA νB wx cA a k cB b l bs ds) : S2 w νA νB wx cA a k cB b l [] [] := ⟨h.a, h.b, h.d, fun q hq => by (cases hq), fun q hq => by (cases hq)⟩
theorem S2.up (h : S2 w νA νB wx cA a k cB b l bs ds) (hk : k ≤ k') (hl : l ≤ l') : S2 w νA νB wx cA a k' cB b l' bs ds := ⟨⟨h.a.x.up hk, h.a.g, h.a.z⟩, ⟨h.b.x.up hl, h.b.g, h.b.z⟩, h.d, h.x, h.y⟩
/-- A box is written; what was told lies elsewhere. -/
theorem S2.put (h : S2 w νA νB wx cA a k cB b l bs ds) (hk : Kept (· = g) wx w') (hs : w'.heap.size = wx.heap.size) (hg : w.heap.size ≤ g) (oA : Out cA g) (oB : Out cB g) (hl : ∀ q ∈ ds, 0 < q.2.1 → ∀ x, q.1 = some x → x.block ≠ g) : S2 w νA νB w' cA a k cB b l [] ds := by
  refine ⟨h.a.put hk fun i _ e => by rw [e]; exact ⟨hg, oA⟩, h.b.put hk fun i _ e => by rw [e]; exact ⟨hg, oB⟩, fun i hi => h.d i (by omega), fun q hq => by (cases hq), fun q hq => ?_⟩
  obtain ⟨h1, h2⟩ := h.y q hq
  exact ⟨(sl_kept h1 hk fun h0 x ex => hl q hq h0 x ex).more hk.size, h2⟩
theorem kept_ne (h : S2 w νA νB wx cA a k cB b l bs ds) (hg : (g, t, cs) ∈ bs) (hw : Went wx cA w' cA') : Kept (· ≠ g) wx w' := hw.kept.mono fun i _ m e => not_mine (h.x _ hg).2.1 (e ▸ m)
/-- Bytes lie in no box of an answer. -/
theorem u8_box {x y z : Int} {A' : Option Addr} {n' j' B : Nat} (hs : Sl wx B .u8 A n r) (hb : Blk wx g t [.int .i64 x, .int .i64 y, .int .i64 z, .slice A' n' j']) (hn : 0 < n) : ∀ x, A = some x → x.block ≠ g := by
  intro p e he
  obtain ⟨c, o, e2, _, hc⟩ := hs.at_ hn
  rw [e] at e2
  injection e2 with e2
  subst e2
  have h1 := hc 0 hn
  have he : c = g := he
  subst he
  rw [Nat.add_zero, hb.cell o] at h1
  rcases o with _ | _ | _ | _ | o
  · simp at h1
  · simp at h1
  · simp at h1
  · simp at h1
  · simp at h1
theorem s2_drew (h : S2 w νA νB wx cA a k cB b l bs ds) : S2 w νA νB wx.drew cA a k cB b l bs ds := by
  have hk : Grow wx wx.drew := Kept.drew' wx
  exact ⟨⟨h.a.x.drew, h.a.g.trans hk, h.a.z⟩, ⟨h.b.x.drew, h.b.g.trans hk, h.b.z⟩, h.d, fun q hq => ⟨(h.x q hq).1.grow hk, (h.x q hq).2⟩, fun q hq => ⟨(sl_kept (h.y q hq).1 hk fun _ _ _ e => e).more hk.size, (h.y q hq).2⟩⟩
/-- The boxes of the answers are not the call's. -/
theorem box_ne {b1 b2 : Nat} (h : S2 w νA νB wx cA a k cB b l bs ds) (h1 : (b1, 27, [.int .i64 0, .int .i64 0, .int .i64 0, .slice none 0 0]) ∈ bs) (h2 : (b2, 27, [.int .i64 0, .int .i64 0, .int .i64 0, .slice none 0 0]) ∈ bs) (h3 : (g, 57, cs) ∈ bs) : b1 ≠ g ∧ b2 ≠ g := by
  have key : ∀ (b : Nat) (zs : List Value), Blk wx b 27 zs → Blk wx g 57 cs → b ≠ g := fun b zs z1 z2 e => by
    subst e
    unfold Blk at z1 z2
    rw [z1] at z2
    simp at z2
  exact ⟨key _ _ (h.x _ h1).1 (h.x _ h3).1, key _ _ (h.x _ h2).1 (h.x _ h3).1⟩
/-- What both told is laid into both boxes. -/
theorem fin_two {b1 b2 : Nat} {xs ys : List Value} (h : S2 w νA νB wx cA a k cB b l bs ds) (h1 : (b1, 27, [.int .i64 0, .int .i64 0, .int .i64 0, .slice none 0 0]) ∈ bs) (h2 : (b2, 27, [.int .i64 0, .int .i64 0, .int .i64 0, .slice none 0 0]) ∈ bs) (hne : b1 ≠ b2) :
    Blk (wx.setRow b1 xs.toArray) b2 27 [.int .i64 0, .int .i64 0, .int .i64 0, .slice none 0 0] ∧ Blk ((wx.setRow b1 xs.toArray).setRow b2 ys.toArray) b1 27 xs ∧ Blk ((wx.setRow b1 xs.toArray).setRow b2 ys.toArray) b2 27 ys ∧ S2 w νA νB ((wx.setRow b1 xs.toArray).setRow b2 ys.toArray) cA a k cB b l [] ds := by
  obtain ⟨z1, o1, p1, q1⟩ := h.x _ h1
  obtain ⟨z2, o2, p2, q2⟩ := h.x _ h2
  obtain ⟨e1, k1⟩ := RgB.set_row z1 xs.toArray
  have z3 := z2.kept k1 fun e => hne e.symm
  obtain ⟨e2, k2⟩ := RgB.set_row z3 ys.toArray
  have s1 : S2 w νA νB (wx.setRow b1 xs.toArray) cA a k cB b l [] ds := h.put k1 (by simp) q1 o1 p1 fun q hq h0 x ex => u8_box (h.y q hq).1 z1 h0 x ex
  refine ⟨z3, ?_, ?_, s1.put k2 (by simp) q2 o2 p2 fun q hq h0 x ex => u8_box (s1.y q hq).1 z3 h0 x ex⟩
  · have := e1.kept k2 fun e => hne e
    simpa using this
  · simpa using e2
/-- Two new pools. -/
theorem two_new (h1 : PAt w0 cA νA a k) (g1 : Grow w w0) (z1 : ∀ i, i < w.heap.size → cA i = 0) (h2 : PAt w1 cB νB b l) (g2 : Grow w0 w1) (z2 : ∀ i, i < w0.heap.size → cB i = 0) : S2 w νA νB w1 (paint w0.heap.size 0 cA) a k cB b l [] [] := by
  have ha := (new_std h1 g1 z1).grow g2
  refine ⟨ha, ⟨h2, g1.trans g2, fun i hi => z2 i (Nat.lt_of_lt_of_le hi g1.size)⟩, fun i hi => ?_, fun q hq => by (cases hq), fun q hq => by (cases hq)⟩
  rcases Nat.lt_or_ge i w0.heap.size with hi | hi
  · exact .inr (.inl (by rw [z2 i hi]; decide))
  · exact .inl (out_new (c := 0) hi)
end
end Go.Proofs.YtbnkpnllgoghnaaGreat.RgTw

namespace Go.Proofs.YtbnkpnllgoghnaaGreat.Tree3
open Go Go.Proofs.YtbnkpnllgoghnaaGreat.Stages Go.Proofs.YtbnkpnllgoghnaaGreat.Trees
/-- An order whose first operations that act come three at once. -/
inductive T3
  | base (t : Tr)
  | three (e : Bool) (q : List Nat) (c1 : Nat) (t1 : T3) (c2 : Nat) (t2 : Tr) (c3 : Nat) (t3 : Tr)
section
variable {P : Program} {ops : Array Oper} {R R' : World → World → Prop} {late : List Nat} {Qn : Act → World → Prop}
def t3B (ops : Array Oper) (late : List Nat) : T3 → Array Bool → Bool
  | .base t, listed => trB ops late t listed
  | .three e q c1 t1 c2 t2 c3 t3, listed => quietB ops q listed && earlyB ops late e q && Region.ready .any ops (listAll q listed) == [c1, c2, c3] && t3B ops late t1 ((listAll q listed).setIfInBounds c1 true) && trB ops late t2 ((listAll q listed).setIfInBounds c2 true) && trB ops late t3 ((listAll q listed).setIfInBounds c3 true)
def t3Fuel : T3 → Nat
  | .base t => trFuel t
  | .three _ q _ t1 _ _ _ _ => q.length + (t3Fuel t1 + 1)
def t3Even : T3 → Bool
  | .base t => trEven t
  | .three _ _ _ t1 _ t2 _ t3 => t3Even t1 && trEven t2 && trEven t3 && t3Fuel t1 == trFuel t2 && t3Fuel t1 == trFuel t3
/-- What is to be shown. -/
def wpT3 (P : Program) (ops : Array Oper) (late : List Nat) (R R' : World → World → Prop) (Qn : Act → World → Prop) : T3 → Act → World → Prop
  | .base t, a, w => wpTr P ops late R R' Qn t a w
  | .three e q c1 t1 c2 t2 c3 t3, a, w => wpQuiet P ops (Cls (Er e R R') w) (fun a' => wpList P ops (Norm fun a'' w'' => Lr late R R' c1 w w'' ∧ wpT3 P ops late R R' Qn t1 a'' w'') (sel ops [c1]) a' w ∧ wpList P ops (Norm fun a'' w'' => Lr late R R' c2 w w'' ∧ wpTr P ops late R R' Qn t2 a'' w'') (sel ops [c2]) a' w ∧ wpList P ops (Norm fun a'' w'' => Lr late R R' c3 w w'' ∧ wpTr P ops late R R' Qn t3 a'' w'') (sel ops [c3]) a' w) (sel ops q) a
/-- One operation that acts, at the list of them alone. -/
theorem act_one {i n : Nat} {listed : Array Bool} {a : Act} {w : World} {K : Act → World → Prop} (hmem : i ∈ Region.ready .any ops listed)
    (hgo : ∀ (a : Act) (w : World), K a w → wpAnyL P ops (Lr late R R') Qn n (listed.setIfInBounds i true) a w)
    (ha : wpList P ops (Norm fun a'' w'' => Lr late R R' i w w'' ∧ K a'' w'') (sel ops [i]) a w) :
    wpOp P ops (Norm fun _ _ => False) i (fun a' w' => Lr late R R' i w w' ∧ wpAnyL P ops (Lr late R R') Qn n (listed.setIfInBounds i true) a' w') a w := by
  obtain ⟨o, ho, _⟩ := (mem_ready.1 hmem).2
  have hsel : sel ops [i] = [o] := sel_cons ho _
  rw [hsel] at ha
  unfold wpOp
  simp only [ho]
  unfold wpList at ha
  split
  · rename_i hw
    rw [if_pos hw] at ha
    rcases ha with ha | ⟨_, hlo⟩
    · refine .inl ?_
      have h1 := Oper.wp_mono (K' := fun a' w' => Lr late R R' i w w' ∧ wpAnyL P ops (Lr late R R') Qn n (listed.setIfInBounds i true) a' w') (fun a'' w'' (hk : wpList P ops (Norm fun a'' w'' => Lr late R R' i w w'' ∧ K a'' w'') [] a'' w'') => ⟨hk.1, hgo a'' w'' hk.2⟩) ha
      exact upon_turn (fun _ _ _ hh => hh.elim) (fun ⟨_, _, hh⟩ => hh.elim) h1
    · exact (norm_lets hlo).elim
  · rename_i hw
    rw [if_neg hw] at ha
    have hk : Lr late R R' i w w ∧ _ := ha
    exact ⟨hk.1, hgo _ _ hk.2⟩
theorem t3_walk (hr : ∀ a, R a a) (ht : ∀ a b c, R a b → R b c → R a c) (hr' : ∀ a, R' a a) (ht' : ∀ a b c, R' a b → R' b c → R' a c) (hsub : ∀ a b, R a b → R' a b) (hs : Region.noSelect ops = true) :
    ∀ (t : T3) (listed : Array Bool) (a : Act) (w : World), t3B ops late t listed = true → t3Even t = true → wpT3 P ops late R R' Qn t a w → wpAnyL P ops (Lr late R R') Qn (t3Fuel t) listed a w := by
  have er : ∀ e a, Er e R R' a a := fun e a => by cases e <;> simp [Er, hr, hr']
  have et : ∀ e a b c, Er e R R' a b → Er e R R' b c → Er e R R' a c := fun e a b c => by
    cases e
    · exact ht' a b c
    · exact ht a b c
  have hl : ∀ j a, Lr late R R' j a a := fun j a => by unfold Lr; split <;> first | exact hr' a | exact hr a
  intro t
  induction t with
  | base t =>
    intro listed a w hB hE h
    exact tr_walk hr ht hr' ht' hsub hs t listed a w hB hE h
  | three e q c1 t1 c2 t2 c3 t3 ih1 =>
    intro listed a w hB hE h
    simp only [t3B, Bool.and_eq_true, beq_iff_eq] at hB
    obtain ⟨⟨⟨⟨⟨hq, he⟩, hc⟩, hrest1⟩, hrest2⟩, hrest3⟩ := hB
    simp only [t3Even, Bool.and_eq_true, beq_iff_eq] at hE
    obtain ⟨⟨⟨⟨hE1, hE2⟩, hE3⟩, hEE⟩, hEF⟩ := hE
    refine quiet_walkL (Qn := Qn) (er e) hl (et e) hs _ w q listed a hq (early_spec he hsub) (wpQuiet_mono (fun a' ha' => ?_) _ _ h)
    refine ⟨(fun h0 => by rw [hc] at h0; cases h0), fun i hi => ?_⟩
    have hi0 := hi
    rw [hc] at hi
    have hic : i = c1 ∨ i = c2 ∨ i = c3 := by simpa using hi
    rcases hic with rfl | rfl | rfl
    · exact act_one hi0 (fun a'' w'' hk => ih1 _ a'' w'' hrest1 hE1 hk) ha'.1
    · rw [hEE]
      exact act_one hi0 (fun a'' w'' hk => tr_walk hr ht hr' ht' hsub hs t2 _ a'' w'' hrest2 hE2 hk) ha'.2.1
    · rw [hEF]
      exact act_one hi0 (fun a'' w'' hk => tr_walk hr ht hr' ht' hsub hs t3 _ a'' w'' hrest3 hE3 hk) ha'.2.2
/-- **The walk along such a tree serves every order.** -/
theorem wp_region_tree3 {id : Nat} {Q : Exit → Act → World → Prop} {a : Act} {w : World} {l : List Oper} (R R' : World → World → Prop) (hr : ∀ a, R a a) (ht : ∀ a b c, R a b → R b c → R a c) (hr' : ∀ a, R' a a) (ht' : ∀ a b c, R' a b → R' b c → R' a c) (hsub : ∀ a b, R a b → R' a b)
    (late : List Nat) (t : T3) (hm : P.follows .mixedOrders = true) (hB : (Region.noSelect l.toArray && t3B l.toArray late t (Array.replicate l.length false) && t3Even t && t3Fuel t == l.length) = true)
    (h : wpT3 P l.toArray late R R' (fun a' w' => Q .normal a' w') t a w.drew) : (Code.region id l.toArray true).wp P Q a w := by
  simp only [Bool.and_eq_true, beq_iff_eq] at hB
  obtain ⟨⟨⟨hs, hb⟩, he⟩, hf⟩ := hB
  refine wp_region_any hm (wpAny_of_L (L := Lr late R R') _ _ _ _ ?_)
  have := t3_walk (P := P) (Qn := fun a' w' => Q .normal a' w') hr ht hr' ht' hsub hs t _ a _ hb he h
  rw [hf] at this
  simpa using this
theorem t3_three {e : Bool} {q : List Nat} {c1 c2 c3 : Nat} {t1 : T3} {t2 t3 : Tr} {a : Act} {w : World}
    (h : ∀ K1 : Act → World → Prop, (∀ a'' w'', Lr late R R' c1 w w'' → wpT3 P ops late R R' Qn t1 a'' w'' → K1 a'' w'') → ∀ K2 : Act → World → Prop, (∀ a'' w'', Lr late R R' c2 w w'' → wpTr P ops late R R' Qn t2 a'' w'' → K2 a'' w'') → ∀ K3 : Act → World → Prop, (∀ a'' w'', Lr late R R' c3 w w'' → wpTr P ops late R R' Qn t3 a'' w'' → K3 a'' w'') →
      wpQuiet P ops (fun w' => ∃ p : Up (Er e R R') w, w' = p.u) (fun a' => wpList P ops (Norm K1) (sel ops [c1]) a' w ∧ wpList P ops (Norm K2) (sel ops [c2]) a' w ∧ wpList P ops (Norm K3) (sel ops [c3]) a' w) (sel ops q) a) : wpT3 P ops late R R' Qn (.three e q c1 t1 c2 t2 c3 t3) a w :=
  h _ (fun _ _ h1 h2 => ⟨h1, h2⟩) _ (fun _ _ h1 h2 => ⟨h1, h2⟩) _ (fun _ _ h1 h2 => ⟨h1, h2⟩)
theorem t3_threeE {q : List Nat} {c1 c2 c3 : Nat} {t1 : T3} {t2 t3 : Tr} {a : Act} {w : World}
    (h : ∀ K1 : Act → World → Prop, (∀ a'' w'', Lr late R R' c1 w w'' → wpT3 P ops late R R' Qn t1 a'' w'' → K1 a'' w'') → ∀ K2 : Act → World → Prop, (∀ a'' w'', Lr late R R' c2 w w'' → wpTr P ops late R R' Qn t2 a'' w'' → K2 a'' w'') → ∀ K3 : Act → World → Prop, (∀ a'' w'', Lr late R R' c3 w w'' → wpTr P ops late R R' Qn t3 a'' w'' → K3 a'' w'') →
      wpQuiet P ops (fun w' => ∃ p : Up R w, w' = p.u) (fun a' => wpList P ops (Norm K1) (sel ops [c1]) a' w ∧ wpList P ops (Norm K2) (sel ops [c2]) a' w ∧ wpList P ops (Norm K3) (sel ops [c3]) a' w) (sel ops q) a) : wpT3 P ops late R R' Qn (.three true q c1 t1 c2 t2 c3 t3) a w :=
  t3_three (e := true) h
theorem t3_base {t : Tr} {a : Act} {w : World} (h : wpTr P ops late R R' Qn t a w) : wpT3 P ops late R R' Qn (.base t) a w := h
end
end Go.Proofs.YtbnkpnllgoghnaaGreat.Tree3
