/-
  Package model: SameRes; what a law's walk is offered at a call of Do ('t_do').
-/
import Derived.Test.YtjdlpknflhgkfaaPmDo
import Derived.Test.YtjdlpknflhgkfaaPmNew
namespace Go.Proofs.Ytjdlpknflhgkfaa.PmF
open Go.ChangeShapes Go.WideShapes Go.ChangeAt Go.RowKit
open Go.Proofs.Ytjdlpknflhgkfaa.Mem Go.Proofs.Ytjdlpknflhgkfaa.Blk Go.Proofs.Ytjdlpknflhgkfaa.Cells Go.Proofs.Ytjdlpknflhgkfaa.Orow Go.Proofs.Ytjdlpknflhgkfaa.GrC Go.Proofs.Ytjdlpknflhgkfaa.MdM Go.Proofs.Ytjdlpknflhgkfaa.MdC Go.Proofs.Ytjdlpknflhgkfaa.MdD Go.Proofs.Ytjdlpknflhgkfaa.PmC Go.Proofs.Ytjdlpknflhgkfaa.PmM Go.Proofs.Ytjdlpknflhgkfaa.PmS Go.Proofs.Ytjdlpknflhgkfaa.PmE Go.Proofs.Ytjdlpknflhgkfaa.PmN Go.Proofs.Ytjdlpknflhgkfaa.PmP Go.Proofs.Ytjdlpknflhgkfaa.Stages

section
variable {w w' : World} {G : Nat → Prop} {A A' AT AB AH D : Option Addr} {n n' m m' nT cT nB cB nH cH dl dc : Nat} {zs ys d rd : List Int} {c p h c' p' h' rc rp rh : Int} {a U : Md} {R : Re}
set_option maxHeartbeats 2000000 in
theorem sameRes_any (hz : Sl w w.heap.size .u8 A n zs) (hy : Sl w w.heap.size .u8 A' n' ys) (bz : Bytes zs) (by' : Bytes ys) : Calls Try.prog 75 #[.agg #[.int .i64 c, .int .i64 p, .int .i64 h, .slice A n m], .agg #[.int .i64 c', .int .i64 p', .int .i64 h', .slice A' n' m']] w (Tells (c = c' ∧ p = p' ∧ h = h' ∧ zs = ys) w) := by
  have hb := Blk.new w 27 [.int .i64 c, .int .i64 p, .int .i64 h, .slice A n m]
  have hg : Grow w (w.alloc (.cells #[.int .i64 c, .int .i64 p, .int .i64 h, .slice A n m] 27)) := (Kept.refl _ _).alloc _
  have hz1 : (w.alloc (.cells #[.int .i64 c, .int .i64 p, .int .i64 h, .slice A n m] 27)).heap.size = w.heap.size + 1 := by simp
  have hb2 := Blk.new (w.alloc (.cells #[.int .i64 c, .int .i64 p, .int .i64 h, .slice A n m] 27)) 27 [.int .i64 c', .int .i64 p', .int .i64 h', .slice A' n' m']
  have hg2 : Grow (w.alloc (.cells #[.int .i64 c, .int .i64 p, .int .i64 h, .slice A n m] 27)) ((w.alloc (.cells #[.int .i64 c, .int .i64 p, .int .i64 h, .slice A n m] 27)).alloc (.cells #[.int .i64 c', .int .i64 p', .int .i64 h', .slice A' n' m'] 27)) := (Kept.refl _ _).alloc _
  rw [hz1] at hb2
  have hb1 := hb.grow hg2
  have HG0 := Lib.hid (hg.trans hg2)
  have HE := Lib.hid (equal_bytes (c := m) (c' := m') (sl_grow hz HG0.out) (sl_grow hy HG0.out) bz by')
  have s0 := hb1.cell 0
  have s1 := hb1.cell 1
  have s2 := hb1.cell 2
  have s3 := hb1.cell 3
  have t0 := hb2.cell 0
  have t1 := hb2.cell 1
  have t2 := hb2.cell 2
  have t3 := hb2.cell 3
  simp only [List.getElem?_cons_zero, List.getElem?_cons_succ] at s0 s1 s2 s3 t0 t1 t2 t3
  clear hb hg hz1 hb2 hg2 hb1 hz hy bz by'
  obtain ⟨P, hP⟩ : ∃ P, P = Tells (c = c' ∧ p = p' ∧ h = h' ∧ zs = ys) w := ⟨_, rfl⟩
  have HP := Lib.hid hP
  rw [← hP]
  clear hP
  by_cases e1 : c = c'
  · subst e1
    by_cases e2 : p = p'
    · subst e2
      by_cases e3 : h = h'
      · subst e3
        go_enter Try.func75, Try.ntmps75
        go_upto_region 1 with (fail)
        generalize (w.alloc (.cells #[.int .i64 c, .int .i64 p, .int .i64 h, .slice A n m] 27)).alloc (.cells #[.int .i64 c, .int .i64 p, .int .i64 h, .slice A' n' m'] 27) = w0 at *
        go_wp2_with (go_at_call 46; (with_reducible refine HE.out.mono ?_); rintro e w1 ⟨⟨b1, rfl, hb1⟩, hg1⟩; have HG1 := Lib.hid hg1; have HB1 := Lib.hid hb1; clear hg1 hb1)
        rw [HP.out]
        exact ⟨⟨b1, rfl, fun x => ⟨trivial, trivial, trivial, HB1.out.1 x⟩, fun x => HB1.out.2 x.2.2.2⟩, HG0.out.trans HG1.out⟩
      · have HN : Hid (¬ (c = c ∧ p = p ∧ h = h' ∧ zs = ys)) := fun x => e3 x.2.2.1
        have hb : (h == h') = false := by simpa using e3
        clear e3
        go_enter Try.func75, Try.ntmps75
        go_upto_region 1 with (fail)
        generalize (w.alloc (.cells #[.int .i64 c, .int .i64 p, .int .i64 h, .slice A n m] 27)).alloc (.cells #[.int .i64 c, .int .i64 p, .int .i64 h', .slice A' n' m'] 27) = w0 at *
        go_wp2
        rw [HP.out]
        exact Tells.no HN.out HG0.out
    · have HN : Hid (¬ (c = c ∧ p = p' ∧ h = h' ∧ zs = ys)) := fun x => e2 x.2.1
      have hb : (p == p') = false := by simpa using e2
      clear e2
      go_enter Try.func75, Try.ntmps75
      go_upto_region 1 with (fail)
      generalize (w.alloc (.cells #[.int .i64 c, .int .i64 p, .int .i64 h, .slice A n m] 27)).alloc (.cells #[.int .i64 c, .int .i64 p', .int .i64 h', .slice A' n' m'] 27) = w0 at *
      go_wp2
      rw [HP.out]
      exact Tells.no HN.out HG0.out
  · have HN : Hid (¬ (c = c' ∧ p = p' ∧ h = h' ∧ zs = ys)) := fun x => e1 x.1
    have hb : (c == c') = false := by simpa using e1
    clear e1
    go_enter Try.func75, Try.ntmps75
    go_upto_region 1 with (fail)
    generalize (w.alloc (.cells #[.int .i64 c, .int .i64 p, .int .i64 h, .slice A n m] 27)).alloc (.cells #[.int .i64 c', .int .i64 p', .int .i64 h', .slice A' n' m'] 27) = w0 at *
    go_wp2
    rw [HP.out]
    exact Tells.no HN.out HG0.out
/-- What a call of Do makes and tells, in parts. -/
def DoQ (rc rp rh : Int) (rd : List Int) (U : Md) (w : World) (e : Ending) (w' : World) : Prop := ∃ AT nT cT AB nB cB AH nH cH A n cap, e = .returned (.tuple #[.agg #[.slice AT nT cT, .slice AB nB cB, .slice AH nH cH], .agg #[.int .i64 rc, .int .i64 rp, .int .i64 rh, .slice A n cap]]) ∧ PAt w' (w.heap.size ≤ ·) (.agg #[.slice AT nT cT, .slice AB nB cB, .slice AH nH cH]) U ∧ (Sl w' w'.heap.size .u8 A n rd ∧ (0 < n → ∀ x, A = some x → w.heap.size ≤ x.block) ∧ PmT.Fz w' A n) ∧ Grow w w'
theorem pat_form {v : Value} (h : PAt w G v a) : ∃ AT cT AB cB AH cH, v = .agg #[.slice AT a.n cT, .slice AB a.n cB, .slice AH a.N cH] := by
  obtain ⟨gT, cT, gB, cB, gH, cH, qb, cb, q, cp, rfl, _⟩ := h.mem
  exact ⟨_, _, _, _, _, _, rfl⟩
theorem t_do {v : Value} (hs : PAt w G v a) (c k p h o n : Int) (hd : Sl w w.heap.size .u8 D dl d) (hb : Bytes d) (hl : dl ≤ dc) (hm : dc ≤ maxLen) (h63 : o ≤ 9223372036854775807) (hr : a.run c ⟨k, p, h, o, n, d⟩ = (⟨rc, rp, rh, rd⟩, U)) :
    Calls Try.prog 27 #[v, .int .i64 c, .agg #[.int .i64 k, .int .i64 p, .int .i64 h, .int .i64 o, .int .i64 n, .slice D dl dc]] w (DoQ rc rp rh rd U w) := by
  refine (mdo_any hs.seen hs.good c (o := ⟨k, p, h, o, n, d⟩) ⟨D, dl, dc, rfl, hd, hb, hl, hm⟩ h63).mono fun e w' hq => ?_
  unfold DoP at hq
  rw [hr] at hq
  obtain ⟨sv, rv, rfl, hpa, ⟨A, n, cap, rfl, hz, hA, hfz⟩, hg⟩ := hq
  obtain ⟨AT, cT, AB, cB, AH, cH, rfl⟩ := pat_form hpa
  exact ⟨_, _, _, _, _, _, _, _, _, _, _, _, rfl, hpa, ⟨hz, hA, hfz⟩, hg⟩
/-- Do of a call without data. -/
theorem t_do0 {v : Value} (hs : PAt w G v a) (c k p h o n : Int) (h63 : o ≤ 9223372036854775807) (hr : a.run c ⟨k, p, h, o, n, []⟩ = (⟨rc, rp, rh, rd⟩, U)) :
    Calls Try.prog 27 #[v, .int .i64 c, .agg #[.int .i64 k, .int .i64 p, .int .i64 h, .int .i64 o, .int .i64 n, .slice none 0 0]] w (DoQ rc rp rh rd U w) :=
  t_do hs c k p h o n (Sl.nil _ _ _ _) (fun _ h => by cases h) (Nat.le_refl _) (Nat.zero_le _) h63 hr
theorem t_may {v : Value} (hs : PAt w G v a) : Calls Try.prog 41 #[v] w fun e w' => e = .returned (.bool true) ∧ Grow w w' := by
  obtain ⟨AT, cT, AB, cB, AH, cH, rfl, hp⟩ := hs.seen
  refine (may_any hp (good_few hs.good)).mono fun e w' ⟨⟨b, he, hb⟩, hg⟩ => ⟨?_, hg⟩
  rw [he, hb.2 (good_may hs.good)]
theorem t_pins {v : Value} {z : Int} (hs : PAt w G v a) (p : Int) (hz : (a.pins p : Int) = z) : Calls Try.prog 96 #[v, .int .i64 p] w fun e w' => e = .returned (.int .i64 z) ∧ Grow w w' := by
  subst hz
  obtain ⟨AT, cT, AB, cB, AH, cH, rfl, hp⟩ := hs.seen
  exact ppins_any hp hs.good p
theorem t_same {v v' : Value} {G' : Nat → Prop} {a' : Md} (hs : PAt w G v a) (hs' : PAt w G' v' a') {b : Bool} (hb : b = true ↔ (stOf a).same (stOf a')) : Calls Try.prog 28 #[v, v'] w fun e w' => e = .returned (.bool b) ∧ Grow w w' := by
  refine (same_any hs.seen hs'.seen (good_few hs.good)).mono fun e w' ⟨⟨b', he, hb'⟩, hg⟩ => ⟨?_, hg⟩
  rw [he]
  congr 1
  congr 1
  rw [Bool.eq_iff_iff, hb, hb']
theorem t_mayZero (w : World) : Calls Try.prog 41 #[.agg #[.slice none 0 0, .slice none 0 0, .slice none 0 0]] w fun e w' => e = .returned (.bool false) ∧ Grow w w' := by
  have hp : Parts w none 0 none 0 none 0 ⟨0, 0, 0, fun _ => false, fun _ => [], fun _ => []⟩ := ⟨fun h => absurd h (Nat.lt_irrefl 0), fun h => absurd h (Nat.lt_irrefl 0), fun h => absurd h (Nat.lt_irrefl 0), fun i hi => absurd hi (Nat.not_lt_zero i)⟩
  refine (may_any hp ⟨by decide, by decide, by decide, fun i hi => absurd hi (Nat.not_lt_zero i), fun i hi => absurd hi (Nat.not_lt_zero i)⟩).mono fun e w' ⟨⟨b, he, hb⟩, hg⟩ => ⟨?_, hg⟩
  rw [he]
  cases b with
  | false => rfl
  | true => have := (hb.1 rfl).1.1.1; exact absurd this (by decide)

theorem field_st (w : World) (A : Option Addr) (n c : Nat) (y z : Value) : (Instr.field 39 (.agg #[.slice A n c, y, z]) 0).run Try.prog w = .ok (.slice A n c) w := by
  simp [Instr.field, asAgg, part, isAgg, run_underlying Try.underlying39, run_underlying Try.underlying35]
/-! ### Boxes of a law's variables -/
/-- Box b holds the state a; block m is none of the state's. -/
def SB (w : World) (m b : Nat) (a : Md) : Prop := ∃ AT nT cT AB nB cB AH nH cH, Blk w b 39 [.slice AT nT cT, .slice AB nB cB, .slice AH nH cH] ∧ PAt w (fun k => k ≠ m) (.agg #[.slice AT nT cT, .slice AB nB cB, .slice AH nH cH]) a
theorem SB.kept {m b : Nat} (h : SB w m b a) (hk : Kept (fun k => k = m) w w') (hb : b ≠ m) : SB w' m b a := by
  obtain ⟨AT, nT, cT, AB, nB, cB, AH, nH, cH, h1, h2⟩ := h
  exact ⟨AT, nT, cT, AB, nB, cB, AH, nH, cH, h1.kept hk hb, h2.kept hk fun k x e => x e⟩
theorem SB.grow {m b : Nat} (h : SB w m b a) (hk : Grow w w') : SB w' m b a := by
  obtain ⟨AT, nT, cT, AB, nB, cB, AH, nH, cH, h1, h2⟩ := h
  exact ⟨AT, nT, cT, AB, nB, cB, AH, nH, cH, h1.grow hk, h2.grow hk⟩
theorem SB.good {m b : Nat} (h : SB w m b a) : MdM.Good a := by
  obtain ⟨AT, nT, cT, AB, nB, cB, AH, nH, cH, h1, h2⟩ := h
  exact h2.good
theorem SB.lt {m b : Nat} (h : SB w m b a) : b < w.heap.size := by
  obtain ⟨AT, nT, cT, AB, nB, cB, AH, nH, cH, h1, h2⟩ := h
  exact h1.lt
/-- The overwritten box has three cells, which may be written. -/
theorem SB.box {m b : Nat} (h : SB w m b a) : ∃ x y z, Blk w b 39 [x, y, z] := by
  obtain ⟨AT, nT, cT, AB, nB, cB, AH, nH, cH, h1, h2⟩ := h
  exact ⟨_, _, _, h1⟩
section
variable {X1 X2 X3 : Option Addr} {n1 n2 n3 c1 c2 c3 : Nat}
theorem sb_put {m : Nat} {x y z : Value} (hp : PAt w (fun k => k ≠ m) (.agg #[.slice X1 n1 c1, .slice X2 n2 c2, .slice X3 n3 c3]) a) (hm : Blk w m 39 [x, y, z]) :
    SB (((w.setCell ⟨m, 0, none⟩ (.slice X1 n1 c1)).setCell ⟨m, 1, none⟩ (.slice X2 n2 c2)).setCell ⟨m, 2, none⟩ (.slice X3 n3 c3)) m m a ∧ Kept (fun k => k = m) w (((w.setCell ⟨m, 0, none⟩ (.slice X1 n1 c1)).setCell ⟨m, 1, none⟩ (.slice X2 n2 c2)).setCell ⟨m, 2, none⟩ (.slice X3 n3 c3)) := by
  have hk : Kept (fun k => k = m) w (((w.setCell ⟨m, 0, none⟩ (.slice X1 n1 c1)).setCell ⟨m, 1, none⟩ (.slice X2 n2 c2)).setCell ⟨m, 2, none⟩ (.slice X3 n3 c3)) := PmD.put3_kept w m _ _ _ fun k e => e
  exact ⟨⟨_, _, _, _, _, _, _, _, _, PmD.put3_blk hm, hp.kept hk fun k x e => x e⟩, hk⟩
/-- The first box. -/
theorem sb_new (h : PAt w G (.agg #[.slice X1 n1 c1, .slice X2 n2 c2, .slice X3 n3 c3]) a) : SB (w.alloc (.cells #[.slice X1 n1 c1, .slice X2 n2 c2, .slice X3 n3 c3] 39)) w.heap.size w.heap.size a ∧ Grow w (w.alloc (.cells #[.slice X1 n1 c1, .slice X2 n2 c2, .slice X3 n3 c3] 39)) := by
  have hg : Grow w (w.alloc (.cells #[.slice X1 n1 c1, .slice X2 n2 c2, .slice X3 n3 c3] 39)) := (Kept.refl _ _).alloc _
  exact ⟨⟨_, _, _, _, _, _, _, _, _, Blk.new w _ _, (h.mono (X := fun k => k ≠ w.heap.size) fun k hk _ => Nat.ne_of_lt hk).grow hg⟩, hg⟩
/-- A state's and a result's box, behind a call that began at heap size b0. -/
theorem sb_step {b0 m : Nat} (h : PAt w (b0 ≤ ·) (.agg #[.slice X1 n1 c1, .slice X2 n2 c2, .slice X3 n3 c3]) a) (hm : m < b0) (c p hh : Int) (A : Option Addr) (n cap : Nat) :
    SB ((w.alloc (.cells #[.slice X1 n1 c1, .slice X2 n2 c2, .slice X3 n3 c3] 39)).alloc (.cells #[.int .i64 c, .int .i64 p, .int .i64 hh, .slice A n cap] 27)) m w.heap.size a ∧
    Blk ((w.alloc (.cells #[.slice X1 n1 c1, .slice X2 n2 c2, .slice X3 n3 c3] 39)).alloc (.cells #[.int .i64 c, .int .i64 p, .int .i64 hh, .slice A n cap] 27)) (w.heap.size + 1) 27 [.int .i64 c, .int .i64 p, .int .i64 hh, .slice A n cap] ∧
    Grow w ((w.alloc (.cells #[.slice X1 n1 c1, .slice X2 n2 c2, .slice X3 n3 c3] 39)).alloc (.cells #[.int .i64 c, .int .i64 p, .int .i64 hh, .slice A n cap] 27)) := by
  have g1 : Grow w (w.alloc (.cells #[.slice X1 n1 c1, .slice X2 n2 c2, .slice X3 n3 c3] 39)) := (Kept.refl _ _).alloc _
  have b1 := Blk.new w 39 [.slice X1 n1 c1, .slice X2 n2 c2, .slice X3 n3 c3]
  have z1 : (w.alloc (.cells #[.slice X1 n1 c1, .slice X2 n2 c2, .slice X3 n3 c3] 39)).heap.size = w.heap.size + 1 := by simp
  have h1 := h.grow g1
  generalize w.alloc (.cells #[.slice X1 n1 c1, .slice X2 n2 c2, .slice X3 n3 c3] 39) = u at *
  have g2 : Grow u (u.alloc (.cells #[.int .i64 c, .int .i64 p, .int .i64 hh, .slice A n cap] 27)) := (Kept.refl _ _).alloc _
  have b2 := Blk.new u 27 [.int .i64 c, .int .i64 p, .int .i64 hh, .slice A n cap]
  rw [z1] at b2
  exact ⟨⟨_, _, _, _, _, _, _, _, _, b1.grow g2, (h1.grow g2).mono fun k _ (x : b0 ≤ k) => by omega⟩, b2, g1.trans g2⟩
end
end
end Go.Proofs.Ytjdlpknflhgkfaa.PmF
