/-
  Package hist: byOrder, what the model makes of the events that took effect (chapter 14).
-/
import Derived.Test.YtjdlpknflhgkfaaHsOrder
import Derived.Test.YtjdlpknflhgkfaaPmNew
namespace Go.Proofs.Ytjdlpknflhgkfaa.HsW
open Go.ChangeShapes Go.WideShapes Go.ChangeAt Go.RowKit
open Go.Proofs.Ytjdlpknflhgkfaa.Mem Go.Proofs.Ytjdlpknflhgkfaa.Blk Go.Proofs.Ytjdlpknflhgkfaa.Cells Go.Proofs.Ytjdlpknflhgkfaa.Orow Go.Proofs.Ytjdlpknflhgkfaa.MdM Go.Proofs.Ytjdlpknflhgkfaa.MdC Go.Proofs.Ytjdlpknflhgkfaa.MdD Go.Proofs.Ytjdlpknflhgkfaa.HsM Go.Proofs.Ytjdlpknflhgkfaa.HsE Go.Proofs.Ytjdlpknflhgkfaa.HsB Go.Proofs.Ytjdlpknflhgkfaa.HsL Go.Proofs.Ytjdlpknflhgkfaa.HsO Go.Proofs.Ytjdlpknflhgkfaa.PmC Go.Proofs.Ytjdlpknflhgkfaa.PmM Go.Proofs.Ytjdlpknflhgkfaa.PmF Go.Proofs.Ytjdlpknflhgkfaa.Stages

theorem ret_st2 {w : World} {fn : Func} {R : Ending → World → Prop} {act : Act} {p u g : Nat} {t : TypeId} {x y z : Value} (h : fn.results = #[.cell p 39, .tmp u]) (hp : act.tmps.getD p undef = .pointer (some ⟨g, 0, none⟩)) (hg : Blk w g t [x, y, z]) (hd : act.defers = []) (hR : R (.returned (.tuple #[.agg #[x, y, z], act.tmps.getD u undef])) w) : bodyPost Try.prog fn R .ret act w := by
  refine bodyPost_ret ?_ hd hR
  have hp' : act.tmps[p]?.getD undef = .pointer (some ⟨g, 0, none⟩) := by simpa using hp
  simp [results, h, hp', asAddr, load_st hg]
def All (_ : Nat) : Prop := True
/-- What byOrder tells. -/
def ByP (L : Nat → Ev) (n : Nat) (a : Md) (w : World) (e : Ending) (w' : World) : Prop :=
  ∃ X1 n1 c1 X2 n2 c2 X3 n3 c3 r l, e = .returned (.tuple #[.agg #[.slice X1 n1 c1, .slice X2 n2 c2, .slice X3 n3 c3], .int .i64 r]) ∧ Ord L n l ∧ r = (runL L l a).1 ∧ (r = 0 → PAt w' All (.agg #[.slice X1 n1 c1, .slice X2 n2 c2, .slice X3 n3 c3]) (runL L l a).2) ∧ Grow w w'
/-- What the loop has: the state's box is m; w2 is the world behind Order. -/
def ByLoop (L : Nat → Ev) (l : List Nat) (a0 : Md) (m : Nat) (w2 : World) (gx : Nat) (v6 v15 : Value) (wr : World) : Prop :=
  ∃ (k : Nat) (a : Md), k + gx = l.length ∧ v6 = .int .i64 0 ∧ v15 = .int .i64 (k : Int) ∧ SB wr m m a ∧ Kept (fun x => x = m) w2 wr ∧ runL L l a0 = runL L (l.drop k) a
theorem two_st (w : World) (x y z : Value) :
    Blk ((w.alloc (.cells #[x, y, z] 39)).alloc (.cells #[.slice none 0 0, .slice none 0 0, .slice none 0 0] 39)) w.heap.size 39 [x, y, z] ∧
    Blk ((w.alloc (.cells #[x, y, z] 39)).alloc (.cells #[.slice none 0 0, .slice none 0 0, .slice none 0 0] 39)) (w.heap.size + 1) 39 [.slice none 0 0, .slice none 0 0, .slice none 0 0] ∧
    Grow w ((w.alloc (.cells #[x, y, z] 39)).alloc (.cells #[.slice none 0 0, .slice none 0 0, .slice none 0 0] 39)) := by
  have g1 : Grow w (w.alloc (.cells #[x, y, z] 39)) := (Kept.refl _ _).alloc _
  have b1 := Blk.new w 39 [x, y, z]
  have z1 : (w.alloc (.cells #[x, y, z] 39)).heap.size = w.heap.size + 1 := by simp
  generalize w.alloc (.cells #[x, y, z] 39) = u at *
  have g2 : Grow u (u.alloc (.cells #[.slice none 0 0, .slice none 0 0, .slice none 0 0] 39)) := (Kept.refl _ _).alloc _
  have b2 := Blk.new u 39 [.slice none 0 0, .slice none 0 0, .slice none 0 0]
  rw [z1] at b2
  exact ⟨b1.grow g2, b2, g1.trans g2⟩
theorem two_box (w : World) (x y z c p h d : Value) :
    Blk ((w.alloc (.cells #[x, y, z] 39)).alloc (.cells #[c, p, h, d] 27)) w.heap.size 39 [x, y, z] ∧
    Blk ((w.alloc (.cells #[x, y, z] 39)).alloc (.cells #[c, p, h, d] 27)) (w.heap.size + 1) 27 [c, p, h, d] ∧
    Grow w ((w.alloc (.cells #[x, y, z] 39)).alloc (.cells #[c, p, h, d] 27)) := by
  have g1 : Grow w (w.alloc (.cells #[x, y, z] 39)) := (Kept.refl _ _).alloc _
  have b1 := Blk.new w 39 [x, y, z]
  have z1 : (w.alloc (.cells #[x, y, z] 39)).heap.size = w.heap.size + 1 := by simp
  generalize w.alloc (.cells #[x, y, z] 39) = u at *
  have g2 : Grow u (u.alloc (.cells #[c, p, h, d] 27)) := (Kept.refl _ _).alloc _
  have b2 := Blk.new u 27 [c, p, h, d]
  rw [z1] at b2
  exact ⟨b1.grow g2, b2, g1.trans g2⟩
theorem or_ne {w : World} {g b t s cap n : Nat} {f : Nat → Value} {cs : List Value} (h : OR w g t s cap n f) (hb : Blk w b 39 cs) (ht : t ≠ 39) : g ≠ b := fun e => by
  subst e
  obtain ⟨cur, hc, _⟩ := h
  have e := hc.symm.trans hb
  injection e with e
  injection e with _ e _
  exact ht e
/-- A state's own blocks are no box of a state. -/
theorem pat_box {w : World} {G : Nat → Prop} {v : Value} {a : Md} {b : Nat} {cs : List Value} (h : PAt w G v a) (hb : Blk w b 39 cs) : PAt w (fun k => G k ∧ k ≠ b) v a := by
  obtain ⟨gT, cT, gB, cB, gH, cH, qb, cb, q, cp, e, hm⟩ := h.mem
  exact ⟨h.good, gT, cT, gB, cB, gH, cH, qb, cb, q, cp, e, hm.tb, hm.bb, hm.br, hm.hb, hm.rb, hm.bnj, hm.inj, hm.ne, hm.nb, hm.nq, hm.nx,
    ⟨⟨hm.inG.1, or_ne hm.tb hb (by decide)⟩, ⟨hm.inG.2.1, or_ne hm.bb hb (by decide)⟩, hm.inG.2.2, or_ne hm.hb hb (by decide)⟩, fun i hi => ⟨hm.bG i hi, or_ne (hm.br i hi) hb (by decide)⟩, fun i hi => ⟨hm.qG i hi, or_ne (hm.rb i hi) hb (by decide)⟩⟩
section
variable {w w' : World} {X G : Nat → Prop} {A X1 X2 X3 : Option Addr} {n n1 n2 n3 c1 c2 c3 : Nat} {L : Nat → Ev} {a0 : Md}
set_option maxHeartbeats 16000000 in
set_option maxRecDepth 100000 in
theorem byOrder_any (h : EvsAt w X A n L) (hn : n ≤ 100000) (hs : PAt w G (.agg #[.slice X1 n1 c1, .slice X2 n2 c2, .slice X3 n3 c3]) a0) (c : Nat) :
    Calls Try.prog 50 #[.slice A n c, .agg #[.slice X1 n1 c1, .slice X2 n2 c2, .slice X3 n3 c3]] w (ByP L n a0 w) := by
  have hnz : (n : Int) ≤ 100000 := by omega
  obtain ⟨hb1, hb2, hg⟩ := two_st w (.slice X1 n1 c1) (.slice X2 n2 c2) (.slice X3 n3 c3)
  have HS0 : Hid (SB ((w.alloc (.cells #[.slice X1 n1 c1, .slice X2 n2 c2, .slice X3 n3 c3] 39)).alloc (.cells #[.slice none 0 0, .slice none 0 0, .slice none 0 0] 39)) w.heap.size w.heap.size a0) :=
    ⟨_, _, _, _, _, _, _, _, _, hb1, (hs.mono (X := fun k => k ≠ w.heap.size) fun k hk _ => Nat.ne_of_lt hk).grow hg⟩
  have HG0 := Lib.hid hg
  have HZ0 := Lib.hid hb2
  have HE := Lib.hid h
  clear h hs hb1 hb2 hg
  go_enter Try.func50, Try.ntmps50
  go_upto_region 1 with (fail)
  generalize (w.alloc (.cells #[.slice X1 n1 c1, .slice X2 n2 c2, .slice X3 n3 c3] 39)).alloc (.cells #[.slice none 0 0, .slice none 0 0, .slice none 0 0] 39) = w0 at *
  obtain ⟨m, hm⟩ : ∃ m, m = w.heap.size := ⟨_, rfl⟩
  rw [← hm] at HS0 HZ0 ⊢
  have HM := Lib.hid hm
  clear hm
  have CO := Lib.hid (order_any (HE.out.grow HG0.out) hn c)
  go_wp2
  go_step3
  go_wp2
  go_step3
  go_wp2_with (go_at_call 16; (with_reducible refine CO.out.mono ?_); rintro e w2 ⟨l, AO, oc, rfl, ho, hsl, hnew, hg⟩; have HO := Lib.hid ho; have HSL := Lib.hid hsl; have HNW := Lib.hid hnew; have HG2 := Lib.hid hg; clear ho hsl hnew hg)
  have HM1 : Hid (m + 1 < w0.heap.size) := HZ0.out.lt
  have HLB : Hid (l.length ≤ n) := ord_len HO.out
  have hlz : (l.length : Int) ≤ 100000 := by have := HLB.out; omega
  have HW2 : Hid (Grow w w2) := HG0.out.trans HG2.out
  have HS2 := Lib.hid (HS0.out.grow HG2.out)
  have HZ2 := Lib.hid (HZ0.out.grow HG2.out)
  clear CO HS0 HZ0
  go_loopg [6, 15] l.length (ByLoop L l a0 m w2)
  case atStart => exact ⟨0, a0, by omega, rfl, rfl, HS2.out, Kept.refl _ _, by rw [List.drop_zero]⟩
  case round =>
    obtain ⟨k, a, hg, rfl, rfl, hsb, hkp, hrun⟩ := hrel
    have HG := Lib.hid hg
    have HSB := Lib.hid hsb
    have HKP := Lib.hid hkp
    have HRUN := Lib.hid hrun
    clear hg hsb hkp hrun HS2
    by_cases hk : k < l.length
    · have hkz : (k : Int) < (l.length : Int) := by omega
      have HK := Lib.hid hk
      obtain ⟨i, hi⟩ : ∃ i, i = l.getD k 0 := ⟨_, rfl⟩
      have hil : l[k]? = some i := by rw [hi, List.getD_eq_getElem?_getD, List.getElem?_eq_getElem hk]; rfl
      have him : i ∈ l := List.mem_of_getElem? hil
      have hin : i < n := (ord_lt HO.out him).1
      have hinz : (i : Int) < (n : Int) := by omega
      have hdrop : l.drop k = i :: l.drop (k + 1) := by
        rw [List.drop_eq_getElem_cons hk]
        rw [List.getElem?_eq_getElem hk] at hil
        injection hil with hil
        rw [hil]
      have HDR : Hid (runL L l a0 = runL L (i :: l.drop (k + 1)) a) := by unfold Hid; rw [HRUN.out, hdrop]
      obtain ⟨ob, oo, rfl, hob, hoc⟩ := HSL.out.at_ (by omega)
      have HOB : Hid (ob ≠ m) := by
        have := HNW.out (by omega) _ rfl
        have h1 := HM1.out
        show ob ≠ m
        have : w0.heap.size ≤ ob := this
        omega
      have o1 := HKP.out.cellN (hoc k hk) HOB.out
      rw [nums_get, ← hi] at o1
      have HGW : Hid (Grow w wr) := HW2.out.then HKP.out fun k hk e => by have := HM.out; omega
      obtain ⟨b, off, rfl, hall⟩ := HE.out (by omega)
      obtain ⟨D, dl, dc, A', al, ac, hc, hd⟩ := (hall i hin).kept HGW.out id (fun _ _ _ => id)
      have c0 := hc 0 _ rfl
      have c1 := hc 1 _ rfl
      have c2 := hc 2 _ rfl
      have c3' := hc 3 _ rfl
      have c4 := hc 4 _ rfl
      have c5 := hc 5 _ rfl
      have c6 := hc 6 _ rfl
      have c7 := hc 7 _ rfl
      have c8 := hc 8 _ rfl
      have c9 := hc 9 _ rfl
      have c10 := hc 10 _ rfl
      have c11 := hc 11 _ rfl
      have c12 := hc 12 _ rfl
      have c13 := hc 13 _ rfl
      simp only [Nat.add_zero] at c0
      have HD := Lib.hid hd
      clear hall hc hd hk hi hil him hdrop hoc hob
      go_upto_region 6 with (fail)
      clear c0 c1 c2 c3' c4 c5 c6 c7 c8 c9 c10 c11 c12 c13 o1
      obtain ⟨hnb, hng⟩ := ev_new wr (L i) D dl dc A' al ac
      generalize wr.alloc (.cells #[.int .i64 (L i).c, .int .i64 (L i).o.k, .int .i64 (L i).o.p, .int .i64 (L i).o.h, .int .i64 (L i).o.o, .int .i64 (L i).o.n, .slice D dl dc, .int .i64 (L i).r.c, .int .i64 (L i).r.p, .int .i64 (L i).r.h, .slice A' al ac, .int .i64 (L i).b, .int .i64 (L i).s, .int .i64 (L i).e] 29) = we at hnb hng ⊢
      generalize wr.heap.size = f at hnb ⊢
      have HGA := Lib.hid HSB.out.good
      have HNB := Lib.hid hnb
      have HKE : Hid (Kept (fun x => x = m) w2 we) := HKP.out.trans (Grow.kept hng)
      obtain ⟨ST, kT, SB', kB, SH, kH, hsb, hsp⟩ : ∃ ST kT SB' kB SH kH, Blk we m 39 [.slice ST a.n kT, .slice SB' a.n kB, .slice SH a.N kH] ∧ PAt we (fun k => k ≠ m) (.agg #[.slice ST a.n kT, .slice SB' a.n kB, .slice SH a.N kH]) a := by
        obtain ⟨AT, nT, cT, AB, nB, cB, AH, nH, cH, h1, h2⟩ := HSB.out.grow hng
        obtain ⟨AT', cT', AB', cB', AH', cH', e⟩ := pat_form h2
        have e : (Value.slice AT nT cT = .slice AT' a.n cT' ∧ Value.slice AB nB cB = .slice AB' a.n cB') ∧ Value.slice AH nH cH = .slice AH' a.N cH' := by
          simp only [Value.agg.injEq, Array.mk.injEq, List.cons.injEq, and_true] at e
          exact ⟨⟨e.1, e.2.1⟩, e.2.2⟩
        rw [e.1.1, e.1.2, e.2] at h1 h2
        exact ⟨_, _, _, _, _, _, h1, h2⟩
      have HD2 := Lib.hid (HD.out.kept hng fun _ _ _ => id)
      obtain ⟨rc, rp, rh, rd, U, hr⟩ : ∃ rc rp rh rd U, a.run (L i).c (L i).o = (⟨rc, rp, rh, rd⟩, U) := ⟨_, _, _, _, _, rfl⟩
      have HDO := Lib.hid (t_do hsp (L i).c (L i).o.k (L i).o.p (L i).o.h (L i).o.o (L i).o.n HD2.out.d HD2.out.db HD2.out.dc.1 HD2.out.dc.2 HD2.out.rng.1.2 hr)
      have HR := Lib.hid hr
      have m0 := hsb.cell 0
      have m1 := hsb.cell 1
      have m2 := hsb.cell 2
      have s0 := hnb.cell 0
      have s1 := hnb.cell 1
      have s2 := hnb.cell 2
      have s3 := hnb.cell 3
      have s4 := hnb.cell 4
      have s5 := hnb.cell 5
      have s6 := hnb.cell 6
      simp only [List.getElem?_cons_zero, List.getElem?_cons_succ] at m0 m1 m2 s0 s1 s2 s3 s4 s5 s6
      have HMB := Lib.hid hsb
      have HSP := Lib.hid hsp
      clear hnb hng hsb hsp hr HSB HD
      go_upto_region 8 with (go_at_call 27; (with_reducible refine HDO.out.mono ?_); rintro e wd ⟨XT, nT, jT, XB, nB, jB, XH, nH, jH, RA, rn, rcap, rfl, hpa, hre, hgd⟩; have HPD := Lib.hid hpa; have HRD := Lib.hid hre; have HGD := Lib.hid hgd; clear hpa hre hgd)
      clear m0 m1 m2 s0 s1 s2 s3 s4 s5 s6
      obtain ⟨hb1, hb2, hg3⟩ := two_box wd (.slice XT nT jT) (.slice XB nB jB) (.slice XH nH jH) (.int .i64 rc) (.int .i64 rp) (.int .i64 rh) (.slice RA rn rcap)
      generalize (wd.alloc (.cells #[.slice XT nT jT, .slice XB nB jB, .slice XH nH jH] 39)).alloc (.cells #[.int .i64 rc, .int .i64 rp, .int .i64 rh, .slice RA rn rcap] 27) = u at hb1 hb2 hg3 ⊢
      have HQM : Hid (m < we.heap.size ∧ we.heap.size ≤ wd.heap.size) := ⟨HMB.out.lt, HGD.out.size⟩
      obtain ⟨q, hq⟩ : ∃ q, q = wd.heap.size := ⟨_, rfl⟩
      rw [← hq] at hb1 hb2 ⊢
      have HGU : Hid (Grow we u) := HGD.out.trans hg3
      have HKU : Hid (Kept (fun x => x = m) w2 u) := HKE.out.trans (Grow.kept HGU.out)
      have HB1 := Lib.hid hb1
      have HPU : Hid (PAt u (fun k => k ≠ m) (.agg #[.slice XT nT jT, .slice XB nB jB, .slice XH nH jH]) U) := (HPD.out.grow hg3).mono fun k _ (x : we.heap.size ≤ k) => by have := HQM.out; omega
      have HMU := Lib.hid (HMB.out.grow HGU.out)
      have HNU := Lib.hid (HNB.out.grow HGU.out)
      have HDU := Lib.hid (HD2.out.kept HGU.out fun _ _ _ => id)
      have HRU : Hid (Sl u u.heap.size .u8 RA rn rd) := sl_grow HRD.out.1 hg3
      have HRB : Hid (Bytes rd) := by
        have hb := run_bytes HGA.out (L i).c (L i).o
        rw [HR.out] at hb
        exact hb
      have t0 := hb1.cell 0
      have t1 := hb1.cell 1
      have t2 := hb1.cell 2
      have r0 := hb2.cell 0
      have r1 := hb2.cell 1
      have r2 := hb2.cell 2
      have r3 := hb2.cell 3
      have s0 := HNU.out.cell 0
      have s1 := HNU.out.cell 1
      have s2 := HNU.out.cell 2
      have s3 := HNU.out.cell 3
      have s4 := HNU.out.cell 4
      have s5 := HNU.out.cell 5
      have s6 := HNU.out.cell 6
      have s7 := HNU.out.cell 7
      have s8 := HNU.out.cell 8
      have s9 := HNU.out.cell 9
      have s10 := HNU.out.cell 10
      have s11 := HNU.out.cell 11
      have s12 := HNU.out.cell 12
      have s13 := HNU.out.cell 13
      have mf := HMU.out.frozenAll
      have m0 := HMU.out.cell 0
      have m1 := HMU.out.cell 1
      have m2 := HMU.out.cell 2
      simp only [List.getElem?_cons_zero, List.getElem?_cons_succ] at t0 t1 t2 r0 r1 r2 r3 s0 s1 s2 s3 s4 s5 s6 s7 s8 s9 s10 s11 s12 s13 m0 m1 m2
      clear hb1 hb2 hg3 hq HD2 HPD HRD HDO HMB HNB HB1
      by_cases he : (L i).e = 0
      · have HST : Hid (evStep a (L i) = some U) := by have := step_yes (a := a) (.inl he); rw [HR.out] at this; exact this
        have hp := sb_put HPU.out HMU.out
        have HP := Lib.hid hp
        rw [he] at s13
        clear he hp
        go_wp2
        go_roundg (gk - 1)
        case measure => have := HG.out; have := HK.out; omega
        case rel => exact ⟨k + 1, U, by have := HG.out; have := HK.out; omega, rfl, by go_num, HP.out.1, HKU.out.trans HP.out.2, by rw [HDR.out, runL_some HST.out]⟩
      · have he' : ((L i).e == 0) = false := by simpa using he
        have HE0 := Lib.hid he
        have CS := Lib.hid (sameRes_any (c := (L i).r.c) (p := (L i).r.p) (h := (L i).r.h) (c' := rc) (p' := rp) (h' := rh) (m := ac) (m' := rcap) HDU.out.a HRU.out HDU.out.ab HRB.out)
        have HSAME : Hid (((L i).r.c = rc ∧ (L i).r.p = rp ∧ (L i).r.h = rh ∧ (L i).r.d = rd) ↔ (L i).r = (a.run (L i).c (L i).o).1) := by
          rw [HR.out]
          constructor
          · rintro ⟨h1, h2, h3, h4⟩
            show (L i).r = ⟨rc, rp, rh, rd⟩
            rw [← h1, ← h2, ← h3, ← h4]
          · intro h
            rw [show (L i).r = ⟨rc, rp, rh, rd⟩ from h]
            exact ⟨rfl, rfl, rfl, rfl⟩
        clear he
        by_cases hsm : (L i).r = (a.run (L i).c (L i).o).1
        · have HST : Hid (evStep a (L i) = some U) := by have := step_yes (a := a) (.inr hsm); rw [HR.out] at this; exact this
          have HSM := Lib.hid hsm
          clear hsm
          go_upto_region 9 with (go_at_call 75; (with_reducible refine CS.out.mono ?_); rintro e us ⟨⟨bs, rfl, hbs⟩, hgs⟩; obtain rfl : bs = true := hbs.2 (HSAME.out.2 HSM.out); have HGS := Lib.hid hgs; clear hbs hgs)
          have hp := sb_put (HPU.out.grow HGS.out) (HMU.out.grow HGS.out)
          have HP := Lib.hid hp
          have q0 := HGS.out.cellN t0 id
          have q1 := HGS.out.cellN t1 id
          have q2 := HGS.out.cellN t2 id
          have HMS := Lib.hid (HMU.out.grow HGS.out)
          have mf := HMS.out.frozenAll
          have m0 := HMS.out.cell 0
          have m1 := HMS.out.cell 1
          have m2 := HMS.out.cell 2
          simp only [List.getElem?_cons_zero, List.getElem?_cons_succ] at m0 m1 m2
          clear hp t0 t1 t2 r0 r1 r2 r3 s0 s1 s2 s3 s4 s5 s6 s7 s8 s9 s10 s11 s12 s13
          go_wp2
          go_roundg (gk - 1)
          case measure => have := HG.out; have := HK.out; omega
          case rel => exact ⟨k + 1, U, by have := HG.out; have := HK.out; omega, rfl, by go_num, HP.out.1, (HKU.out.trans (Grow.kept HGS.out)).trans HP.out.2, by rw [HDR.out, runL_some HST.out]⟩
        · have HSM : Hid (¬ ((L i).e = 0 ∨ (L i).r = (a.run (L i).c (L i).o).1)) := fun h => h.elim HE0.out hsm
          have HSN := Lib.hid hsm
          clear hsm
          by_cases hbd : badE (L i)
          · have HST : Hid (evStep a (L i) = some a) := step_bad HE0.out hbd
            have HBD := Lib.hid hbd
            clear hbd
            have CF : Hid (∀ ux, Grow u ux → Calls Try.prog 76 #[.agg #[.int .i64 (L i).c, .int .i64 (L i).o.k, .int .i64 (L i).o.p, .int .i64 (L i).o.h, .int .i64 (L i).o.o, .int .i64 (L i).o.n, .slice D dl dc, .int .i64 (L i).r.c, .int .i64 (L i).r.p, .int .i64 (L i).r.h, .slice A' al ac, .int .i64 (L i).b, .int .i64 (L i).s, .int .i64 (L i).e]] ux (Tells (badE (L i)) ux)) := fun ux hx => failed_any (HDU.out.kept hx fun _ _ _ => id)
            go_upto_region 10 with (go_at_call 75; (with_reducible refine CS.out.mono ?_); rintro e us ⟨⟨bs, rfl, hbs⟩, hgs⟩; obtain rfl : bs = false := (Bool.eq_false_iff.2 fun h => HSN.out (HSAME.out.1 (hbs.1 h))); have HGS := Lib.hid hgs; clear hbs hgs)
            have HNS := Lib.hid (HNU.out.grow HGS.out)
            clear t0 t1 t2 r0 r1 r2 r3 s0 s1 s2 s3 s4 s5 s6 s7 s8 s9 s10 s11 s12 s13 m0 m1 m2 mf
            have s0 := HNS.out.cell 0
            have s1 := HNS.out.cell 1
            have s2 := HNS.out.cell 2
            have s3 := HNS.out.cell 3
            have s4 := HNS.out.cell 4
            have s5 := HNS.out.cell 5
            have s6 := HNS.out.cell 6
            have s7 := HNS.out.cell 7
            have s8 := HNS.out.cell 8
            have s9 := HNS.out.cell 9
            have s10 := HNS.out.cell 10
            have s11 := HNS.out.cell 11
            have s12 := HNS.out.cell 12
            have s13 := HNS.out.cell 13
            simp only [List.getElem?_cons_zero, List.getElem?_cons_succ] at s0 s1 s2 s3 s4 s5 s6 s7 s8 s9 s10 s11 s12 s13
            go_wp2_with (go_at_call 76; (with_reducible refine (CF.out _ HGS.out).mono ?_); rintro e uf ⟨⟨bf, rfl, hbf⟩, hgf⟩; obtain rfl : bf = true := hbf.2 HBD.out; have HGF := Lib.hid hgf; clear hbf hgf)
            go_roundg (gk - 1)
            case measure => have := HG.out; have := HK.out; omega
            case rel => exact ⟨k + 1, a, by have := HG.out; have := HK.out; omega, rfl, by go_num, ⟨_, _, _, _, _, _, _, _, _, (HMU.out.grow HGS.out).grow HGF.out, ((HSP.out.grow HGU.out).grow HGS.out).grow HGF.out⟩, (HKU.out.trans (Grow.kept HGS.out)).trans (Grow.kept HGF.out), by rw [HDR.out, runL_some HST.out]⟩
          · have HST : Hid (evStep a (L i) = none) := step_no HSM.out hbd
            have HBD := Lib.hid hbd
            clear hbd
            have CF : Hid (∀ ux, Grow u ux → Calls Try.prog 76 #[.agg #[.int .i64 (L i).c, .int .i64 (L i).o.k, .int .i64 (L i).o.p, .int .i64 (L i).o.h, .int .i64 (L i).o.o, .int .i64 (L i).o.n, .slice D dl dc, .int .i64 (L i).r.c, .int .i64 (L i).r.p, .int .i64 (L i).r.h, .slice A' al ac, .int .i64 (L i).b, .int .i64 (L i).s, .int .i64 (L i).e]] ux (Tells (badE (L i)) ux)) := fun ux hx => failed_any (HDU.out.kept hx fun _ _ _ => id)
            go_upto_region 10 with (go_at_call 75; (with_reducible refine CS.out.mono ?_); rintro e us ⟨⟨bs, rfl, hbs⟩, hgs⟩; obtain rfl : bs = false := (Bool.eq_false_iff.2 fun h => HSN.out (HSAME.out.1 (hbs.1 h))); have HGS := Lib.hid hgs; clear hbs hgs)
            have HNS := Lib.hid (HNU.out.grow HGS.out)
            clear t0 t1 t2 r0 r1 r2 r3 s0 s1 s2 s3 s4 s5 s6 s7 s8 s9 s10 s11 s12 s13 m0 m1 m2 mf
            have s0 := HNS.out.cell 0
            have s1 := HNS.out.cell 1
            have s2 := HNS.out.cell 2
            have s3 := HNS.out.cell 3
            have s4 := HNS.out.cell 4
            have s5 := HNS.out.cell 5
            have s6 := HNS.out.cell 6
            have s7 := HNS.out.cell 7
            have s8 := HNS.out.cell 8
            have s9 := HNS.out.cell 9
            have s10 := HNS.out.cell 10
            have s11 := HNS.out.cell 11
            have s12 := HNS.out.cell 12
            have s13 := HNS.out.cell 13
            simp only [List.getElem?_cons_zero, List.getElem?_cons_succ] at s0 s1 s2 s3 s4 s5 s6 s7 s8 s9 s10 s11 s12 s13
            go_upto_region 12 with (go_at_call 76; (with_reducible refine (CF.out _ HGS.out).mono ?_); rintro e uf ⟨⟨bf, rfl, hbf⟩, hgf⟩; obtain rfl : bf = false := (Bool.eq_false_iff.2 fun h => HBD.out (hbf.1 h)); have HGF := Lib.hid hgf; clear hbf hgf)
            clear s0 s1 s2 s3 s4 s5 s6 s7 s8 s9 s10 s11 s12 s13
            have HMF := Lib.hid ((HMU.out.grow HGS.out).grow HGF.out)
            have HKF : Hid (Kept (fun x => x = m) w2 uf) := (HKU.out.trans (Grow.kept HGS.out)).trans (Grow.kept HGF.out)
            have HZF : Hid (Blk uf (m + 1) 39 [.slice none 0 0, .slice none 0 0, .slice none 0 0]) := HZ2.out.kept HKF.out (fun e => by have e : m + 1 = m := e; omega)
            have m0 := HMF.out.cell 0
            have m1 := HMF.out.cell 1
            have m2 := HMF.out.cell 2
            have z0 := HZF.out.cell 0
            have z1 := HZF.out.cell 1
            have z2 := HZF.out.cell 2
            have zf := HZF.out.frozenAll
            simp only [List.getElem?_cons_zero, List.getElem?_cons_succ] at m0 m1 m2 z0 z1 z2
            go_wp2
            try rw [Exit.noGoto_ret]
            refine ret_st2 rfl rfl (PmD.put3_blk HZF.out) rfl ?_
            exact ⟨_, _, _, _, _, _, _, _, _, (i : Int) + 1, l, rfl, HO.out, by rw [HDR.out, runL_stop HST.out], fun h => by omega, (HW2.out.then HKF.out fun k hk e => by have := HM.out; omega).then (PmD.put3_kept (F := fun k => k = m + 1) uf (m + 1) _ _ _ fun k e => e) fun k hk e => by have := HM.out; omega⟩
    · have hkl : k = l.length := by have := HG.out; omega
      subst hkl
      clear hk
      obtain ⟨AT, nT, cT, AB, nB, cB, AH, nH, cH, h1, h2⟩ := HSB.out
      have HPA := Lib.hid h2
      have HZF : Hid (Blk wr (m + 1) 39 [.slice none 0 0, .slice none 0 0, .slice none 0 0]) := HZ2.out.kept HKP.out (fun e => by have e : m + 1 = m := e; omega)
      have m0 := h1.cell 0
      have m1 := h1.cell 1
      have m2 := h1.cell 2
      have z0 := HZF.out.cell 0
      have z1 := HZF.out.cell 1
      have z2 := HZF.out.cell 2
      have zf := HZF.out.frozenAll
      simp only [List.getElem?_cons_zero, List.getElem?_cons_succ] at m0 m1 m2 z0 z1 z2
      have HRN : Hid (runL L l a0 = (0, a)) := by unfold Hid; rw [HRUN.out, List.drop_length, runL_nil]
      have HMZ : Hid (m + 1 ≠ m) := by show m + 1 ≠ m; omega
      clear h1 h2
      go_wp2
      try rw [Exit.noGoto_ret]
      refine ret_st2 rfl rfl (PmD.put3_blk HZF.out) rfl ?_
      have hk3 := PmD.put3_kept (F := fun k => k = m + 1) wr (m + 1) (.slice AT nT cT) (.slice AB nB cB) (.slice AH nH cH) fun k e => e
      refine ⟨_, _, _, _, _, _, _, _, _, 0, l, rfl, HO.out, by rw [HRN.out], fun _ => ?_, (HW2.out.then HKP.out fun k hk e => by have := HM.out; omega).then hk3 fun k hk e => by have := HM.out; omega⟩
      rw [HRN.out]
      exact ((pat_box HPA.out HZF.out).kept hk3 fun k x e => x.2 e).mono fun _ _ _ => trivial
end
#print axioms byOrder_any
end Go.Proofs.Ytjdlpknflhgkfaa.HsW
