/-
  The statement RefSmall, walked.
-/
import Derived.Test.YtbnkpnllgoghnaaGreatQa
import Derived.Test.YtbnkpnllgoghnaaGreatQb
import Derived.Test.YtbnkpnllgoghnaaGreatQc
import Derived.Test.YtbnkpnllgoghnaaGreatQd
import Derived.Test.YtbnkpnllgoghnaaGreatQe
import Derived.Test.YtbnkpnllgoghnaaGreatQf
import Derived.Test.YtbnkpnllgoghnaaGreatQg
import Derived.Test.YtbnkpnllgoghnaaGreatQh
import Derived.Test.YtbnkpnllgoghnaaGreatQi
import Derived.Test.YtbnkpnllgoghnaaGreatQj
import Derived.Test.YtbnkpnllgoghnaaGreatQk
import Derived.Test.YtbnkpnllgoghnaaGreatQl
import Derived.Test.YtbnkpnllgoghnaaGreatQm
namespace Go.Proofs.YtbnkpnllgoghnaaGreat.LwSmall
open Go.ChangeShapes Go.WideShapes Go.ChangeAt Go.RowKit
open Go.Proofs.YtbnkpnllgoghnaaGreat.Mem Go.Proofs.YtbnkpnllgoghnaaGreat.Blk Go.Proofs.YtbnkpnllgoghnaaGreat.Cells Go.Proofs.YtbnkpnllgoghnaaGreat.Orow Go.Proofs.YtbnkpnllgoghnaaGreat.Calls13 Go.Proofs.YtbnkpnllgoghnaaGreat.MdNear Go.Proofs.YtbnkpnllgoghnaaGreat.RfP Go.Proofs.YtbnkpnllgoghnaaGreat.RgS Go.Proofs.YtbnkpnllgoghnaaGreat.RgV Go.Proofs.YtbnkpnllgoghnaaGreat.RgQ Go.Proofs.YtbnkpnllgoghnaaGreat.RgN Go.Proofs.YtbnkpnllgoghnaaGreat.RgMd Go.Proofs.YtbnkpnllgoghnaaGreat.Told16 Go.Proofs.YtbnkpnllgoghnaaGreat.Stages
open Go.Proofs.YtbnkpnllgoghnaaGreat.MdM (Md MdOp Re)
open Go.Proofs.YtbnkpnllgoghnaaGreat.ArM (Ar Fr)
open Go.Proofs.YtbnkpnllgoghnaaGreat.ArC (FR)
open Go.Proofs.YtbnkpnllgoghnaaGreat.RfM (Pl)
/-- The pins that the law counts for a page, over the first frames. -/
def pinsTo (F : Nat → Fr) (q : Int) : Nat → Int
  | 0 => 0
  | j + 1 => if (F j).st = 1 ∧ (F j).pg = q then (F j).pn else pinsTo F q j
theorem pins_to {p : Pl} (i : RfI.Inv p) {q : Nat} (hq : q < p.X.n) : pinsTo p.A.F (q : Int) p.A.n = (p.X.pins (q : Int) : Int) := by
  rcases RfE.seen i hq with ⟨f, hf, h1, h2, h3, h4⟩ | ⟨hno, h0⟩
  · have key : ∀ k, k ≤ p.A.n → pinsTo p.A.F (q : Int) k = if f < k then (p.A.F f).pn else 0 := by
      intro k
      induction k with
      | zero => intro _; rfl
      | succ k ih =>
        intro hk
        unfold pinsTo
        by_cases h : (p.A.F k).st = 1 ∧ (p.A.F k).pg = (q : Int)
        · obtain rfl := h4 k (by omega) h.1 h.2
          rw [if_pos h, if_pos (by omega)]
        · rw [if_neg h, ih (by omega)]
          by_cases e : f = k
          · subst e; exact absurd ⟨h1, h2⟩ h
          · by_cases e2 : f < k
            · rw [if_pos e2, if_pos (by omega)]
            · rw [if_neg e2, if_neg (by omega)]
    rw [key p.A.n (Nat.le_refl _), if_pos hf, h3]
  · have key : ∀ k, k ≤ p.A.n → pinsTo p.A.F (q : Int) k = 0 := by
      intro k
      induction k with
      | zero => intro _; rfl
      | succ k ih =>
        intro hk
        unfold pinsTo
        rw [if_neg (fun h => hno k (by omega) h.1 h.2), ih (by omega)]
    rw [key p.A.n (Nat.le_refl _), h0]
    rfl
/-- What Frames hands out: n frames of the caller's. -/
def FrP (n : Nat) (F : Nat → Fr) (w : World) (e : Ending) (w' : World) : Prop := ∃ g c, e = .returned (.slice (some ⟨g, 0, none⟩) n c) ∧ FR w' g c n F ∧ w.heap.size ≤ g ∧ Grow w w'
theorem frp {w : World} {c : Nat → Nat} {ν : Nm} {p : Pl} {k n : Nat} (x : RgQ.PAt w c ν p k) (h : PN n p) : Calls Tryz.prog 14 #[.pointer (some ⟨ν.r, 0, none⟩)] w (FrP n p.A.F w) := by
  refine (pframes x).mono fun e w' ⟨g, cc, h1, h2, h3, h4⟩ => ?_
  rw [h.an] at h1 h2
  exact ⟨g, cc, h1, h2, h3, h4⟩
def PLoop (w : World) (ν : Nm) (m n M g : Nat) (i : Value) (wx : World) : Prop := ∃ (j : Nat) (p : Pl) (c : Nat → Nat), j + g = M ∧ i = .int .i64 (j : Int) ∧ PN n p ∧ MI w ν m p (50 * j) c wx
def CLoop (w0 : World) (n g : Nat) (v i : Value) (wx : World) : Prop := ∃ j : Nat, j + g = n ∧ i = .int .i64 (j : Int) ∧ v = .int .i64 (j : Int) ∧ wx = w0
def QLoop (w : World) (ν : Nm) (m n : Nat) (p : Pl) (k gf cf : Nat) (g : Nat) (i : Value) (wx : World) : Prop := ∃ (q : Nat) (c : Nat → Nat), q + g = 5 ∧ i = .int .i64 (q : Int) ∧ MI w ν m p k c wx ∧ FR wx gf cf n p.A.F
def FLoop (w0 : World) (F : Nat → Fr) (q n g : Nat) (v i : Value) (wx : World) : Prop := ∃ j : Nat, j + g = n ∧ i = .int .i64 (j : Int) ∧ v = .int .i64 (pinsTo F (q : Int) j) ∧ wx = w0
section
variable {w : World} {A : Option Addr} {len cap : Nat} {a : Int}
set_option maxRecDepth 100000 in
set_option maxHeartbeats 8000000 in
theorem small_any (h : CallsAt w A len cap) : Calls Tryz.prog 6 #[.int .i64 a, .slice A len cap] w fun e w' => e = .returned (.bool true) ∧ Below w.heap.size w w' := by
  have HFI := Lib.hid (fine_q 60 h)
  obtain ⟨hlc, hcm, hops⟩ := h
  unfold maxLen at hcm
  have HOPS := Lib.hid hops
  obtain ⟨q, hq, hq4⟩ := tmod_nat a 4 (by omega)
  simp only [Int.cast_ofNat_Int] at hq
  obtain ⟨n, hn⟩ : ∃ n : Nat, n = 1 + q := ⟨_, rfl⟩
  have hnz : (1 : Int) + (q : Int) = (n : Int) := by omega
  have hn1 : 1 ≤ n := by omega
  have hn4 : n ≤ 4 := by omega
  have hqz : (q : Int) < 4 := by omega
  have HN := Lib.hid (And.intro hn1 hn4)
  have HNEW := Lib.hid (pnew 5 3 n (by decide) (by decide) (by decide) (by decide) (by omega) (by omega) w)
  simp only [Int.cast_ofNat_Int] at HNEW
  have HMN : Hid (∀ wx, Calls Tryz.prog 25 #[.int .i64 5, .int .i64 3] wx (PmN.NewP 5 3 wx)) := fun wx => PmN.new_any 5 3 (by omega) (by omega) (by omega) (by omega) wx
  clear hops hn
  go_enter Tryz.func6, Tryz.ntmps6
  go_upto_if 22 with (go_at_call 18; (with_reducible refine HFI.out.mono ?_); rintro e w' ⟨rfl, b, rfl, hb⟩; have HB := Lib.hid hb; clear hb)
  cases b with
  | false =>
    go_wp2_with (go_at_call 11; (with_reducible refine (told_any _).mono ?_); rintro e wt ⟨rfl, hge⟩; have HGE := Lib.hid hge; clear hge)
    go_ret
    exact ⟨rfl, Grow.below HGE.out⟩
  | true =>
    have hl60 : (len : Int) ≤ 60 := (HB.out rfl).1
    clear HB HFI
    go_upto_region 6 with (first
      | (go_at_call 12; (try rw [hnz]); (with_reducible refine HNEW.out.mono ?_); rintro e u0 ⟨ν, c0, rfl, hp, hg, hz⟩; have HS0 := Lib.hid (new_std hp hg hz); clear hp hg hz)
      | (go_at_call 25; (with_reducible refine (HMN.out _).mono ?_); rintro e u1 ⟨v1, rfl, hpa, hg⟩; obtain ⟨AT, nT, cT, AB, nB, cB, AH, nH, cH, rfl, hmb, hgb⟩ := MB.new (c := paint u0.heap.size 0 c0) hpa (fun k hk => out_new (c := 0) hk); have HMB := Lib.hid hmb; have HGB := Lib.hid hgb; have HS1 := Lib.hid ((HS0.out.grow hg).grow hgb); have HWM := Lib.hid (Nat.le_trans HS0.out.g.size hg.size); clear hpa hg hmb hgb))
    have HI : Hid (MI w ν u1.heap.size (RfM.fresh 5 3 n) 0 (paint u1.heap.size 0 (paint u0.heap.size 0 c0)) (u1.alloc (.cells #[.slice AT nT cT, .slice AB nB cB, .slice AH nH cH] 64))) := ⟨HS1.out, HMB.out, HWM.out⟩
    generalize paint u1.heap.size 0 (paint u0.heap.size 0 c0) = c2 at HI
    generalize u1.alloc (.cells #[.slice AT nT cT, .slice AB nB cB, .slice AH nH cH] 64) = u2 at HI ⊢
    generalize u1.heap.size = m at HI ⊢
    clear HS0 HS1 HMB HGB HWM HNEW HMN hq hq4 hqz
    go_wp2
    go_loopg [8] len (PLoop w ν m n len)
    case atStart => exact ⟨0, _, _, by omega, rfl, ⟨rfl, rfl, rfl, rfl⟩, HI.out⟩
    case round =>
      clear HI
      obtain ⟨j, p, c, hg, rfl, hpn, hi⟩ := hrel
      have HG := Lib.hid hg
      have HPN := Lib.hid hpn
      have HI := Lib.hid hi
      clear hg hpn hi
      by_cases hj : j < len
      · have hjz : (j : Int) < (len : Int) := by omega
        have HJ := Lib.hid hj
        obtain ⟨ab, ao, rfl, hab, hall⟩ := HOPS.out (by omega)
        obtain ⟨x, hx⟩ := hall j hj
        have HX := Lib.hid hx
        have HAB := Lib.hid hab
        have cc := HI.out.s.g.cellN hx.c id
        have ck := HI.out.s.g.cellN hx.k id
        have cp := HI.out.s.g.cellN hx.p id
        have ch := HI.out.s.g.cellN hx.h id
        have co := HI.out.s.g.cellN hx.o id
        have cn := HI.out.s.g.cellN hx.n id
        have cd := HI.out.s.g.cellN hx.d id
        have HNEAR : Hid (∀ wx, Calls Tryz.prog 21 #[.agg #[.int .i64 x.c, .int .i64 x.k, .int .i64 x.p, .int .i64 x.h, .int .i64 x.o, .int .i64 x.n, .slice x.A x.len x.cap], .int .i64 5, .int .i64 3] wx (NearP 5 3 x.A x.len x.cap wx)) := fun wx => near_any x.c x.k x.p x.h x.o x.n x.A x.len x.cap 5 3 (by omega) (by omega) (by omega) (by omega) (by obtain ⟨d, _, _, h, _⟩ := hx.da; exact h) wx
        clear hall hx hj hab
        go_upto_region 12 with (go_at_call 21; (with_reducible refine (HNEAR.out _).mono ?_); rintro e wn ⟨c', k', p', h', o', n', l', rfl, hr1, hr2, hr3, hr4, hr5, hr6, hr7, hl, hg⟩; have HNR := Lib.hid (And.intro hr6 hl); have HGN := Lib.hid hg; clear hg hr1 hr2 hr3 hr4 hr5 hr6 hr7 hl)
        clear cc ck cp ch co cn cd HNEAR
        obtain ⟨d, hd, hdb, hl1, hl2⟩ := bytes_take (l := l') HX.out.da (by have := HNR.out.2; omega) ((HI.out.s.g.trans HGN.out).trans ((Kept.refl _ wn).alloc (.cells #[.int .i64 (c' : Int), .int .i64 (k' : Int), .int .i64 (p' : Int), .int .i64 (h' : Int), .int .i64 (o' : Int), .int .i64 (n' : Int), .slice x.A l' x.cap] 57))) (fun _ _ h => h)
        have HDD := Lib.hid hd
        have HDB := Lib.hid hdb
        have HDL : Hid (l' ≤ x.cap ∧ x.cap ≤ maxLen ∧ l' ≤ 8) := ⟨hl1, hl2, by have := HNR.out.2; omega⟩
        have HO8 : Hid ((o' : Int) ≤ 9223372036854775807) := by have := HNR.out.1; show (o' : Int) ≤ _; omega
        have hcb := Blk.new wn 57 [.int .i64 (c' : Int), .int .i64 (k' : Int), .int .i64 (p' : Int), .int .i64 (h' : Int), .int .i64 (o' : Int), .int .i64 (n' : Int), .slice x.A l' x.cap]
        have HGC : Hid (Grow wr (wn.alloc (.cells #[.int .i64 (c' : Int), .int .i64 (k' : Int), .int .i64 (p' : Int), .int .i64 (h' : Int), .int .i64 (o' : Int), .int .i64 (n' : Int), .slice x.A l' x.cap] 57))) := HGN.out.trans ((Kept.refl _ _).alloc _)
        have HI2 : Hid (MI w ν m p (50 * j) (paint wr.heap.size 0 c) (wn.alloc (.cells #[.int .i64 (c' : Int), .int .i64 (k' : Int), .int .i64 (p' : Int), .int .i64 (h' : Int), .int .i64 (o' : Int), .int .i64 (n' : Int), .slice x.A l' x.cap] 57))) := ⟨HI.out.s.grow HGC.out, HI.out.x.grow HGC.out, HI.out.b⟩
        have HOG : Hid (Out (paint wr.heap.size 0 c) wn.heap.size) := out_new (c := 0) HGN.out.size
        have HMG : Hid (m < wn.heap.size) := by
          obtain ⟨_, _, _, _, _, _, _, _, _, _, h, _⟩ := HI.out.x
          exact Nat.lt_of_lt_of_le h.lt HGN.out.size
        generalize paint wr.heap.size 0 c = c2 at HI2 HOG
        generalize wn.alloc (.cells #[.int .i64 (c' : Int), .int .i64 (k' : Int), .int .i64 (p' : Int), .int .i64 (h' : Int), .int .i64 (o' : Int), .int .i64 (n' : Int), .slice x.A l' x.cap] 57) = wk at HDD hcb HI2 ⊢
        generalize wn.heap.size = g at hcb HOG HMG ⊢
        have HCB := Lib.hid hcb
        clear hd hdb hl1 hl2 HNR HGN HGC hcb HI HX HAB
        -- the frames as they stand
        have HFP := Lib.hid (frp HI2.out.s.x HPN.out)
        go_upto_region 13 with (go_at_call 14; (with_reducible refine HFP.out.mono ?_); rintro e w3 ⟨gf, cf, rfl, hfr, hgf, hg⟩; have HFR := Lib.hid hfr; have HG3 := Lib.hid hg; have HGF := Lib.hid hgf; clear hfr hg hgf)
        have HI3 : Hid (MI w ν m p (50 * j) (paint wk.heap.size 0 c2) w3) := ⟨HI2.out.s.grow HG3.out, HI2.out.x.grow HG3.out, HI2.out.b⟩
        have HOX : Hid (Out (paint wk.heap.size 0 c2) g) := (Out.went HOG.out HCB.out.lt (Went.grow HG3.out))
        have HOF : Hid (Out (paint wk.heap.size 0 c2) gf) := out_new (c := 0) HGF.out
        have HCX := Lib.hid (HCB.out.grow HG3.out)
        have HDX : Hid (Sl w3 w.heap.size .u8 x.A l' d) := Sl.kept HDD.out HG3.out HI2.out.s.g.size fun _ _ e => e
        clear HDD HCB HOG HI2 HFP HGF HG3
        generalize paint wk.heap.size 0 c2 = c3 at *
        -- the pool's call
        obtain ⟨rc, rp, rh, rd, pl, hr⟩ : ∃ rc rp rh rd pl, p.run c' ⟨k', p', h', o', n', d⟩ = (⟨rc, rp, rh, rd⟩, pl) := ⟨_, _, _, _, _, rfl⟩
        have hcalm := pn_calm (o := ⟨k', p', h', o', n', d⟩) HPN.out HI3.out.s.x.i HDB.out c'
        have HDO := Lib.hid (pdo (dc := x.cap) (o := ⟨k', p', h', o', n', d⟩) HI3.out.s.x c' (HDX.out.more HI3.out.s.g.size) (by have := HDL.out.2.2; omega) HO8.out HDB.out (by omega))
        rw [hr] at hcalm HDO
        have HCALM := Lib.hid hcalm
        have y0 := HCX.out.cell 0
        have y1 := HCX.out.cell 1
        have y2 := HCX.out.cell 2
        have y3 := HCX.out.cell 3
        have y4 := HCX.out.cell 4
        have y5 := HCX.out.cell 5
        have y6 := HCX.out.cell 6
        simp only [List.getElem?_cons_zero, List.getElem?_cons_succ] at y0 y1 y2 y3 y4 y5 y6
        clear hcalm hr
        go_upto_region 14 with (go_at_call 13; (with_reducible refine HDO.out.mono ?_); rintro e w4 ⟨B4, n4, k4, c4, rfl, hd, hfz, hnw, hw, hp⟩; have HD4 := Lib.hid hd; have HW4 := Lib.hid hw; have HP4 := Lib.hid hp; clear hd hfz hnw hw hp)
        clear y0 y1 y2 y3 y4 y5 y6 HDO
        have hgb : Grow w4 (w4.alloc (.cells #[.int .i64 rc, .int .i64 rp, .int .i64 rh, .slice B4 n4 k4] 27)) := (Kept.refl _ _).alloc _
        have HB5 := Lib.hid (Blk.new w4 27 [.int .i64 rc, .int .i64 rp, .int .i64 rh, .slice B4 n4 k4])
        have HW5 : Hid (Went w3 c3 (w4.alloc (.cells #[.int .i64 rc, .int .i64 rp, .int .i64 rh, .slice B4 n4 k4] 27)) (paint w4.heap.size 0 c4)) := HW4.out.trans (Went.grow hgb)
        have HS5 : Hid (Std w (w4.alloc (.cells #[.int .i64 rc, .int .i64 rp, .int .i64 rh, .slice B4 n4 k4] 27)) (paint w4.heap.size 0 c4) ν pl (50 * j + 50)) := (HI3.out.s.went HW4.out HP4.out).grow hgb
        have HD5 : Hid (Dt (w4.alloc (.cells #[.int .i64 rc, .int .i64 rp, .int .i64 rh, .slice B4 n4 k4] 27)) (paint w4.heap.size 0 c4) .u8 B4 n4 rd) := HD4.out.grow hgb
        have HOB : Hid (Out (paint w4.heap.size 0 c4) w4.heap.size) := out_new (c := 0) (Nat.le_refl _)
        generalize paint w4.heap.size 0 c4 = c5 at *
        generalize w4.alloc (.cells #[.int .i64 rc, .int .i64 rp, .int .i64 rh, .slice B4 n4 k4] 27) = w5 at *
        generalize w4.heap.size = b at HB5 HOB ⊢
        clear hgb HD4 HW4 HP4
        have HM5 := Lib.hid (HI3.out.x.went HW5.out)
        have HC5 := Lib.hid (RgB.Went.blk HW5.out HCX.out HOX.out)
        have HX5 : Hid (Sl w5 w.heap.size .u8 x.A l' d) := Sl.kept HDX.out HW5.out.kept HI3.out.s.g.size fun i hi e => by have := HI3.out.s.z i hi; have := e.2; omega
        have HWB := Lib.hid HI3.out.b
        have b0 := HB5.out.cell 0
        simp only [List.getElem?_cons_zero] at b0
        rcases HCALM.out with ⟨hc1, hc2, hc3, hc4⟩ | ⟨hc1, hc2, hc3⟩
        · -- what the model tells
          obtain ⟨ho, AT, nT, cT, AB, nB, cB, AH, nH, cH, hmb, hmp⟩ := HM5.out
          obtain ⟨U, hU⟩ : ∃ U, (p.X.run c' ⟨k', p', h', o', n', d⟩).2 = U := ⟨_, rfl⟩
          have hr : p.X.run c' ⟨k', p', h', o', n', d⟩ = (⟨rc, rp, rh, rd⟩, U) := by rw [hc1, ← hU]
          have hrb := model_bytes HI3.out.s.x.i.gx c' ⟨k', p', h', o', n', d⟩
          rw [hr] at hrb
          have HRB := Lib.hid hrb
          rw [hU] at hc3
          have HQ2 := Lib.hid hc3
          have HQ3 := Lib.hid hc4
          have HDM := Lib.hid (PmF.t_do (dc := x.cap) hmp c' k' p' h' o' n' (HX5.out.more HS5.out.g.size) HDB.out HDL.out.1 HDL.out.2.1 HO8.out hr)
          have s0 := hmb.cell 0
          have s1 := hmb.cell 1
          have s2 := hmb.cell 2
          have y0 := HC5.out.1.cell 0
          have y1 := HC5.out.1.cell 1
          have y2 := HC5.out.1.cell 2
          have y3 := HC5.out.1.cell 3
          have y4 := HC5.out.1.cell 4
          have y5 := HC5.out.1.cell 5
          have y6 := HC5.out.1.cell 6
          simp only [List.getElem?_cons_zero, List.getElem?_cons_succ] at s0 s1 s2 y0 y1 y2 y3 y4 y5 y6
          have HSB := Lib.hid hmb
          clear ho hmb hmp hr hrb hU hc1 hc3 hc4 HCALM HFR
          go_upto_region 24 with (go_at_call 26; (with_reducible refine HDM.out.mono ?_); rintro e wd ⟨XT, mT, jT, XB, mB, jB, XH, mH, jH, RA, rn, rcap, rfl, hpa, hre, hgd⟩; have HPD := Lib.hid hpa; have HRE := Lib.hid hre; have HGD := Lib.hid hgd; clear hpa hre hgd)
          clear s0 s1 s2 y0 y1 y2 y3 y4 y5 y6 b0 HDM
          obtain ⟨ht1, ht2, hgt⟩ := Law13b.two_box wd (.slice XT mT jT) (.slice XB mB jB) (.slice XH mH jH) (.int .i64 rc) (.int .i64 rp) (.int .i64 rh) (.slice RA rn rcap)
          have HGT : Hid (Grow w5 ((wd.alloc (.cells #[.slice XT mT jT, .slice XB mB jB, .slice XH mH jH] 64)).alloc (.cells #[.int .i64 rc, .int .i64 rp, .int .i64 rh, .slice RA rn rcap] 27))) := HGD.out.trans hgt
          have HT1 := Lib.hid ht1
          have HT2 := Lib.hid ht2
          have HPT := Lib.hid (HPD.out.grow hgt)
          have HRT := Lib.hid (PmC.sl_grow HRE.out.1 hgt)
          have HMQ : Hid (m < wd.heap.size) := Nat.lt_of_lt_of_le HSB.out.lt HGD.out.size
          generalize (wd.alloc (.cells #[.slice XT mT jT, .slice XB mB jB, .slice XH mH jH] 64)).alloc (.cells #[.int .i64 rc, .int .i64 rp, .int .i64 rh, .slice RA rn rcap] 27) = wt at *
          generalize wd.heap.size = t at HT1 HT2 HMQ ⊢
          clear ht1 ht2 hgt HPD HRE HGD
          have HS6 := Lib.hid (HS5.out.grow HGT.out)
          have HM6 := Lib.hid (HM5.out.grow HGT.out)
          have HB6 := Lib.hid (HB5.out.grow HGT.out)
          have HD6 := Lib.hid (HD5.out.grow HGT.out)
          have HP6 : Hid (PmC.PAt wt (fun k => Out (paint w5.heap.size 0 c5) k ∧ k ≠ m) (.agg #[.slice XT mT jT, .slice XB mB jB, .slice XH mH jH]) U) := HPT.out.mono fun k _ hk => ⟨out_new (c := 0) hk, Nat.ne_of_gt (Nat.lt_of_lt_of_le HSB.out.lt hk)⟩
          generalize paint w5.heap.size 0 c5 = c6 at *
          clear HS5 HM5 HB5 HD5 HPT HGT HSB
          have b0 := HB6.out.cell 0
          have b1 := HB6.out.cell 1
          have b2 := HB6.out.cell 2
          have b3 := HB6.out.cell 3
          have r0 := HT2.out.cell 0
          have r1 := HT2.out.cell 1
          have r2 := HT2.out.cell 2
          have r3 := HT2.out.cell 3
          simp only [List.getElem?_cons_zero, List.getElem?_cons_succ] at b0 b1 b2 b3 r0 r1 r2 r3
          go_upto_region 26 with (go_at_call 27; (with_reducible refine (same_true HD6.out.s HRT.out HRB.out).mono ?_); rintro e w7 ⟨rfl, hg5⟩; have HG7 := Lib.hid hg5; clear hg5)
          clear b0 b1 b2 b3 r0 r1 r2 r3
          have HS7 := Lib.hid (HS6.out.grow HG7.out)
          have HP7 := Lib.hid (pat_went HP6.out (Went.grow HG7.out))
          have HT7 := Lib.hid (HT1.out.grow HG7.out)
          obtain ⟨ho7, AT7, nT7, cT7, AB7, nB7, cB7, AH7, nH7, cH7, hmb7, _⟩ := HM6.out.grow HG7.out
          have HMB7 := Lib.hid (And.intro ho7 hmb7)
          generalize paint wt.heap.size 0 c6 = c7 at *
          clear HS6 HM6 HB6 HD6 HP6 HT1 HT2 HG7 HRT
          have t0 := HT7.out.cell 0
          have t1 := HT7.out.cell 1
          have t2 := HT7.out.cell 2
          have d0 := hmb7.cell 0
          have d1 := hmb7.cell 1
          have d2 := hmb7.cell 2
          have bf := hmb7.frozen
          simp only [List.getElem?_cons_zero, List.getElem?_cons_succ] at t0 t1 t2 d0 d1 d2
          clear ho7 hmb7
          go_upto_region 27 with (fail)
          have hput := MB.put HMB7.out.1 HMB7.out.2 HP7.out
          have HI8 : Hid (MI w ν m pl (50 * (j + 1)) c7 (((w7.setCell ⟨m, 0, none⟩ (.slice XT mT jT)).setCell ⟨m, 1, none⟩ (.slice XB mB jB)).setCell ⟨m, 2, none⟩ (.slice XH mH jH))) := ⟨by
            have h3 := HS7.out.put hput.2 fun i _ e => by rw [e]; exact ⟨HWB.out, HMB7.out.1⟩
            rw [show 50 * j + 50 = 50 * (j + 1) by omega] at h3
            exact h3, by rw [HQ2.out]; exact hput.1, HWB.out⟩
          generalize ((w7.setCell ⟨m, 0, none⟩ (.slice XT mT jT)).setCell ⟨m, 1, none⟩ (.slice XB mB jB)).setCell ⟨m, 2, none⟩ (.slice XH mH jH) = w8 at HI8 ⊢
          clear hput t0 t1 t2 d0 d1 d2 bf HS7 HP7 HT7 HMB7
          have HFP := Lib.hid (frp HI8.out.s.x HQ3.out)
          go_upto_region 28 with (go_at_call 14; (with_reducible refine HFP.out.mono ?_); rintro e w9 ⟨hf, ef, rfl, hfr, hgf, hg⟩; have HFR := Lib.hid hfr; have HI9 : Hid (MI w ν m pl (50 * (j + 1)) (paint w8.heap.size 0 c7) w9) := ⟨HI8.out.s.grow hg, HI8.out.x.grow hg, HI8.out.b⟩; clear hfr hgf hg)
          clear HFP HI8
          generalize paint w8.heap.size 0 c7 = c9 at HI9
          go_wp2
          go_loopg [17] 5 (QLoop w ν m n pl (50 * (j + 1)) hf ef)
          case atStart => exact ⟨0, c9, by omega, rfl, HI9.out, HFR.out⟩
          case round =>
            clear HI9 HFR
            obtain ⟨y, c, hg, rfl, hi, hfr⟩ := hrel
            have HGQ := Lib.hid hg
            have HI9 := Lib.hid hi
            have HFR := Lib.hid hfr
            clear hg hi hfr
            by_cases hy : y < 5
            · have hyz : (y : Int) < 5 := by omega
              have HY := Lib.hid hy
              obtain ⟨W0, hW0⟩ : ∃ W0, W0 = wr := ⟨_, rfl⟩
              have HW0 := Lib.hid hW0
              rw [← hW0] at HI9 HFR
              clear hy hW0
              go_wp2
              go_loopg [18, 19] n (FLoop W0 pl.A.F y n)
              case atStart => exact ⟨0, by omega, rfl, rfl, HW0.out.symm⟩
              case round =>
                obtain ⟨f, hg, rfl, rfl, rfl⟩ := hrel
                have HGF := Lib.hid hg
                clear hg
                by_cases hf' : f < n
                · have hfz : (f : Int) < (n : Int) := by omega
                  have HFF := Lib.hid hf'
                  have f0 := FR.c0 HFR.out hf'
                  have f1 := FR.c1 HFR.out hf'
                  have f2 := FR.c2 HFR.out hf'
                  have HPT : Hid (pinsTo pl.A.F (y : Int) (f + 1) = if (pl.A.F f).st = 1 ∧ (pl.A.F f).pg = (y : Int) then (pl.A.F f).pn else pinsTo pl.A.F (y : Int) f) := rfl
                  generalize (pl.A.F f).st = zs at f0 HPT
                  generalize (pl.A.F f).pg = zp at f1 HPT
                  generalize (pl.A.F f).pn = zn at f2 HPT
                  clear hf'
                  by_cases e1 : zs = 1
                  · have b1 : (zs == 1) = true := by simpa using e1
                    by_cases e2 : zp = (y : Int)
                    · have b2 : (zp == (y : Int)) = true := by simpa using e2
                      have HE := Lib.hid (HPT.out.trans (if_pos ⟨e1, e2⟩))
                      clear e1 e2
                      go_wp2
                      go_roundg (gk - 1)
                      case measure => have := HGF.out; have := HFF.out; omega
                      case rel => exact ⟨f + 1, by have := HGF.out; have := HFF.out; omega, by go_num, by rw [HE.out], rfl⟩
                    · have b2 : (zp == (y : Int)) = false := by simpa using e2
                      have HE := Lib.hid (HPT.out.trans (if_neg fun h => e2 h.2))
                      clear e1 e2
                      go_wp2
                      go_roundg (gk - 1)
                      case measure => have := HGF.out; have := HFF.out; omega
                      case rel => exact ⟨f + 1, by have := HGF.out; have := HFF.out; omega, by go_num, by rw [HE.out], rfl⟩
                  · have b1 : (zs == 1) = false := by simpa using e1
                    have HE := Lib.hid (HPT.out.trans (if_neg fun h => e1 h.1))
                    clear e1
                    go_wp2
                    go_roundg (gk - 1)
                    case measure => have := HGF.out; have := HFF.out; omega
                    case rel => exact ⟨f + 1, by have := HGF.out; have := HFF.out; omega, by go_num, by rw [HE.out], rfl⟩
                · obtain rfl : f = n := by have := HGF.out; omega
                  have hpt := pins_to HI9.out.s.x.i (q := y) (by rw [HQ3.out.xn]; exact HY.out)
                  rw [HQ3.out.an] at hpt
                  rw [hpt]
                  obtain ⟨ho, AT, nT, cT, AB, nB, cB, AH, nH, cH, hmb, hmp⟩ := HI9.out.x
                  have HPI := Lib.hid (PmF.t_pins hmp (y : Int) rfl)
                  have s0 := hmb.cell 0
                  have s1 := hmb.cell 1
                  have s2 := hmb.cell 2
                  simp only [List.getElem?_cons_zero, List.getElem?_cons_succ] at s0 s1 s2
                  generalize ((pl.X.pins (y : Int) : Nat) : Int) = zz at HPI ⊢
                  clear hf' hpt ho hmb hmp
                  go_wp2_with (go_at_call 28; (with_reducible refine HPI.out.mono ?_); rintro e wp ⟨rfl, hg⟩; have HGP := Lib.hid hg; clear hg)
                  go_roundg (5 - (y + 1))
                  case measure => have := HGQ.out; have := HY.out; omega
                  case rel => exact ⟨y + 1, _, by have := HGQ.out; have := HY.out; omega, by go_num, ⟨HI9.out.s.grow HGP.out, HI9.out.x.grow HGP.out, HI9.out.b⟩, OR.grow HFR.out HGP.out⟩
            · obtain rfl : y = 5 := by have := HGQ.out; omega
              clear hy
              go_wp2
              go_roundg (len - (j + 1))
              case measure => have := HG.out; have := HJ.out; omega
              case rel => exact ⟨j + 1, pl, c, by have := HG.out; have := HJ.out; omega, by go_num, HQ3.out, HI9.out⟩
        · -- no frame: all that are used are pinned
          obtain rfl : rc = 8 := congrArg (fun x => x.1.c) hc1
          obtain rfl : pl = p := congrArg (fun x => x.2) hc1
          have HFULL := Lib.hid hc2
          have HK12 := Lib.hid hc3
          have HF5 := Lib.hid (OR.kept HFR.out HW5.out.kept fun e => by have h1 := e.2; have h2 := HOF.out; unfold Out at h2; omega)
          clear hc1 hc2 hc3 HCALM HFR
          go_upto_region 16 with (fail)
          clear b0
          go_wp2
          go_loopg [12, 13] n (CLoop w5 n)
          case atStart => exact ⟨0, by omega, rfl, rfl, rfl⟩
          case round =>
            obtain ⟨f, hg, rfl, rfl, rfl⟩ := hrel
            have HGF := Lib.hid hg
            clear hg
            by_cases hf : f < n
            · have hfz : (f : Int) < (n : Int) := by omega
              have HFF := Lib.hid hf
              have f2 := FR.c2 HF5.out hf
              have hpos := (HFULL.out f (by rw [HPN.out.an]; exact hf)).2
              generalize (pl.A.F f).pn = z at f2 hpos
              clear hf
              go_wp2
              go_roundg (gk - 1)
              case measure => have := HGF.out; have := HFF.out; omega
              case rel => exact ⟨f + 1, by have := HGF.out; have := HFF.out; omega, by go_num, by go_num, rfl⟩
            · obtain rfl : f = n := by have := HGF.out; omega
              clear hf
              have y1 := HC5.out.1.cell 1
              simp only [List.getElem?_cons_zero, List.getElem?_cons_succ] at y1
              have hk12 := HK12.out
              rcases hk12 with hk | hk
              · rw [hk] at y1
                clear hk
                go_wp2
                go_roundg (len - (j + 1))
                case measure => have := HG.out; have := HJ.out; omega
                case rel => exact ⟨j + 1, pl, c5, by have := HG.out; have := HJ.out; omega, by go_num, HPN.out, by have h3 := HS5.out; rw [show 50 * j + 50 = 50 * (j + 1) by omega] at h3; exact h3, HM5.out, HWB.out⟩
              · rw [hk] at y1
                clear hk
                go_wp2
                go_roundg (len - (j + 1))
                case measure => have := HG.out; have := HJ.out; omega
                case rel => exact ⟨j + 1, pl, c5, by have := HG.out; have := HJ.out; omega, by go_num, HPN.out, by have h3 := HS5.out; rw [show 50 * j + 50 = 50 * (j + 1) by omega] at h3; exact h3, HM5.out, HWB.out⟩
      · obtain rfl : j = len := by have := HG.out; omega
        clear hj
        go_wp2_with (go_at_call 11; (with_reducible refine (told_any _).mono ?_); rintro e wt ⟨rfl, hge⟩; have HGE := Lib.hid hge; clear hge)
        go_ret
        exact ⟨rfl, Grow.below (HI.out.s.g.trans HGE.out)⟩
end
end Go.Proofs.YtbnkpnllgoghnaaGreat.LwSmall
