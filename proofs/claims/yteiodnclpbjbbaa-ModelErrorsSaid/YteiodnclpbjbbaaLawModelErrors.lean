/-
  For every input the call of lavabolaw13.ModelErrors returns true and leaves its arguments as they were; no condition.
-/
import Derived.Test.YteiodnclpbjbbaaPmLaw2
import Derived.Test.YteiodnclpbjbbaaMdIs
import Derived.Test.YteiodnclpbjbbaaMdFrom
import Derived.Test.YteiodnclpbjbbaaMdNear
import Derived.Test.YteiodnclpbjbbaaMdArgs
import Derived.Test.YteiodnclpbjbbaaTold13
import Derived.Test.YteiodnclpbjbbaaRows
import Derived.WalkKit
import Derived.ProofKit
import Derived.OpenShut
import Derived.ShutString
import Derived.ChangeOld
import Derived.Below
namespace Go.Proofs.Yteiodnclpbjbbaa.modelErrors
open Go.ChangeShapes Go.WideShapes Go.ChangeAt Go.RowKit
open Go.ChangeMaps (open_string shut_string)
open Go.Proofs.Yteiodnclpbjbbaa.MdR Go.Proofs.Yteiodnclpbjbbaa.MdD Go.Proofs.Yteiodnclpbjbbaa.MdI Go.Proofs.Yteiodnclpbjbbaa.Law13b Go.Proofs.Yteiodnclpbjbbaa.Mem Go.Proofs.Yteiodnclpbjbbaa.Blk Go.Proofs.Yteiodnclpbjbbaa.Cells Go.Proofs.Yteiodnclpbjbbaa.Orow Go.Proofs.Yteiodnclpbjbbaa.GrC Go.Proofs.Yteiodnclpbjbbaa.MdM Go.Proofs.Yteiodnclpbjbbaa.MdC Go.Proofs.Yteiodnclpbjbbaa.PmC Go.Proofs.Yteiodnclpbjbbaa.PmM Go.Proofs.Yteiodnclpbjbbaa.PmS Go.Proofs.Yteiodnclpbjbbaa.PmE Go.Proofs.Yteiodnclpbjbbaa.PmN Go.Proofs.Yteiodnclpbjbbaa.PmF Go.Proofs.Yteiodnclpbjbbaa.Law13 Go.Proofs.Yteiodnclpbjbbaa.Told13 Go.Proofs.Yteiodnclpbjbbaa.Calls13 Go.Proofs.Yteiodnclpbjbbaa.Args13 Go.Proofs.Yteiodnclpbjbbaa.MdN Go.Proofs.Yteiodnclpbjbbaa.MdNear Go.Proofs.Yteiodnclpbjbbaa.MdFrom Go.Proofs.Yteiodnclpbjbbaa.Stages
set_option linter.unusedVariables false

theorem own : ownKnob Try.prog.godebug = none := by kernel_rfl
theorem laidOut : laidOutB Try.prog = true := by kernel_rfl

theorem bytes_take {w w' : World} {F : Nat → Prop} {A : Option Addr} {len cap l' : Nat} (h : BytesAt w A len cap) (hl : l' ≤ len) (hk : Kept F w w') (hF : ∀ k, k < w.heap.size → ¬ F k) : BytesAt w' A l' cap := by
  obtain ⟨d, hs, hb, h1, h2⟩ := h
  refine ⟨d.take l', ⟨by rw [List.length_take, hs.len]; omega, fun h0 => ?_⟩, fun z hz => hb z (List.mem_of_mem_take hz), by omega, h2⟩
  obtain ⟨b, off, rfl, hlt, hc⟩ := hs.at_ (by omega)
  refine ⟨b, off, rfl, Nat.lt_of_lt_of_le hlt hk.size, fun j hj => ?_⟩
  rw [show (d.take l').getD j 0 = d.getD j 0 by simp [List.getD_eq_getElem?_getD, List.getElem?_take, hj]]
  exact hk.cellN (hc j (by omega)) (hF b hlt)
/-- An error tells nothing else and changes nothing. -/
def Errs (a : Md) (x : Re × Md) : Prop := x.1.c ≠ 0 → x.2 = a ∧ x.1.p = 0 ∧ x.1.h = 0 ∧ x.1.d = []
theorem run_err {a : Md} (c : Int) (o : MdOp) : Errs a (a.run c o) := by
  have he : ∀ k, Errs a (err k, a) := fun k _ => ⟨rfl, rfl, rfl, rfl⟩
  have hz : ∀ p h d m, Errs a (⟨0, p, h, d⟩, m) := fun p h d m x => absurd rfl x
  have hp : ∀ (p : Int) (f : Nat → Re × Md), (∀ q, Errs a (f q)) → Errs a (a.onPage p f) := fun p f h => by
    unfold Md.onPage
    split
    · exact he _
    · split
      · exact he _
      · exact h _
  have hh : ∀ (c h : Int) (f : Nat → Re × Md), (∀ q, Errs a (f q)) → Errs a (a.onHand c h f) := fun c h f hf => by
    unfold Md.onHand
    split
    · exact he _
    · exact hf _
  unfold Md.run
  split
  · exact he _
  split
  · unfold Md.new
    split
    · exact he _
    · split
      · exact he _
      · exact hz _ _ _ _
  split
  · exact hp _ _ fun q => by
      unfold Md.fetch
      split
      · exact he _
      · exact hz _ _ _ _
  split
  · exact hh _ _ _ fun q => by
      unfold Md.read
      split
      · exact he _
      · exact hz _ _ _ _
  split
  · exact hh _ _ _ fun q => by
      unfold Md.write
      split
      · exact he _
      · exact hz _ _ _ _
  split
  · exact hh _ _ _ fun q => hz _ _ _ _
  split
  · exact hp _ _ fun q => hz _ _ _ _
  split
  · exact hz _ _ _ _
  · exact hp _ _ fun q => by
      unfold Md.del
      split
      · exact he _
      · exact hz _ _ _ _
/-- A state's box, and its parts. -/
theorem sb_parts {w : World} {m : Nat} {a : Md} (h : SB w m m a) : ∃ AT cT AB cB AH cH, Blk w m 28 [.slice AT a.n cT, .slice AB a.n cB, .slice AH a.N cH] ∧ PAt w (fun k => k ≠ m) (.agg #[.slice AT a.n cT, .slice AB a.n cB, .slice AH a.N cH]) a ∧ Parts w AT cT AB cB AH cH (stOf a) := by
  obtain ⟨AT, nT, cT, AB, nB, cB, AH, nH, cH, h1, h2⟩ := h
  obtain ⟨AT', cT', AB', cB', AH', cH', e, hp⟩ := h2.seen
  have e : (Value.slice AT nT cT = .slice AT' a.n cT' ∧ Value.slice AB nB cB = .slice AB' a.n cB') ∧ Value.slice AH nH cH = .slice AH' a.N cH' := by
    have := e
    simp only [stv, Value.agg.injEq, Array.mk.injEq, List.cons.injEq, and_true] at this
    exact ⟨⟨this.1, this.2.1⟩, this.2.2⟩
  rw [e.1.1, e.1.2, e.2] at h1 h2
  exact ⟨_, _, _, _, _, _, h1, h2, hp⟩
theorem call_box (w : World) (c k p h o n s : Value) : Grow w (w.alloc (.cells #[c, k, p, h, o, n, s] 54)) ∧ Blk (w.alloc (.cells #[c, k, p, h, o, n, s] 54)) w.heap.size 54 [c, k, p, h, o, n, s] := ⟨(Kept.refl _ _).alloc _, Blk.new w _ [c, k, p, h, o, n, s]⟩
theorem s_box (w : World) (x y z : Value) : Grow w (w.alloc (.cells #[x, y, z] 41)) ∧ Blk (w.alloc (.cells #[x, y, z] 41)) w.heap.size 41 [x, y, z] := ⟨(Kept.refl _ _).alloc _, Blk.new w _ [x, y, z]⟩
/-- The state's box is m, the last call's box is g. -/
def ELoop (w : World) (m g : Nat) (y : CallV) (M gx : Nat) (i : Value) (wx : World) : Prop := ∃ j : Nat, j + gx = M ∧ i = .int .i64 (j : Int) ∧ j ≤ 60 ∧ ∃ a, SB wx m m a ∧ Grow w wx ∧ Blk wx g 54 [.int .i64 y.c, .int .i64 y.k, .int .i64 y.p, .int .i64 y.h, .int .i64 y.o, .int .i64 y.n, .slice y.A y.len y.cap]
set_option maxHeartbeats 4000000 in
set_option maxRecDepth 100000 in
theorem walk (a0 : Option Addr) (len0 cap0 : Nat) (a1 : Value) (w : World) (w0 : CallsAt w a0 len0 cap0) (w1 : CallArg w a1) :
    Calls Try.prog 7 #[.slice a0 len0 cap0, a1] w fun e w' => e = .returned (.bool true) ∧ Below w.heap.size w w' := by
  obtain ⟨hlc, hcm, hops⟩ := w0
  unfold maxLen at hcm
  have HOPS := Lib.hid hops
  obtain ⟨y, rfl, hyb, hyo⟩ := w1
  have HYB := Lib.hid hyb
  have HYO := Lib.hid hyo
  clear hops hyb hyo
  obtain ⟨hgb, hcb⟩ := call_box w (.int .i64 y.c) (.int .i64 y.k) (.int .i64 y.p) (.int .i64 y.h) (.int .i64 y.o) (.int .i64 y.n) (.slice y.A y.len y.cap)
  have HGB := Lib.hid hgb
  have HCB := Lib.hid hcb
  clear hgb hcb
  go_enter Try.func7, Try.ntmps7
  go_upto_region 1 with (fail)
  generalize w.alloc (.cells #[.int .i64 y.c, .int .i64 y.k, .int .i64 y.p, .int .i64 y.h, .int .i64 y.o, .int .i64 y.n, .slice y.A y.len y.cap] 54) = wb at HGB HCB ⊢
  obtain ⟨g, hgg⟩ : ∃ g, g = w.heap.size := ⟨_, rfl⟩
  rw [← hgg] at HCB ⊢
  have HGG := Lib.hid hgg
  clear hgg
  have c6 := HCB.out.cell 6
  simp only [List.getElem?_cons_zero, List.getElem?_cons_succ] at c6
  by_cases h40 : 40 < y.len
  · have h40z : (40 : Int) < (y.len : Int) := by omega
    go_wp2_with (go_at_call 10; (with_reducible refine (told_any _).mono ?_); rintro e wt ⟨rfl, hge⟩; have HGE := Lib.hid hge; clear hge)
    go_ret
    exact ⟨rfl, Grow.below (HGB.out.trans HGE.out)⟩
  have h40z : (y.len : Int) ≤ 40 := by omega
  have CN := Lib.hid (new_any 5 3 (by omega) (by omega) (by omega) (by omega) wb)
  simp only [Int.cast_ofNat_Int] at CN
  clear h40
  go_upto_region 4 with (go_at_call 11; (with_reducible refine CN.out.mono ?_); rintro e w1 ⟨v1, rfl, hpa, hg⟩; obtain ⟨AT, cT, AB, cB, AH, cH, rfl⟩ := pat_form hpa; have HPA := Lib.hid hpa; have HG1 := Lib.hid hg; clear hpa hg)
  obtain ⟨hsb, hg2⟩ := sb_new HPA.out
  obtain ⟨m, hm⟩ : ∃ m, m = w1.heap.size := ⟨_, rfl⟩
  have HGM : Hid (w.heap.size ≤ m ∧ g < m) := ⟨by have := HGB.out.size; have := HG1.out.size; omega, by have := HCB.out.lt; have := HG1.out.size; omega⟩
  rw [← hm] at hsb ⊢
  generalize w1.alloc (.cells #[.slice AT (fresh 5 3).n cT, .slice AB (fresh 5 3).n cB, .slice AH (fresh 5 3).N cH] 28) = w2 at hsb hg2 ⊢
  have HSB := Lib.hid hsb
  have HG2 : Hid (Grow wb w2) := HG1.out.trans hg2
  clear hm hsb hg2 c6 HPA HG1 CN
  go_wp2
  go_loopg [6] len0 (ELoop w m g y len0)
  case atStart => exact ⟨0, by omega, rfl, by omega, _, HSB.out, HGB.out.trans HG2.out, HCB.out.grow HG2.out⟩
  case round =>
    clear HSB HG2 HGB HCB
    obtain ⟨j, hg, rfl, hj60, a, hsb, hgr, hcb⟩ := hrel
    have HG := Lib.hid hg
    have HSB := Lib.hid hsb
    have HGR := Lib.hid hgr
    have HCB := Lib.hid hcb
    clear hg hsb hgr hcb
    have hjb : (j : Int) ≤ 60 := by omega
    have HJ6 := Lib.hid hj60
    clear hj60
    by_cases hj : j < len0 ∧ j < 60
    · have hjz : (j : Int) < (len0 : Int) := by omega
      have hj6 : (j : Int) < 60 := by omega
      have HJ := Lib.hid hj
      obtain ⟨ab, ao, rfl, hab, hall⟩ := HOPS.out (by omega)
      obtain ⟨x, hx⟩ := hall j hj.1
      have HX := Lib.hid hx
      have cc := HGR.out.cellN hx.c id
      have ck := HGR.out.cellN hx.k id
      have cp := HGR.out.cellN hx.p id
      have ch := HGR.out.cellN hx.h id
      have co := HGR.out.cellN hx.o id
      have cn := HGR.out.cellN hx.n id
      have cd := HGR.out.cellN hx.d id
      clear hall hx hj hab
      by_cases h40 : 40 < x.len
      · have h40y : (40 : Int) < (x.len : Int) := by omega
        go_wp2_with (go_at_call 10; (with_reducible refine (told_any _).mono ?_); rintro e wt ⟨rfl, hge⟩; have HGE := Lib.hid hge; clear hge)
        go_ret
        exact ⟨rfl, Grow.below (HGR.out.trans HGE.out)⟩
      · have h40y : (x.len : Int) ≤ 40 := by omega
        have HNEAR : Hid (∀ wx, Calls Try.prog 26 #[.agg #[.int .i64 x.c, .int .i64 x.k, .int .i64 x.p, .int .i64 x.h, .int .i64 x.o, .int .i64 x.n, .slice x.A x.len x.cap], .int .i64 5, .int .i64 3] wx (NearP 5 3 x.A x.len x.cap wx)) := fun wx => near_any x.c x.k x.p x.h x.o x.n x.A x.len x.cap 5 3 (by omega) (by omega) (by omega) (by omega) (by obtain ⟨d, _, _, h, _⟩ := HX.out.da; exact h) wx
        clear h40
        go_upto_region 10 with (go_at_call 26; (with_reducible refine (HNEAR.out _).mono ?_); rintro e wn ⟨c', k', p', h', o', n', l', rfl, hr1, hr2, hr3, hr4, hr5, hr6, hr7, hl, hg⟩; have HNR := Lib.hid (And.intro hr6 hl); have HGN := Lib.hid hg; clear hg hr1 hr2 hr3 hr4 hr5 hr6 hr7 hl)
        obtain ⟨hgc, hnb⟩ := call_box wn (.int .i64 (c' : Int)) (.int .i64 (k' : Int)) (.int .i64 (p' : Int)) (.int .i64 (h' : Int)) (.int .i64 (o' : Int)) (.int .i64 (n' : Int)) (.slice x.A l' x.cap)
        generalize wn.alloc (.cells #[.int .i64 (c' : Int), .int .i64 (k' : Int), .int .i64 (p' : Int), .int .i64 (h' : Int), .int .i64 (o' : Int), .int .i64 (n' : Int), .slice x.A l' x.cap] 54) = wc at hgc hnb ⊢
        have HG2 : Hid (Grow wr wc) := HGN.out.trans hgc
        obtain ⟨d, hd, hdb, hl1, hl2⟩ := bytes_take (l' := l') HX.out.da (by have h := HNR.out.2; rw [h]; exact Nat.min_le_left _ _) (HGR.out.trans HG2.out) (fun _ _ h => h)
        obtain ⟨ST, kT, SB', kB, SH, kH, hsb, hsp, hpp⟩ := sb_parts (HSB.out.grow HG2.out)
        obtain ⟨rc, rp, rh, rd, U, hr⟩ : ∃ rc rp rh rd U, a.run (c' : Int) ⟨(k' : Int), (p' : Int), (h' : Int), (o' : Int), (n' : Int), d⟩ = (⟨rc, rp, rh, rd⟩, U) := ⟨_, _, _, _, _, rfl⟩
        have HDO := Lib.hid (t_do hsp (c' : Int) (k' : Int) (p' : Int) (h' : Int) (o' : Int) (n' : Int) hd hdb hl1 hl2 (by have := HNR.out.1; omega) hr)
        have s0 := hsb.cell 0
        have s1 := hsb.cell 1
        have s2 := hsb.cell 2
        have y0 := hnb.cell 0
        have y1 := hnb.cell 1
        have y2 := hnb.cell 2
        have y3 := hnb.cell 3
        have y4 := hnb.cell 4
        have y5 := hnb.cell 5
        have y6 := hnb.cell 6
        simp only [List.getElem?_cons_zero, List.getElem?_cons_succ] at s0 s1 s2 y0 y1 y2 y3 y4 y5 y6
        have HSC := Lib.hid hsb
        have HLM : Hid (m < wc.heap.size) := hsb.lt
        clear hgc hnb hd hdb hl1 hl2 hsb hsp hpp hr cc ck cp ch co cn cd HSB
        go_wp2_with (go_at_call 12; (with_reducible refine HDO.out.mono ?_); rintro e wd ⟨XT, nT, jT, XB, nB, jB, XH, nH, jH, RA, rn, rcap, rfl, hpa, hre, hgd⟩; have HPD := Lib.hid hpa; have HGD := Lib.hid hgd; have hbd := HSC.out.grow hgd; have HBD := Lib.hid hbd; have b0 := hbd.cell 0; have b1 := hbd.cell 1; have b2 := hbd.cell 2; have bf := hbd.frozen; simp only [List.getElem?_cons_zero, List.getElem?_cons_succ] at b0 b1 b2; clear hpa hre hgd hbd)
        go_roundg (gk - 1)
        case measure => have := HG.out; have := HJ.out; omega
        case rel =>
          obtain ⟨h1, h2⟩ := sb_put (HPD.out.mono (X := fun k => k ≠ m) fun k _ (e : wc.heap.size ≤ k) => by have := HLM.out; show k ≠ m; omega) HBD.out
          exact ⟨j + 1, by have := HG.out; have := HJ.out; omega, by go_num, by have := HJ.out; omega, U, h1, (HGR.out.trans (HG2.out.trans HGD.out)).then h2 fun k hk e => by have e : k = m := e; have := HGM.out; omega, ((HCB.out.grow HG2.out).grow HGD.out).kept h2 fun e => by have e : g = m := e; have := HGM.out; omega⟩
    · by_cases hl : j < len0
      · have hjz : (j : Int) < (len0 : Int) := by omega
        obtain rfl : j = 60 := by omega
        simp only [Int.cast_ofNat_Int] at hjz hjb ⊢
        clear hj hl HG HJ6
        obtain ⟨ST, kT, SB', kB, SH, kH, hsb, hsp, hpp⟩ := sb_parts HSB.out
        have HPA := Lib.hid hsp
        have HBX := Lib.hid hsb
        have CF : Hid (∀ wx, Grow wr wx → Calls Try.prog 14 #[.agg #[.slice ST a.n kT, .slice SB' a.n kB, .slice SH a.N kH]] wx (FromP (stOf a) wx)) := fun wx hg => from_any (hpp.grow hg)
        have s0 := hsb.cell 0
        have s1 := hsb.cell 1
        have s2 := hsb.cell 2
        simp only [List.getElem?_cons_zero, List.getElem?_cons_succ] at s0 s1 s2
        clear hsb hsp hpp HSB
        go_upto_region 12 with (go_at_call 14; (with_reducible refine (CF.out _ (Kept.refl _ _)).mono ?_); rintro e wf ⟨X1, n1, c1, X2, n2, c2, X3, n3, c3, b, rfl, hb, hat, hgf⟩; have HAT := Lib.hid (hat (hb.2 (good_may HPA.out.good))); have HGF := Lib.hid hgf; obtain rfl : b = true := hb.2 (good_may HPA.out.good); clear hb hat hgf)
        obtain ⟨hgx, hxb⟩ := s_box wf (.slice X1 n1 c1) (.slice X2 n2 c2) (.slice X3 n3 c3)
        obtain ⟨bx, hbx⟩ : ∃ bx, bx = wf.heap.size := ⟨_, rfl⟩
        rw [← hbx] at hxb ⊢
        generalize wf.alloc (.cells #[.slice X1 n1 c1, .slice X2 n2 c2, .slice X3 n3 c3] 41) = wx at hgx hxb ⊢
        have HGX : Hid (Grow wr wx) := HGF.out.trans hgx
        have HAX := Lib.hid (HAT.out.grow hgx)
        have HXB := Lib.hid hxb
        have HPX := Lib.hid (HPA.out.grow HGX.out)
        have HBM := Lib.hid (HBX.out.grow HGX.out)
        have HCX := Lib.hid (HCB.out.grow HGX.out)
        clear hgx hxb hbx s0 s1 s2 CF HAT HGF
        obtain ⟨d, hd, hdb, hl1, hl2⟩ := bytes_take HYB.out (Nat.le_refl _) (HGR.out.trans HGX.out) (fun _ _ h => h)
        obtain ⟨rc, rp, rh, rd, U, hr⟩ : ∃ rc rp rh rd U, a.run y.c ⟨y.k, y.p, y.h, y.o, y.n, d⟩ = (⟨rc, rp, rh, rd⟩, U) := ⟨_, _, _, _, _, rfl⟩
        have hee := run_err (a := a) y.c ⟨y.k, y.p, y.h, y.o, y.n, d⟩
        rw [hr] at hee
        have HEE : Hid (rc ≠ 0 → U = a ∧ rp = 0 ∧ rh = 0 ∧ rd = []) := hee
        have HDO := Lib.hid (t_do HPX.out y.c y.k y.p y.h y.o y.n hd hdb hl1 hl2 HYO.out.2 hr)
        have s0 := HBM.out.cell 0
        have s1 := HBM.out.cell 1
        have s2 := HBM.out.cell 2
        have y0 := HCX.out.cell 0
        have y1 := HCX.out.cell 1
        have y2 := HCX.out.cell 2
        have y3 := HCX.out.cell 3
        have y4 := HCX.out.cell 4
        have y5 := HCX.out.cell 5
        have y6 := HCX.out.cell 6
        simp only [List.getElem?_cons_zero, List.getElem?_cons_succ] at s0 s1 s2 y0 y1 y2 y3 y4 y5 y6
        clear hd hdb hl1 hl2 hr hee
        go_upto_region 13 with (go_at_call 12; (with_reducible refine HDO.out.mono ?_); rintro e wd ⟨XT, nT, jT, XB, nB, jB, XH, nH, jH, RA, rn, rcap, rfl, hpa, hre, hgd⟩; have HPD := Lib.hid hpa; have HRE := Lib.hid hre; have HGD := Lib.hid hgd; clear hpa hre hgd)
        clear s0 s1 s2 y0 y1 y2 y3 y4 y5 y6
        obtain ⟨ht1, ht2, hgt⟩ := two_box wd (.slice XT nT jT) (.slice XB nB jB) (.slice XH nH jH) (.int .i64 rc) (.int .i64 rp) (.int .i64 rh) (.slice RA rn rcap)
        obtain ⟨p, hp⟩ : ∃ p, p = wd.heap.size := ⟨_, rfl⟩
        rw [← hp] at ht1 ht2 ⊢
        generalize (wd.alloc (.cells #[.slice XT nT jT, .slice XB nB jB, .slice XH nH jH] 28)).alloc (.cells #[.int .i64 rc, .int .i64 rp, .int .i64 rh, .slice RA rn rcap] 31) = wt at ht1 ht2 hgt ⊢
        have HGT : Hid (Grow wx wt) := HGD.out.trans hgt
        have HT1 := Lib.hid ht1
        have HT2 := Lib.hid ht2
        have HPT := Lib.hid (HPD.out.grow hgt)
        have HPA2 := Lib.hid (HPX.out.grow HGT.out)
        have HAX2 := Lib.hid (HAX.out.grow HGT.out)
        have HXB2 := Lib.hid (HXB.out.grow HGT.out)
        have HBM2 := Lib.hid (HBM.out.grow HGT.out)
        have HSEEN : Hid (∀ wz, Grow wt wz → Seen wz (.agg #[.slice ST a.n kT, .slice SB' a.n kB, .slice SH a.N kH]) (stOf (stOf a).md)) := fun wz hg => ((HPA2.out.grow hg).seen).congr (may_same (good_may HPA2.out.good))
        have HRN : Hid (rc ≠ 0 → rn = 0) := fun h => by have := HRE.out.1.len; rw [(HEE.out h).2.2.2] at this; exact this.symm
        have HGALL : Hid (Grow w wt) := (HGR.out.trans HGX.out).trans HGT.out
        have b0 := HBM2.out.cell 0
        have b1 := HBM2.out.cell 1
        have b2 := HBM2.out.cell 2
        have x0 := HXB2.out.cell 0
        have x1 := HXB2.out.cell 1
        have x2 := HXB2.out.cell 2
        simp only [List.getElem?_cons_zero, List.getElem?_cons_succ] at b0 b1 b2 x0 x1 x2
        clear hp ht1 ht2 hgt HPX HAX HXB HBM HCX HPD HGD HBX HCB HPA HDO
        by_cases hrc : rc = 0
        · subst hrc
          have hzz : ((0 : Int) != 0) = false := by simp
          go_wp2_with (first
            | (go_at_call 21; (with_reducible refine (is_true HAX2.out (HSEEN.out _ (Kept.refl _ _))).mono ?_); rintro e w6 ⟨rfl, hg6⟩; have HG6 := Lib.hid hg6; have r0 := (HT2.out.grow hg6).cell 0; simp only [List.getElem?_cons_zero, List.getElem?_cons_succ] at r0; clear hg6)
            | (go_at_call 10; (with_reducible refine (told_any _).mono ?_); rintro e w7 ⟨rfl, hge⟩; have HGE := Lib.hid hge; have hbb := (HT1.out.grow HG6.out).grow hge; have q0 := hbb.cell 0; have q1 := hbb.cell 1; have q2 := hbb.cell 2; simp only [List.getElem?_cons_zero, List.getElem?_cons_succ] at q0 q1 q2; clear hge hbb)
            | (go_at_call 15; (with_reducible refine (t_may ((HPT.out.grow HG6.out).grow HGE.out)).mono ?_); rintro e w8 ⟨rfl, hg8⟩; have HG8 := Lib.hid hg8; clear hg8))
          go_ret
          exact ⟨rfl, Grow.below (((HGALL.out.trans HG6.out).trans HGE.out).trans HG8.out)⟩
        · obtain ⟨e1, e2, e3, _⟩ := HEE.out hrc
          have hrn := HRN.out hrc
          subst e1 e2 e3 hrn
          have hc1 : (rc != 0) = true := by simp [hrc]
          have hc2 : (rc == 0) = false := by simp [hrc]
          have HSAME : Hid ((stOf U).same (stOf U)) := same_refl _
          go_wp2_with (first
            | (go_at_call 21; (with_reducible refine (is_true HAX2.out (HSEEN.out _ (Kept.refl _ _))).mono ?_); rintro e w6 ⟨rfl, hg6⟩; have HG6 := Lib.hid hg6; have hr6 := HT2.out.grow hg6; have r0 := hr6.cell 0; have hb6 := HBM2.out.grow hg6; have b0 := hb6.cell 0; have b1 := hb6.cell 1; have b2 := hb6.cell 2; have hn6 := HT1.out.grow hg6; have z0 := hn6.cell 0; have z1 := hn6.cell 1; have z2 := hn6.cell 2; simp only [List.getElem?_cons_zero, List.getElem?_cons_succ] at r0 b0 b1 b2 z0 z1 z2; clear hg6 hr6 hb6 hn6)
            | (go_at_call 16; (with_reducible refine (t_same (HPA2.out.grow HG6.out) (HPT.out.grow HG6.out) (b := true) ⟨fun _ => HSAME.out, fun _ => rfl⟩).mono ?_); rintro e w9 ⟨rfl, hg9⟩; have HG9 := Lib.hid hg9; have hr9 := (HT2.out.grow HG6.out).grow hg9; have r1 := hr9.cell 1; have r2 := hr9.cell 2; have r3 := hr9.cell 3; simp only [List.getElem?_cons_zero, List.getElem?_cons_succ] at r1 r2 r3; clear hg9 hr9)
            | (go_at_call 10; (with_reducible refine (told_any _).mono ?_); rintro e w7 ⟨rfl, hge⟩; have HGE := Lib.hid hge; have hbb := ((HT1.out.grow HG6.out).grow HG9.out).grow hge; have q0 := hbb.cell 0; have q1 := hbb.cell 1; have q2 := hbb.cell 2; simp only [List.getElem?_cons_zero, List.getElem?_cons_succ] at q0 q1 q2; clear hge hbb)
            | (go_at_call 15; (with_reducible refine (t_may (((HPT.out.grow HG6.out).grow HG9.out).grow HGE.out)).mono ?_); rintro e w8 ⟨rfl, hg8⟩; have HG8 := Lib.hid hg8; clear hg8))
          go_ret
          exact ⟨rfl, Grow.below ((((HGALL.out.trans HG6.out).trans HG9.out).trans HGE.out).trans HG8.out)⟩
      · obtain rfl : j = len0 := by have := HG.out; omega
        clear hj hl HG HJ6
        obtain ⟨ST, kT, SB', kB, SH, kH, hsb, hsp, hpp⟩ := sb_parts HSB.out
        have HPA := Lib.hid hsp
        have HBX := Lib.hid hsb
        have CF : Hid (∀ wx, Grow wr wx → Calls Try.prog 14 #[.agg #[.slice ST a.n kT, .slice SB' a.n kB, .slice SH a.N kH]] wx (FromP (stOf a) wx)) := fun wx hg => from_any (hpp.grow hg)
        have s0 := hsb.cell 0
        have s1 := hsb.cell 1
        have s2 := hsb.cell 2
        simp only [List.getElem?_cons_zero, List.getElem?_cons_succ] at s0 s1 s2
        clear hsb hsp hpp HSB
        go_upto_region 12 with (go_at_call 14; (with_reducible refine (CF.out _ (Kept.refl _ _)).mono ?_); rintro e wf ⟨X1, n1, c1, X2, n2, c2, X3, n3, c3, b, rfl, hb, hat, hgf⟩; have HAT := Lib.hid (hat (hb.2 (good_may HPA.out.good))); have HGF := Lib.hid hgf; obtain rfl : b = true := hb.2 (good_may HPA.out.good); clear hb hat hgf)
        obtain ⟨hgx, hxb⟩ := s_box wf (.slice X1 n1 c1) (.slice X2 n2 c2) (.slice X3 n3 c3)
        obtain ⟨bx, hbx⟩ : ∃ bx, bx = wf.heap.size := ⟨_, rfl⟩
        rw [← hbx] at hxb ⊢
        generalize wf.alloc (.cells #[.slice X1 n1 c1, .slice X2 n2 c2, .slice X3 n3 c3] 41) = wx at hgx hxb ⊢
        have HGX : Hid (Grow wr wx) := HGF.out.trans hgx
        have HAX := Lib.hid (HAT.out.grow hgx)
        have HXB := Lib.hid hxb
        have HPX := Lib.hid (HPA.out.grow HGX.out)
        have HBM := Lib.hid (HBX.out.grow HGX.out)
        have HCX := Lib.hid (HCB.out.grow HGX.out)
        clear hgx hxb hbx s0 s1 s2 CF HAT HGF
        obtain ⟨d, hd, hdb, hl1, hl2⟩ := bytes_take HYB.out (Nat.le_refl _) (HGR.out.trans HGX.out) (fun _ _ h => h)
        obtain ⟨rc, rp, rh, rd, U, hr⟩ : ∃ rc rp rh rd U, a.run y.c ⟨y.k, y.p, y.h, y.o, y.n, d⟩ = (⟨rc, rp, rh, rd⟩, U) := ⟨_, _, _, _, _, rfl⟩
        have hee := run_err (a := a) y.c ⟨y.k, y.p, y.h, y.o, y.n, d⟩
        rw [hr] at hee
        have HEE : Hid (rc ≠ 0 → U = a ∧ rp = 0 ∧ rh = 0 ∧ rd = []) := hee
        have HDO := Lib.hid (t_do HPX.out y.c y.k y.p y.h y.o y.n hd hdb hl1 hl2 HYO.out.2 hr)
        have s0 := HBM.out.cell 0
        have s1 := HBM.out.cell 1
        have s2 := HBM.out.cell 2
        have y0 := HCX.out.cell 0
        have y1 := HCX.out.cell 1
        have y2 := HCX.out.cell 2
        have y3 := HCX.out.cell 3
        have y4 := HCX.out.cell 4
        have y5 := HCX.out.cell 5
        have y6 := HCX.out.cell 6
        simp only [List.getElem?_cons_zero, List.getElem?_cons_succ] at s0 s1 s2 y0 y1 y2 y3 y4 y5 y6
        clear hd hdb hl1 hl2 hr hee
        go_upto_region 13 with (go_at_call 12; (with_reducible refine HDO.out.mono ?_); rintro e wd ⟨XT, nT, jT, XB, nB, jB, XH, nH, jH, RA, rn, rcap, rfl, hpa, hre, hgd⟩; have HPD := Lib.hid hpa; have HRE := Lib.hid hre; have HGD := Lib.hid hgd; clear hpa hre hgd)
        clear s0 s1 s2 y0 y1 y2 y3 y4 y5 y6
        obtain ⟨ht1, ht2, hgt⟩ := two_box wd (.slice XT nT jT) (.slice XB nB jB) (.slice XH nH jH) (.int .i64 rc) (.int .i64 rp) (.int .i64 rh) (.slice RA rn rcap)
        obtain ⟨p, hp⟩ : ∃ p, p = wd.heap.size := ⟨_, rfl⟩
        rw [← hp] at ht1 ht2 ⊢
        generalize (wd.alloc (.cells #[.slice XT nT jT, .slice XB nB jB, .slice XH nH jH] 28)).alloc (.cells #[.int .i64 rc, .int .i64 rp, .int .i64 rh, .slice RA rn rcap] 31) = wt at ht1 ht2 hgt ⊢
        have HGT : Hid (Grow wx wt) := HGD.out.trans hgt
        have HT1 := Lib.hid ht1
        have HT2 := Lib.hid ht2
        have HPT := Lib.hid (HPD.out.grow hgt)
        have HPA2 := Lib.hid (HPX.out.grow HGT.out)
        have HAX2 := Lib.hid (HAX.out.grow HGT.out)
        have HXB2 := Lib.hid (HXB.out.grow HGT.out)
        have HBM2 := Lib.hid (HBM.out.grow HGT.out)
        have HSEEN : Hid (∀ wz, Grow wt wz → Seen wz (.agg #[.slice ST a.n kT, .slice SB' a.n kB, .slice SH a.N kH]) (stOf (stOf a).md)) := fun wz hg => ((HPA2.out.grow hg).seen).congr (may_same (good_may HPA2.out.good))
        have HRN : Hid (rc ≠ 0 → rn = 0) := fun h => by have := HRE.out.1.len; rw [(HEE.out h).2.2.2] at this; exact this.symm
        have HGALL : Hid (Grow w wt) := (HGR.out.trans HGX.out).trans HGT.out
        have b0 := HBM2.out.cell 0
        have b1 := HBM2.out.cell 1
        have b2 := HBM2.out.cell 2
        have x0 := HXB2.out.cell 0
        have x1 := HXB2.out.cell 1
        have x2 := HXB2.out.cell 2
        simp only [List.getElem?_cons_zero, List.getElem?_cons_succ] at b0 b1 b2 x0 x1 x2
        clear hp ht1 ht2 hgt HPX HAX HXB HBM HCX HPD HGD HBX HCB HPA HDO
        by_cases hrc : rc = 0
        · subst hrc
          have hzz : ((0 : Int) != 0) = false := by simp
          go_wp2_with (first
            | (go_at_call 21; (with_reducible refine (is_true HAX2.out (HSEEN.out _ (Kept.refl _ _))).mono ?_); rintro e w6 ⟨rfl, hg6⟩; have HG6 := Lib.hid hg6; have r0 := (HT2.out.grow hg6).cell 0; simp only [List.getElem?_cons_zero, List.getElem?_cons_succ] at r0; clear hg6)
            | (go_at_call 10; (with_reducible refine (told_any _).mono ?_); rintro e w7 ⟨rfl, hge⟩; have HGE := Lib.hid hge; have hbb := (HT1.out.grow HG6.out).grow hge; have q0 := hbb.cell 0; have q1 := hbb.cell 1; have q2 := hbb.cell 2; simp only [List.getElem?_cons_zero, List.getElem?_cons_succ] at q0 q1 q2; clear hge hbb)
            | (go_at_call 15; (with_reducible refine (t_may ((HPT.out.grow HG6.out).grow HGE.out)).mono ?_); rintro e w8 ⟨rfl, hg8⟩; have HG8 := Lib.hid hg8; clear hg8))
          go_ret
          exact ⟨rfl, Grow.below (((HGALL.out.trans HG6.out).trans HGE.out).trans HG8.out)⟩
        · obtain ⟨e1, e2, e3, _⟩ := HEE.out hrc
          have hrn := HRN.out hrc
          subst e1 e2 e3 hrn
          have hc1 : (rc != 0) = true := by simp [hrc]
          have hc2 : (rc == 0) = false := by simp [hrc]
          have HSAME : Hid ((stOf U).same (stOf U)) := same_refl _
          go_wp2_with (first
            | (go_at_call 21; (with_reducible refine (is_true HAX2.out (HSEEN.out _ (Kept.refl _ _))).mono ?_); rintro e w6 ⟨rfl, hg6⟩; have HG6 := Lib.hid hg6; have hr6 := HT2.out.grow hg6; have r0 := hr6.cell 0; have hb6 := HBM2.out.grow hg6; have b0 := hb6.cell 0; have b1 := hb6.cell 1; have b2 := hb6.cell 2; have hn6 := HT1.out.grow hg6; have z0 := hn6.cell 0; have z1 := hn6.cell 1; have z2 := hn6.cell 2; simp only [List.getElem?_cons_zero, List.getElem?_cons_succ] at r0 b0 b1 b2 z0 z1 z2; clear hg6 hr6 hb6 hn6)
            | (go_at_call 16; (with_reducible refine (t_same (HPA2.out.grow HG6.out) (HPT.out.grow HG6.out) (b := true) ⟨fun _ => HSAME.out, fun _ => rfl⟩).mono ?_); rintro e w9 ⟨rfl, hg9⟩; have HG9 := Lib.hid hg9; have hr9 := (HT2.out.grow HG6.out).grow hg9; have r1 := hr9.cell 1; have r2 := hr9.cell 2; have r3 := hr9.cell 3; simp only [List.getElem?_cons_zero, List.getElem?_cons_succ] at r1 r2 r3; clear hg9 hr9)
            | (go_at_call 10; (with_reducible refine (told_any _).mono ?_); rintro e w7 ⟨rfl, hge⟩; have HGE := Lib.hid hge; have hbb := ((HT1.out.grow HG6.out).grow HG9.out).grow hge; have q0 := hbb.cell 0; have q1 := hbb.cell 1; have q2 := hbb.cell 2; simp only [List.getElem?_cons_zero, List.getElem?_cons_succ] at q0 q1 q2; clear hge hbb)
            | (go_at_call 15; (with_reducible refine (t_may (((HPT.out.grow HG6.out).grow HG9.out).grow HGE.out)).mono ?_); rintro e w8 ⟨rfl, hg8⟩; have HG8 := Lib.hid hg8; clear hg8))
          go_ret
          exact ⟨rfl, Grow.below ((((HGALL.out.trans HG6.out).trans HG9.out).trans HGE.out).trans HG8.out)⟩

set_option maxRecDepth 100000 in
theorem lifted (os : Os) (started : os.Started) (H : Type) (enc : TypeId × Value → H) :
    ReturnsInHanded {} Try.checked os 7 .any (Rows.modelErrorsSpec.pre6 enc Try.prog Try.f7 Rows.modelErrorsRow.domain false) (Rows.modelErrorsSpec.post enc Try.prog Try.f7 false true false false) := by
  refine returnsInHanded_of_change (C := Try.checked) own started (by kernel_rfl) Try.func7
    (ChangeSpec.witness6 (enc := enc) (C := Try.checked) false ⟨#[], #[.slice none 0 0, .agg #[.int .i64 0, .int .i64 0, .int .i64 0, .int .i64 0, .int .i64 0, .int .i64 0, .slice none 0 0]], []⟩ 8 (by kernel_rfl) (by kernel_rfl) (by kernel_rfl) (by kernel_rfl)) ?_
  intro W base args ds gs before hval0 hW hcnd _
  have hval : ∀ (j : Nat) t v, Try.f7.params[j]? = some t → args[j]? = some v → Value.okWide Try.prog W .any base t v := hval0
  have hW' := hW
  obtain ⟨p, q, hA0, hV, rfl, hfz, hnd⟩ := hW
  have hA : DataW.TrodAll enc Try.prog W 0 (fun _ => true) true Try.f7.params.toList args.toList ds p := hA0
  rw [Try.params7] at hA hval
  obtain ⟨v0, vs0, d0, ds0, p0, q0, hargs, rfl, rfl, h0, r0⟩ := trodAll_cons hA
  obtain ⟨v1, vs1, d1, ds1, p1, q1, rfl, rfl, rfl, h1, r1⟩ := trodAll_cons r0
  obtain ⟨rfl, rfl, rfl⟩ := trodAll_nil r1
  obtain rfl : args = #[v0, v1] := by cases args; simp_all
  obtain ⟨rfl, rfl⟩ := trodVars_none hV
  obtain ⟨a0, len0, cap0, rfl⟩ := okWide_slice Try.underlying51 (hval 0 51 v0 rfl rfl)
  have k0 := h0
  have lt0 : ∀ x ∈ p0, x.block < W.heap.size := by obtain ⟨m, hm⟩ := k0; exact DataW.trod_lt m _ _ _ hm
  have w0 : CallsAt W a0 len0 cap0 := by obtain ⟨fuel, hf⟩ := h0; exact calls_open hf
  obtain ⟨cs1, rfl, hcs1⟩ := okWide_struct Try.underlying54 (hval 1 54 v1 rfl rfl)
  have k1 := h1
  have lt1 : ∀ x ∈ p1, x.block < W.heap.size := by obtain ⟨m, hm⟩ := k1; exact DataW.trod_lt m _ _ _ hm
  have w1 : CallArg W (.agg cs1) := by
    obtain ⟨fuel, hf⟩ := h1
    have e : Try.prog.cellsOf 54 = 7 := by kernel_rfl
    exact call_open (cs := cs1.toList) (by rw [Array.length_toList, hcs1, e]) hf
  clear hA0 hval0
  refine (walk a0 len0 cap0 (.agg cs1) W w0 w1).mono fun e W' ⟨he, bel⟩ => ?_
  subst he
  exact ⟨_, rfl, _, _, _, [], _, [], hW', trodAll_mk1 (shut_bool Try.underlying4 _), (trodAll_cons_mk (Below.trod laidOut (by kernel_rfl) (of_decide_eq_true (by kernel_rfl)) k0 bel lt0) (trodAll_cons_mk (Below.trod laidOut (by kernel_rfl) (of_decide_eq_true (by kernel_rfl)) k1 bel lt1) trodAll_mk0)), rfl, bel.frame _, fun h => by cases h⟩

theorem over : Rows.modelErrorsRow.holds Try.pinned (OpenSpec.ofChange Rows.modelErrorsSpec) :=
  OpenClaim.holds_of_wide 7 Try.f7 rfl rfl rfl rfl rfl rfl rfl ⟨rfl, rfl, rfl, rfl, rfl⟩ rfl rfl rfl rfl rfl (by kernel_rfl) Try.func7 (by kernel_rfl)
    (of_decide_eq_true (by kernel_rfl)) (by unfold Func.isWrapper; first | (rw [if_pos (by decide +kernel)]; kernel_rfl) | (rw [if_neg (by decide +kernel)]; exact ⟨rfl, rfl⟩))
    (fun os started H enc _ => lifted os started H enc)

/-- ████ THE STATEMENT ████ -/
theorem proved : Rows.ModelErrorsSaid := over
#print axioms proved
end Go.Proofs.Yteiodnclpbjbbaa.modelErrors
