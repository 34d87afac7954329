/-
  The statement RefCrash, walked.
-/
import Derived.Test.YtbnkpnllgoghnaaGreatQa
import Derived.Test.YtbnkpnllgoghnaaGreatQb
import Derived.Test.YtbnkpnllgoghnaaGreatQc
import Derived.Test.YtbnkpnllgoghnaaGreatQd
import Derived.Test.YtbnkpnllgoghnaaGreatQe
import Derived.Test.YtbnkpnllgoghnaaGreatQf
import Derived.Test.YtbnkpnllgoghnaaGreatQg
import Derived.Test.YtbnkpnllgoghnaaGreatQh
import Derived.Test.YtbnkpnllgoghnaaGreatQi
import Derived.Test.YtbnkpnllgoghnaaGreatQj
import Derived.Test.YtbnkpnllgoghnaaGreatQk
import Derived.Test.YtbnkpnllgoghnaaGreatQl
import Derived.Test.YtbnkpnllgoghnaaGreatQm
namespace Go.Proofs.YtbnkpnllgoghnaaGreat.LwCrash
open Go.ChangeShapes Go.WideShapes Go.ChangeAt Go.RowKit
open Go.Proofs.YtbnkpnllgoghnaaGreat.Mem Go.Proofs.YtbnkpnllgoghnaaGreat.Blk Go.Proofs.YtbnkpnllgoghnaaGreat.Cells Go.Proofs.YtbnkpnllgoghnaaGreat.Orow Go.Proofs.YtbnkpnllgoghnaaGreat.Calls13 Go.Proofs.YtbnkpnllgoghnaaGreat.MdNear Go.Proofs.YtbnkpnllgoghnaaGreat.RfP Go.Proofs.YtbnkpnllgoghnaaGreat.RgS Go.Proofs.YtbnkpnllgoghnaaGreat.RgV Go.Proofs.YtbnkpnllgoghnaaGreat.RgQ Go.Proofs.YtbnkpnllgoghnaaGreat.RgN Go.Proofs.YtbnkpnllgoghnaaGreat.RgMd Go.Proofs.YtbnkpnllgoghnaaGreat.Told16 Go.Proofs.YtbnkpnllgoghnaaGreat.Stages
open Go.Proofs.YtbnkpnllgoghnaaGreat.MdM (Md MdOp Re)
open Go.Proofs.YtbnkpnllgoghnaaGreat.ArM (Ar Fr)
open Go.Proofs.YtbnkpnllgoghnaaGreat.ArC (FR)
open Go.Proofs.YtbnkpnllgoghnaaGreat.RfM (Pl)
theorem splice_zero (d : List Int) : MdM.splice MdM.zeros 0 d = d ++ MdM.zeros.drop d.length := by
  unfold MdM.splice
  rw [List.take_zero, List.nil_append, Nat.zero_add]
/-- What the first calls of this statement come to. -/
structure CRun (d z : List Int) (p1 p2 p3 p4 : Pl) : Prop where
  r1 : ((RfM.fresh 5 3 2).run 0 ⟨1, 0, 0, 0, 0, []⟩).1 = ⟨0, 0, 0, []⟩
  s1 : ((RfM.fresh 5 3 2).run 0 ⟨1, 0, 0, 0, 0, []⟩).2 = p1
  r2 : (p1.run 0 ⟨4, 0, 0, 0, 0, d⟩).1 = ⟨0, 0, 0, []⟩
  s2 : (p1.run 0 ⟨4, 0, 0, 0, 0, d⟩).2 = p2
  r3 : (p2.run 0 ⟨5, 0, 0, 0, 0, []⟩).1 = ⟨0, 0, 0, []⟩
  s3 : (p2.run 0 ⟨5, 0, 0, 0, 0, []⟩).2 = p3
  r4 : (p3.run 0 ⟨6, 0, 0, 0, 0, []⟩).1 = ⟨0, 0, 0, []⟩
  s4 : (p3.run 0 ⟨6, 0, 0, 0, 0, []⟩).2 = p4
  f : RfS.Safe p4 0 z
  t : p4.X.T 0 = true
  n : PN 2 p4
  oc : PageM.openC 0 z = 0
  ob : PageM.openB 0 z = d ++ MdM.zeros.drop d.length
theorem crash_run {d : List Int} (hb : MdM.Bytes d) (h16 : d.length ≤ 16) : ∃ z p1 p2 p3 p4, CRun d z p1 p2 p3 p4 := by
  have hb0 : MdM.Bytes [] := fun _ h => by cases h
  obtain ⟨e1, i1, x1, n1, b1⟩ := RfE.first (n := 5) (N := 3) (k := 2) (o := ⟨1, 0, 0, 0, 0, []⟩) (by decide) (by decide) (by decide) (by decide) (by decide) (by decide) rfl rfl
  generalize hp1 : ((RfM.fresh 5 3 2).run 0 ⟨1, 0, 0, 0, 0, []⟩).2 = p1 at *
  have hN1 : 0 < p1.X.N := by rw [x1]; exact (by decide : 0 < 3)
  have hH1 : p1.X.H 0 0 = ((0 : Nat) : Int) := by rw [x1]; rfl
  obtain ⟨e2, i2, x2, n2, b2⟩ := RfE.plain (o := ⟨4, 0, 0, 0, 0, d⟩) i1 b1 hb 0 (.inl ⟨show (4 : Int) ≠ 1 by decide, show (4 : Int) ≠ 2 by decide⟩)
  have m2 := RfE.model_write (o := ⟨4, 0, 0, 0, 0, d⟩) hN1 hH1 rfl rfl rfl h16
  generalize hp2 : (p1.run 0 ⟨4, 0, 0, 0, 0, d⟩).2 = p2 at *
  have y2 : p2.X = p1.X.putB 0 (MdM.splice (p1.X.B 0) 0 d) := by rw [x2, m2]
  have hN2 : 0 < p2.X.N := by rw [y2]; exact hN1
  have hH2 : p2.X.H 0 0 = ((0 : Nat) : Int) := by rw [y2]; exact hH1
  have hB2 : p2.X.B 0 = d ++ MdM.zeros.drop d.length := by
    rw [y2]
    show MdM.upd p1.X.B 0 _ 0 = _
    rw [MdM.upd_same, x1]
    exact splice_zero d
  obtain ⟨e3, i3, x3, n3, b3⟩ := RfE.plain (o := ⟨5, 0, 0, 0, 0, []⟩) i2 b2 hb0 0 (.inl ⟨show (5 : Int) ≠ 1 by decide, show (5 : Int) ≠ 2 by decide⟩)
  have m3 := RfE.model_unpin (o := ⟨5, 0, 0, 0, 0, []⟩) hN2 hH2 rfl rfl
  generalize hp3 : (p2.run 0 ⟨5, 0, 0, 0, 0, []⟩).2 = p3 at *
  have y3 : p3.X = p2.X.putH 0 0 (-1) := by rw [x3, m3]
  have hn3 : p3.X.n = 5 := by rw [y3, y2, x1]; rfl
  have hN3 : p3.X.N = 3 := by rw [y3, y2, x1]; rfl
  have hT3 : p3.X.T 0 = true := by rw [y3, y2, x1]; rfl
  obtain ⟨e4, i4, x4, n4, b4, z, f4, oc, ob⟩ := RfS.flush_safe (q := 0) (o := ⟨6, 0, 0, 0, 0, []⟩) (c := 0) i3 b3 rfl rfl (by rw [hn3]; decide) hT3 (by rw [hN3]; exact ⟨by decide, by decide⟩)
  generalize hp4 : (p3.run 0 ⟨6, 0, 0, 0, 0, []⟩).2 = p4 at *
  have hB3 : p3.X.B 0 = p2.X.B 0 := by rw [y3]; rfl
  exact ⟨z, p1, p2, p3, p4, e1, hp1, by rw [e2, m2]; rfl, hp2, by rw [e3, m3]; rfl, hp3, e4, hp4, f4, by rw [x4]; exact hT3, ⟨by rw [x4]; exact hn3, by rw [x4]; exact hN3, by rw [n4, n3, n2, n1], b4⟩, oc, by rw [← hB2, ← hB3]; exact ob⟩
/-- An answer of code 0 in a box of the caller's. -/
def RB (w : World) (c : Nat → Nat) (g : Nat) : Prop := ∃ x y z, Blk w g 27 [.int .i64 0, x, y, z] ∧ Out c g
/-- Page 0 is as it was flushed; both answers were of code 0. -/
structure CI (w : World) (ν : Nm) (z : List Int) (gw gf : Nat) (p : Pl) (k : Nat) (c : Nat → Nat) (wx : World) : Prop where
  s : Std w wx c ν p k
  f : RfS.Safe p 0 z
  t : p.X.T 0 = true
  n : PN 2 p
  b1 : RB wx c gw
  b2 : RB wx c gf
section
variable {w wx w' : World} {ν : Nm} {z : List Int} {gw gf g k k' : Nat} {p p' : Pl} {c c' : Nat → Nat} {F : Nat → Prop}
theorem RB.went (h : RB wx c g) (hw : Went wx c w' c') : RB w' c' g := by
  obtain ⟨x, y, z, h1, h2⟩ := h
  obtain ⟨h3, h4⟩ := RgB.Went.blk hw h1 h2
  exact ⟨x, y, z, h3, h4⟩
theorem RB.put (h : RB wx c g) (hk : Kept F wx w') (hF : ¬ F g) : RB w' c g := by
  obtain ⟨x, y, z, h1, h2⟩ := h
  exact ⟨x, y, z, h1.kept hk hF, h2⟩
theorem CI.grow (h : CI w ν z gw gf p k c wx) (hk : Grow wx w') : CI w ν z gw gf p k (paint wx.heap.size 0 c) w' := ⟨h.s.grow hk, h.f, h.t, h.n, h.b1.went (Went.grow hk), h.b2.went (Went.grow hk)⟩
theorem CI.put (h : CI w ν z gw gf p k c wx) (hk : Kept (· = g) wx w') (hg : w.heap.size ≤ g) (ho : Out c g) (h1 : gw < g) (h2 : gf < g) : CI w ν z gw gf p k c w' :=
  ⟨h.s.put hk fun i _ e => by rw [e]; exact ⟨hg, ho⟩, h.f, h.t, h.n, h.b1.put hk (by omega), h.b2.put hk (by omega)⟩
/-- A call that leaves the page alone. -/
theorem CI.run {o : MdOp} {x : Int} (h : CI w ν z gw gf p k c wx) (hd : MdM.Bytes o.d) (h4 : o.k ≠ 4) (ho : ¬ (o.k = 8 ∧ o.p = ((0 : Nat) : Int))) (hw : Went wx c w' c') (hp : RgQ.PAt w' c' ν (p.run x o).2 k') : CI w ν z gw gf (p.run x o).2 k' c' w' := by
  obtain ⟨e1, _, e3, e4, e5, e6, e7⟩ := RfE.safe_calm (q := 0) h.f h.s.x.i h.n.bad h.t hd h4 ho x
  exact ⟨h.s.went hw hp, e1, e4, ⟨e5.trans h.n.xn, e6.trans h.n.xN, e7.trans h.n.an, e3⟩, h.b1.went hw, h.b2.went hw⟩
end
def PLoop (w : World) (ν : Nm) (z : List Int) (gw gf M g : Nat) (i : Value) (wx : World) : Prop := ∃ (j : Nat) (p : Pl) (c : Nat → Nat), j + g = M ∧ i = .int .i64 (j : Int) ∧ CI w ν z gw gf p (1000 + 50 * j) c wx
section
variable {w : World} {A A1 A2 : Option Addr} {len cap len1 cap1 len2 cap2 : Nat}
set_option maxRecDepth 100000 in
set_option maxHeartbeats 8000000 in
theorem crash_any (h0 : BytesAt w A1 len1 cap1) (h : CallsAt w A len cap) (h2 : BytesAt w A2 len2 cap2) : Calls Tryz.prog 8 #[.slice A1 len1 cap1, .slice A len cap, .slice A2 len2 cap2] w fun e w' => e = .returned (.bool true) ∧ Below w.heap.size w w' := by
  have HFI := Lib.hid (fine_q 20 h)
  obtain ⟨hlc, hcm, hops⟩ := h
  unfold maxLen at hcm
  have HOPS := Lib.hid hops
  obtain ⟨d, hsd, hbd, hd1, hd2⟩ := h0
  obtain ⟨bs, hsb, hbb, hb1, hb2⟩ := h2
  have HSD0 := Lib.hid hsd
  have HBD := Lib.hid hbd
  have HSB := Lib.hid hsb
  have HBB := Lib.hid hbb
  have HB2 : Hid (len2 ≤ maxLen) := Nat.le_trans hb1 hb2
  have HD2 : Hid (len1 ≤ cap1 ∧ cap1 ≤ maxLen) := ⟨hd1, hd2⟩
  have HNEW := Lib.hid (pnew 5 3 2 (by decide) (by decide) (by decide) (by decide) (by omega) (by omega) w)
  simp only [Int.cast_ofNat_Int] at HNEW
  clear hops hsd hbd hsb hbb hb1 hb2 hd1 hd2
  go_enter Tryz.func8, Tryz.ntmps8
  by_cases h16 : 16 < len1
  · have h16z : (16 : Int) < (len1 : Int) := by omega
    clear h16
    go_upto_if 29 with (go_at_call 18; (with_reducible refine HFI.out.mono ?_); rintro e w' ⟨rfl, b, rfl, hb⟩; clear hb; cases b)
    all_goals
      go_wp2_with (go_at_call 11; (with_reducible refine (told_any _).mono ?_); rintro e wt ⟨rfl, hge⟩; have HGE := Lib.hid hge; clear hge)
      go_ret
      exact ⟨rfl, Grow.below HGE.out⟩
  by_cases h10 : 10 < len2
  · have h16z : ¬ (16 : Int) < (len1 : Int) := by omega
    have h10z : (10 : Int) < (len2 : Int) := by omega
    clear h16 h10
    go_upto_if 29 with (go_at_call 18; (with_reducible refine HFI.out.mono ?_); rintro e w' ⟨rfl, b, rfl, hb⟩; clear hb; cases b)
    all_goals
      go_wp2_with (go_at_call 11; (with_reducible refine (told_any _).mono ?_); rintro e wt ⟨rfl, hge⟩; have HGE := Lib.hid hge; clear hge)
      go_ret
      exact ⟨rfl, Grow.below HGE.out⟩
  have h16z : ¬ (16 : Int) < (len1 : Int) := by omega
  have h10z : ¬ (10 : Int) < (len2 : Int) := by omega
  have HL16 : Hid (len1 ≤ 16) := by show len1 ≤ 16; omega
  clear h16 h10
  go_upto_if 29 with (go_at_call 18; (with_reducible refine HFI.out.mono ?_); rintro e w' ⟨rfl, b, rfl, hb⟩; have HB := Lib.hid hb; clear hb; cases b)
  · go_wp2_with (go_at_call 11; (with_reducible refine (told_any _).mono ?_); rintro e wt ⟨rfl, hge⟩; have HGE := Lib.hid hge; clear hge)
    go_ret
    exact ⟨rfl, Grow.below HGE.out⟩
  have hl20 : (len : Int) ≤ 20 := (HB.out trivial).1
  clear HB HFI
  go_upto_region 4 with (go_at_call 12; (with_reducible refine HNEW.out.mono ?_); rintro e u0 ⟨ν, c0, rfl, hp, hg, hz⟩; have HS0 := Lib.hid (new_std hp hg hz); clear hp hg hz)
  have HDK := Lib.hid (disk_any HS0.out.x.m)
  obtain ⟨z, p1, p2, p3, p4, R⟩ := crash_run HBD.out (by rw [HSD0.out.len]; exact HL16.out)
  have HR := Lib.hid R
  clear R
  go_upto_region 6 with (go_at_call 17; (with_reducible refine HDK.out.mono ?_); rintro e w1 ⟨rfl, rfl⟩)
  have HDO := Lib.hid (pdo0 (p' := p1) HS0.out.x (by decide) (by decide) HR.out.r1 HR.out.s1)
  go_upto_region 7 with (go_at_call 13; (with_reducible refine HDO.out.mono ?_); rintro e w1 ⟨B1, n1, k1, c1, rfl, _, _, _, hw, hp⟩; have HS1 := Lib.hid (HS0.out.went hw hp); have HW1 := Lib.hid hw; clear hw hp)
  clear HDO HDK
  have HDO := Lib.hid (pdo_is (dc := cap1) (p' := p2) HS1.out.x ((Sl.kept HSD0.out HS1.out.g (Nat.le_refl _) fun _ _ e => e : Sl w1 w.heap.size .u8 A1 len1 d).more HS1.out.g.size) (by have := HL16.out; omega) (by decide) HBD.out (by decide) HR.out.r2 HR.out.s2)
  go_upto_region 8 with (go_at_call 13; (with_reducible refine HDO.out.mono ?_); rintro e w2 ⟨B2, n2, k2, c2, rfl, _, _, _, hw, hp⟩; have HS2 := Lib.hid (HS1.out.went hw hp); have HW2 := Lib.hid hw; clear hw hp)
  clear HDO
  have hgb : Grow w2 (w2.alloc (.cells #[.int .i64 0, .int .i64 0, .int .i64 0, .slice B2 n2 k2] 27)) := (Kept.refl _ _).alloc _
  have HRW : Hid (RB (w2.alloc (.cells #[.int .i64 0, .int .i64 0, .int .i64 0, .slice B2 n2 k2] 27)) (paint w2.heap.size 0 c2) w2.heap.size) := ⟨_, _, _, Blk.new w2 27 [.int .i64 0, .int .i64 0, .int .i64 0, .slice B2 n2 k2], out_new (c := 0) (Nat.le_refl _)⟩
  have HS2b := Lib.hid (HS2.out.grow hgb)
  generalize paint w2.heap.size 0 c2 = c2b at HRW HS2b
  generalize w2.alloc (.cells #[.int .i64 0, .int .i64 0, .int .i64 0, .slice B2 n2 k2] 27) = w2b at *
  generalize w2.heap.size = gw at HRW ⊢
  clear hgb HS2 HW2 HS1 HW1 HS0
  have HDO := Lib.hid (pdo0 (p' := p3) HS2b.out.x (by decide) (by decide) HR.out.r3 HR.out.s3)
  go_upto_region 9 with (go_at_call 13; (with_reducible refine HDO.out.mono ?_); rintro e w3 ⟨B3, n3, k3, c3, rfl, _, _, _, hw, hp⟩; have HS3 := Lib.hid (HS2b.out.went hw hp); have HW3 := Lib.hid hw; clear hw hp)
  clear HDO
  have HRW3 := Lib.hid (HRW.out.went HW3.out)
  have HDO := Lib.hid (pdo0 (p' := p4) HS3.out.x (by decide) (by decide) HR.out.r4 HR.out.s4)
  go_upto_region 10 with (go_at_call 13; (with_reducible refine HDO.out.mono ?_); rintro e w4 ⟨B4, n4, k4, c4, rfl, _, _, _, hw, hp⟩; have HS4 := Lib.hid (HS3.out.went hw hp); have HW4 := Lib.hid hw; clear hw hp)
  clear HDO
  have HRW4 := Lib.hid (HRW3.out.went HW4.out)
  have hgb : Grow w4 (w4.alloc (.cells #[.int .i64 0, .int .i64 0, .int .i64 0, .slice B4 n4 k4] 27)) := (Kept.refl _ _).alloc _
  have HCI : Hid (CI w ν z gw w4.heap.size p4 1000 (paint w4.heap.size 0 c4) (w4.alloc (.cells #[.int .i64 0, .int .i64 0, .int .i64 0, .slice B4 n4 k4] 27))) := by
    have h := HS4.out.grow hgb
    exact ⟨⟨h.x.up (by omega), h.g, h.z⟩, HR.out.f, HR.out.t, HR.out.n, HRW4.out.went (Went.grow hgb), ⟨_, _, _, Blk.new w4 27 [.int .i64 0, .int .i64 0, .int .i64 0, .slice B4 n4 k4], out_new (c := 0) (Nat.le_refl _)⟩⟩
  generalize paint w4.heap.size 0 c4 = c5 at HCI
  generalize w4.alloc (.cells #[.int .i64 0, .int .i64 0, .int .i64 0, .slice B4 n4 k4] 27) = w5 at *
  generalize w4.heap.size = gf at HCI ⊢
  clear hgb HS4 HW4 HS3 HW3 HRW HRW3 HRW4 HS2b
  go_wp2
  go_loopg [10] len (PLoop w ν z gw gf len)
  case atStart => exact ⟨0, _, _, by omega, rfl, HCI.out⟩
  case round =>
    clear HCI
    obtain ⟨j, p, c, hg, rfl, hi⟩ := hrel
    have HG := Lib.hid hg
    have HI := Lib.hid hi
    clear hg hi
    by_cases hj : j < len
    · have hjz : (j : Int) < (len : Int) := by omega
      have HJ := Lib.hid hj
      obtain ⟨ab, ao, rfl, hab, hall⟩ := HOPS.out (by omega)
      obtain ⟨x, hx⟩ := hall j hj
      have HX := Lib.hid hx
      have HAB := Lib.hid hab
      have cc := HI.out.s.g.cellN hx.c id
      have ck := HI.out.s.g.cellN hx.k id
      have cp := HI.out.s.g.cellN hx.p id
      have ch := HI.out.s.g.cellN hx.h id
      have co := HI.out.s.g.cellN hx.o id
      have cn := HI.out.s.g.cellN hx.n id
      have cd := HI.out.s.g.cellN hx.d id
      have HNEAR : Hid (∀ wx, Calls Tryz.prog 21 #[.agg #[.int .i64 x.c, .int .i64 x.k, .int .i64 x.p, .int .i64 x.h, .int .i64 x.o, .int .i64 x.n, .slice x.A x.len x.cap], .int .i64 5, .int .i64 3] wx (NearP 5 3 x.A x.len x.cap wx)) := fun wx => near_any x.c x.k x.p x.h x.o x.n x.A x.len x.cap 5 3 (by omega) (by omega) (by omega) (by omega) (by obtain ⟨d, _, _, h, _⟩ := hx.da; exact h) wx
      clear hall hx hj hab
      go_upto_region 14 with (go_at_call 21; (with_reducible refine (HNEAR.out _).mono ?_); rintro e wn ⟨c', k', p', h', o', n', l', rfl, hr1, hr2, hr3, hr4, hr5, hr6, hr7, hl, hg⟩; have HNR := Lib.hid (And.intro hr6 hl); have HGN := Lib.hid hg; clear hg hr1 hr2 hr3 hr4 hr5 hr6 hr7 hl)
      clear cc ck cp ch co cn cd HNEAR
      obtain ⟨d', hd, hdb, hl1, hl2⟩ := bytes_take (l := l') HX.out.da (by have := HNR.out.2; omega) ((HI.out.s.g.trans HGN.out).trans ((Kept.refl _ wn).alloc (.cells #[.int .i64 (c' : Int), .int .i64 (k' : Int), .int .i64 (p' : Int), .int .i64 (h' : Int), .int .i64 (o' : Int), .int .i64 (n' : Int), .slice x.A l' x.cap] 57))) (fun _ _ h => h)
      have HDD := Lib.hid hd
      have HDB := Lib.hid hdb
      have HDL : Hid (l' ≤ x.cap ∧ x.cap ≤ maxLen ∧ l' ≤ 8) := ⟨hl1, hl2, by have := HNR.out.2; omega⟩
      have HO8 : Hid ((o' : Int) ≤ 9223372036854775807) := by have := HNR.out.1; show (o' : Int) ≤ _; omega
      have hcb := Blk.new wn 57 [.int .i64 (c' : Int), .int .i64 (k' : Int), .int .i64 (p' : Int), .int .i64 (h' : Int), .int .i64 (o' : Int), .int .i64 (n' : Int), .slice x.A l' x.cap]
      have HGC : Hid (Grow wr (wn.alloc (.cells #[.int .i64 (c' : Int), .int .i64 (k' : Int), .int .i64 (p' : Int), .int .i64 (h' : Int), .int .i64 (o' : Int), .int .i64 (n' : Int), .slice x.A l' x.cap] 57))) := HGN.out.trans ((Kept.refl _ _).alloc _)
      have HI2 : Hid (CI w ν z gw gf p (1000 + 50 * j) (paint wr.heap.size 0 c) (wn.alloc (.cells #[.int .i64 (c' : Int), .int .i64 (k' : Int), .int .i64 (p' : Int), .int .i64 (h' : Int), .int .i64 (o' : Int), .int .i64 (n' : Int), .slice x.A l' x.cap] 57))) := HI.out.grow HGC.out
      have HOG : Hid (Out (paint wr.heap.size 0 c) wn.heap.size) := out_new (c := 0) HGN.out.size
      have HMG : Hid (gw < wn.heap.size ∧ gf < wn.heap.size ∧ w.heap.size ≤ wn.heap.size) := by
        obtain ⟨_, _, _, h, _⟩ := HI.out.b1
        obtain ⟨_, _, _, h', _⟩ := HI.out.b2
        exact ⟨Nat.lt_of_lt_of_le h.lt HGN.out.size, Nat.lt_of_lt_of_le h'.lt HGN.out.size, Nat.le_trans HI.out.s.g.size HGN.out.size⟩
      generalize paint wr.heap.size 0 c = c2 at HI2 HOG
      generalize wn.alloc (.cells #[.int .i64 (c' : Int), .int .i64 (k' : Int), .int .i64 (p' : Int), .int .i64 (h' : Int), .int .i64 (o' : Int), .int .i64 (n' : Int), .slice x.A l' x.cap] 57) = wk at HDD hcb HI2 ⊢
      generalize wn.heap.size = g at hcb HOG HMG ⊢
      have HCB := Lib.hid hcb
      clear hd hdb hl1 hl2 HNR HGN HGC hcb HI HX HAB
      have y1 := HCB.out.cell 1
      have y2 := HCB.out.cell 2
      have yf := HCB.out.frozen
      simp only [List.getElem?_cons_zero, List.getElem?_cons_succ] at y1 y2
      have hcase : ((k' : Int) = 4 ∨ ((k' : Int) = 8 ∧ (p' : Int) = 0)) ∨ ((k' : Int) ≠ 4 ∧ ((k' : Int) ≠ 8 ∨ ((k' : Int) = 8 ∧ (p' : Int) ≠ 0))) := by omega
      rcases hcase with hk | ⟨hk4, hk⟩
      · have HK4 : Hid ((5 : Int) ≠ 4 ∧ ¬ ((5 : Int) = 8 ∧ (p' : Int) = ((0 : Nat) : Int))) := ⟨by decide, fun h => absurd h.1 (by decide)⟩
        have hset : Blk (wk.setCell ⟨g, 1, none⟩ (.int .i64 5)) g 57 [.int .i64 (c' : Int), .int .i64 5, .int .i64 (p' : Int), .int .i64 (h' : Int), .int .i64 (o' : Int), .int .i64 (n' : Int), .slice x.A l' x.cap] := Blk.set HCB.out 1 (.int .i64 5)
        have hput := HI2.out.put (kept_set wk g 1 (.int .i64 5)) HMG.out.2.2 HOG.out HMG.out.1 HMG.out.2.1
        have hsd : Sl (wk.setCell ⟨g, 1, none⟩ (.int .i64 5)) w.heap.size .u8 x.A l' d' := Sl.kept HDD.out (kept_set wk g 1 (.int .i64 5)) HI2.out.s.g.size fun i hi e => by have e : i = g := e; have := HMG.out.2.2; omega
        have HCB3 := Lib.hid hset
        have HI3 := Lib.hid hput
        have HD3 := Lib.hid hsd
        clear hset hput hsd
        rcases hk with hk | ⟨hk, hp⟩
        · have bk : ((k' : Int) == 4) = true := by simpa using hk
          clear hk
          go_upto_region 16 with (fail)
          clear y1 y2 yf bk
          generalize wk.setCell ⟨g, 1, none⟩ (.int .i64 5) = wj at HCB3 HI3 HD3 ⊢
          have HDO := Lib.hid (pdo (dc := x.cap) (o := ⟨5, p', h', o', n', d'⟩) HI3.out.s.x c' (HD3.out.more HI3.out.s.g.size) (by have := HDL.out.2.2; omega) HO8.out HDB.out (by omega))
          have y0 := HCB3.out.cell 0
          have y1 := HCB3.out.cell 1
          have y2 := HCB3.out.cell 2
          have y3 := HCB3.out.cell 3
          have y4 := HCB3.out.cell 4
          have y5 := HCB3.out.cell 5
          have y6 := HCB3.out.cell 6
          simp only [List.getElem?_cons_zero, List.getElem?_cons_succ] at y0 y1 y2 y3 y4 y5 y6
          go_wp2_with (go_at_call 13; (with_reducible refine HDO.out.mono ?_); rintro e w4 ⟨B4, n4, k4, c4, rfl, _, _, _, hw, hp⟩; have HW4 := Lib.hid hw; have HP4 := Lib.hid hp; clear hw hp)
          go_roundg (gk - 1)
          case measure => have := HG.out; have := HJ.out; omega
          case rel => exact ⟨j + 1, _, c4, by have := HG.out; have := HJ.out; omega, by go_num, CI.run (o := ⟨5, p', h', o', n', d'⟩) (x := c') HI3.out HDB.out HK4.out.1 HK4.out.2 HW4.out (by have h := HP4.out; rw [show 1000 + 50 * j + 50 = 1000 + 50 * (j + 1) by omega] at h; exact h)⟩

        · have bk4 : ((k' : Int) == 4) = false := by rw [beq_eq_false_iff_ne]; omega
          have bk : ((k' : Int) == 8) = true := by simpa using hk
          have bp : ((p' : Int) == 0) = true := by simpa using hp
          clear hk hp
          go_upto_region 16 with (fail)
          clear y1 y2 yf bk bk4 bp
          generalize wk.setCell ⟨g, 1, none⟩ (.int .i64 5) = wj at HCB3 HI3 HD3 ⊢
          have HDO := Lib.hid (pdo (dc := x.cap) (o := ⟨5, p', h', o', n', d'⟩) HI3.out.s.x c' (HD3.out.more HI3.out.s.g.size) (by have := HDL.out.2.2; omega) HO8.out HDB.out (by omega))
          have y0 := HCB3.out.cell 0
          have y1 := HCB3.out.cell 1
          have y2 := HCB3.out.cell 2
          have y3 := HCB3.out.cell 3
          have y4 := HCB3.out.cell 4
          have y5 := HCB3.out.cell 5
          have y6 := HCB3.out.cell 6
          simp only [List.getElem?_cons_zero, List.getElem?_cons_succ] at y0 y1 y2 y3 y4 y5 y6
          go_wp2_with (go_at_call 13; (with_reducible refine HDO.out.mono ?_); rintro e w4 ⟨B4, n4, k4, c4, rfl, _, _, _, hw, hp⟩; have HW4 := Lib.hid hw; have HP4 := Lib.hid hp; clear hw hp)
          go_roundg (gk - 1)
          case measure => have := HG.out; have := HJ.out; omega
          case rel => exact ⟨j + 1, _, c4, by have := HG.out; have := HJ.out; omega, by go_num, CI.run (o := ⟨5, p', h', o', n', d'⟩) (x := c') HI3.out HDB.out HK4.out.1 HK4.out.2 HW4.out (by have h := HP4.out; rw [show 1000 + 50 * j + 50 = 1000 + 50 * (j + 1) by omega] at h; exact h)⟩

      · have HK4 : Hid ((k' : Int) ≠ 4 ∧ ¬ ((k' : Int) = 8 ∧ (p' : Int) = ((0 : Nat) : Int))) := ⟨hk4, fun h => by omega⟩
        have bk4 : ((k' : Int) == 4) = false := by rw [beq_eq_false_iff_ne]; exact hk4
        clear hk4
        rcases hk with hk | ⟨hk, hp⟩
        · have bk : ((k' : Int) == 8) = false := by rw [beq_eq_false_iff_ne]; exact hk
          clear hk
          go_upto_region 16 with (fail)
          clear y1 y2 yf bk bk4
          have HDO := Lib.hid (pdo (dc := x.cap) (o := ⟨k', p', h', o', n', d'⟩) HI2.out.s.x c' (HDD.out.more HI2.out.s.g.size) (by have := HDL.out.2.2; omega) HO8.out HDB.out (by omega))
          have y0 := HCB.out.cell 0
          have y1 := HCB.out.cell 1
          have y2 := HCB.out.cell 2
          have y3 := HCB.out.cell 3
          have y4 := HCB.out.cell 4
          have y5 := HCB.out.cell 5
          have y6 := HCB.out.cell 6
          simp only [List.getElem?_cons_zero, List.getElem?_cons_succ] at y0 y1 y2 y3 y4 y5 y6
          go_wp2_with (go_at_call 13; (with_reducible refine HDO.out.mono ?_); rintro e w4 ⟨B4, n4, k4, c4, rfl, _, _, _, hw, hp⟩; have HW4 := Lib.hid hw; have HP4 := Lib.hid hp; clear hw hp)
          go_roundg (gk - 1)
          case measure => have := HG.out; have := HJ.out; omega
          case rel => exact ⟨j + 1, _, c4, by have := HG.out; have := HJ.out; omega, by go_num, CI.run (o := ⟨k', p', h', o', n', d'⟩) (x := c') HI2.out HDB.out HK4.out.1 HK4.out.2 HW4.out (by have h := HP4.out; rw [show 1000 + 50 * j + 50 = 1000 + 50 * (j + 1) by omega] at h; exact h)⟩

        · have bk : ((k' : Int) == 8) = true := by simpa using hk
          have bp : ((p' : Int) == 0) = false := by rw [beq_eq_false_iff_ne]; exact hp
          clear hk hp
          go_upto_region 16 with (fail)
          clear y1 y2 yf bk bk4 bp
          have HDO := Lib.hid (pdo (dc := x.cap) (o := ⟨k', p', h', o', n', d'⟩) HI2.out.s.x c' (HDD.out.more HI2.out.s.g.size) (by have := HDL.out.2.2; omega) HO8.out HDB.out (by omega))
          have y0 := HCB.out.cell 0
          have y1 := HCB.out.cell 1
          have y2 := HCB.out.cell 2
          have y3 := HCB.out.cell 3
          have y4 := HCB.out.cell 4
          have y5 := HCB.out.cell 5
          have y6 := HCB.out.cell 6
          simp only [List.getElem?_cons_zero, List.getElem?_cons_succ] at y0 y1 y2 y3 y4 y5 y6
          go_wp2_with (go_at_call 13; (with_reducible refine HDO.out.mono ?_); rintro e w4 ⟨B4, n4, k4, c4, rfl, _, _, _, hw, hp⟩; have HW4 := Lib.hid hw; have HP4 := Lib.hid hp; clear hw hp)
          go_roundg (gk - 1)
          case measure => have := HG.out; have := HJ.out; omega
          case rel => exact ⟨j + 1, _, c4, by have := HG.out; have := HJ.out; omega, by go_num, CI.run (o := ⟨k', p', h', o', n', d'⟩) (x := c') HI2.out HDB.out HK4.out.1 HK4.out.2 HW4.out (by have h := HP4.out; rw [show 1000 + 50 * j + 50 = 1000 + 50 * (j + 1) by omega] at h; exact h)⟩

    · obtain rfl : j = len := by have := HG.out; omega
      clear hj
      have hown : ∀ i, Dev.Own ν.d ν.D ν.W i → w.heap.size ≤ i := fun i e => by
        have h1 := HI.out.s.x.m.four.d.own i e
        rcases Nat.lt_or_ge i w.heap.size with h | h
        · have h2 := HI.out.s.z i h
          omega
        · exact h
      have HOWN := Lib.hid hown
      have HDK := Lib.hid (disk_any HI.out.s.x.m)
      have CC := Lib.hid (DevX.crash_good HI.out.s.x.m.dev A2 len2 cap2 w.heap.size bs HI.out.s.x.i.dn (fun w' hk => Sl.kept (Sl.kept HSB.out HI.out.s.g (Nat.le_refl _) fun _ _ e => e : Sl wr w.heap.size .u8 A2 len2 bs) hk HI.out.s.g.size fun i hi e => by have := HOWN.out i e; omega) HBB.out HB2.out (RgP.Bar.low HI.out.s.x.m.four.d))
      have hN5 : (Dev.crashS p.D bs).N = 5 := by
        have h1 := HI.out.s.x.i.dN
        rw [HI.out.n.xn] at h1
        unfold Dev.crashS
        split <;> exact h1
      have hz0 : (Dev.crashS p.D bs).dur 0 = z := RfS.Still.crash HI.out.f bs
      have HN5 := Lib.hid (And.intro hN5 hz0)
      obtain ⟨x1, y1, z1, hbw, how⟩ := HI.out.b1
      obtain ⟨x2, y2, z2, hbf, hof⟩ := HI.out.b2
      have b0 := hbw.cell 0
      have b0' := hbf.cell 0
      simp only [List.getElem?_cons_zero] at b0 b0'
      clear hown hN5 hz0 hbw how hbf hof
      go_upto_region 20 with (first
        | (go_at_call 17; (with_reducible refine HDK.out.mono ?_); rintro e w1 ⟨rfl, rfl⟩)
        | (go_at_call 32; (with_reducible refine CC.out.mono ?_); rintro e w6 ⟨rfl, hdev, hkp⟩; have HDV := Lib.hid hdev; have HG6 : Hid (Grow w w6) := HI.out.s.g.then hkp (fun i hi e => by have := HOWN.out i e; omega); clear hdev hkp))
      clear b0 b0'
      have hdu := DevY.durable_any HDV.out
      rw [HN5.out.1] at hdu
      have HDU := Lib.hid hdu
      have km := MdC.made16
      clear hdu
      go_upto_region 22 with (go_at_call 29; (with_reducible refine HDU.out.mono ?_); rintro e w7 ⟨gd, cd, fd, rfl, hg, hrow, hfr, hgr⟩; have HRW := Lib.hid hrow; have HFR := Lib.hid (hfr 0 (by decide)); have HG7 := Lib.hid (HG6.out.trans hgr); clear hg hrow hfr hgr)
      have hgm : Grow w7 (w7.alloc (.cells (madeCells #[.int .u8 0] 16) 5)) := (Kept.refl _ _).alloc _
      have hnb := NBlk.made w7 5 .u8 16
      have hsd : Sl (w7.alloc (.cells (madeCells #[.int .u8 0] 16) 5)) w.heap.size .u8 A1 len1 d := Sl.kept HSD0.out (HG7.out.trans hgm) (Nat.le_refl _) fun _ _ e => e
      obtain ⟨w8, hrun, hnb8, hk8⟩ := run_copy (P := Tryz.prog) 22 22 3 5 Tryz.underlying22 PageC.sizeU8 hnb 0 16 16 cap1 hsd len1 (Nat.min_eq_left HL16.out) (by rw [List.length_replicate, Nat.zero_add]; exact HL16.out)
      have hlt7 : gd < w7.heap.size := HRW.out.lt
      have HR8 : Hid (Dev.Row w8 gd 5 fd) := (HRW.out.kept hgm id).kept hk8 (by omega)
      have HF8 : Hid (∃ b cb, fd 0 = .slice (some ⟨b, 0, none⟩) 24 cb ∧ 24 ≤ cb ∧ cb ≤ maxLen ∧ Sl w8 w8.heap.size .u8 (some ⟨b, 0, none⟩) 24 z ∧ MdM.Bytes z) := by
        obtain ⟨b, cb, hf, h1, h2, _, h3, h4, h5⟩ := HFR.out
        rw [HN5.out.2] at h3 h4 h5
        have hb := Dev.Row.lt h3
        exact ⟨b, cb, hf, h1, h2, RgC.nrow_sl (Dev.Row.kept (Dev.Row.kept h3 hgm id) hk8 (by omega)) h4, h5⟩
      have hd8 : (List.replicate 16 (0 : Int)).take 0 ++ (d.take len1 ++ (List.replicate 16 (0 : Int)).drop (0 + len1)) = d ++ MdM.zeros.drop d.length := by
        rw [List.take_zero, List.nil_append, List.take_of_length_le (by rw [HSD0.out.len]; exact Nat.le_refl _), Nat.zero_add, HSD0.out.len]
        rfl
      rw [hd8] at hnb8
      have HNB8 := Lib.hid hnb8
      have HG8 : Hid (Grow w w8) := (HG7.out.trans hgm).then hk8 fun i hi e => by have e : i = w7.heap.size := e; have := HG7.out.size; omega
      have hcp : (Builtin.copy_ #[22, 22] 3 #[.slice (some ⟨w7.heap.size, 0, none⟩) 16 16, .slice A1 len1 cap1]).run Tryz.prog (w7.alloc (.cells (madeCells #[.int .u8 0] 16) 5)) = .ok (.int .i64 (len1 : Int)) w8 := hrun
      generalize w7.heap.size = gz at hcp HNB8 ⊢
      clear hgm hnb hsd hrun hnb8 hk8 hlt7 hd8 km HRW HFR
      go_upto_region 23 with (fail)
      clear hcp
      obtain ⟨b, cb, hf, hc1, hc2, hsz, hbz⟩ := HF8.out
      have r0 := HR8.out.cell (i := 0) (by decide)
      rw [hf] at r0
      have hdz : (d ++ MdM.zeros.drop d.length).length = 16 := by
        have h1 := HL16.out
        have h2 := HSD0.out.len
        rw [List.length_append, List.length_drop, MdM.zeros_len]
        omega
      have HOP := Lib.hid (PageC.open_is (PageC.open_good 0 (some ⟨b, 0, none⟩) cb w8.heap.size z w8 (by decide) (by decide) hbz hsz (Nat.le_refl _) hc1 hc2) HR.out.oc HR.out.ob hdz)
      have HDZ := Lib.hid hdz
      clear hf hc1 hc2 hsz hbz hdz
      go_upto_region 26 with (go_at_call 30; (with_reducible refine HOP.out.mono ?_); rintro e w9 ⟨g2, c9, rfl, hg2, hn2, hgr⟩; have HG9 := Lib.hid hgr; have HN9 := Lib.hid hn2; clear hg2 hn2 hgr)
      clear r0
      have hs9 : Sl w9 w9.heap.size .u8 (some ⟨g2, 8, none⟩) 16 (d ++ MdM.zeros.drop d.length) := by
        have h := Sl.of_blk (B := w9.heap.size) HN9.out 8 16 (by rw [PageM.seal_len, HDZ.out]; omega) HN9.out.lt
        rw [PageM.seal_drop, List.take_of_length_le (by rw [HDZ.out]; omega)] at h
        exact h
      have hs8 : Sl w9 w9.heap.size .u8 (some ⟨gz, 0, none⟩) 16 (d ++ MdM.zeros.drop d.length) := by
        have hb := Blk.grow HNB8.out HG9.out
        have h := Sl.of_blk (B := w9.heap.size) hb 0 16 (by rw [HDZ.out]; omega) hb.lt
        rw [List.drop_zero, List.take_of_length_le (by rw [HDZ.out]; omega)] at h
        exact h
      have CS : Hid (∀ wx, Grow w9 wx → (convert 22 9 (.slice (some ⟨g2, 8, none⟩) 16 c9)).run Tryz.prog wx = .ok (.string (strOfNums (d ++ MdM.zeros.drop d.length))) wx ∧ (convert 22 9 (.slice (some ⟨gz, 0, none⟩) 16 16)).run Tryz.prog wx = .ok (.string (strOfNums (d ++ MdM.zeros.drop d.length))) wx) := fun wx hg => ⟨(Sl.kept hs9 hg (Nat.le_refl _) fun _ _ e => e : Sl wx w9.heap.size .u8 (some ⟨g2, 8, none⟩) 16 (d ++ MdM.zeros.drop d.length)).str (P := Tryz.prog) 22 9 5 Tryz.underlying22 Tryz.underlying5 Tryz.underlying9 c9,
        (Sl.kept hs8 hg (Nat.le_refl _) fun _ _ e => e : Sl wx w9.heap.size .u8 (some ⟨gz, 0, none⟩) 16 (d ++ MdM.zeros.drop d.length)).str (P := Tryz.prog) 22 9 5 Tryz.underlying22 Tryz.underlying5 Tryz.underlying9 16⟩
      generalize strOfNums (d ++ MdM.zeros.drop d.length) = st at CS
      clear hs9 hs8
      go_wp2_with (go_at_call 11; (with_reducible refine (told_any _).mono ?_); rintro e wt ⟨rfl, hge⟩; have HGE := Lib.hid hge; obtain ⟨cs1, cs2⟩ := CS.out wt hge; clear hge)
      go_ret
      exact ⟨rfl, Grow.below ((HG8.out.trans HG9.out).trans HGE.out)⟩
end
end Go.Proofs.YtbnkpnllgoghnaaGreat.LwCrash
