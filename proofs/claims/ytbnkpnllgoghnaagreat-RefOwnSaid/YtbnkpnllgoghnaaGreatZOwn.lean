/-
  The statement RefOwn, walked.
-/
import Derived.Test.YtbnkpnllgoghnaaGreatQa
import Derived.Test.YtbnkpnllgoghnaaGreatQb
import Derived.Test.YtbnkpnllgoghnaaGreatQc
import Derived.Test.YtbnkpnllgoghnaaGreatQd
import Derived.Test.YtbnkpnllgoghnaaGreatQe
import Derived.Test.YtbnkpnllgoghnaaGreatQf
import Derived.Test.YtbnkpnllgoghnaaGreatQg
import Derived.Test.YtbnkpnllgoghnaaGreatQh
import Derived.Test.YtbnkpnllgoghnaaGreatQi
import Derived.Test.YtbnkpnllgoghnaaGreatQj
import Derived.Test.YtbnkpnllgoghnaaGreatQk
import Derived.Test.YtbnkpnllgoghnaaGreatQl
import Derived.Test.YtbnkpnllgoghnaaGreatQm
import Derived.LoopN
namespace Go.Proofs.YtbnkpnllgoghnaaGreat.LwOwn
open Go.ChangeShapes Go.WideShapes Go.ChangeAt Go.RowKit
open Go.Proofs.YtbnkpnllgoghnaaGreat.Mem Go.Proofs.YtbnkpnllgoghnaaGreat.Blk Go.Proofs.YtbnkpnllgoghnaaGreat.Cells Go.Proofs.YtbnkpnllgoghnaaGreat.Orow Go.Proofs.YtbnkpnllgoghnaaGreat.MdM Go.Proofs.YtbnkpnllgoghnaaGreat.RfP Go.Proofs.YtbnkpnllgoghnaaGreat.RgS Go.Proofs.YtbnkpnllgoghnaaGreat.RgV Go.Proofs.YtbnkpnllgoghnaaGreat.RgQ Go.Proofs.YtbnkpnllgoghnaaGreat.RgN Go.Proofs.YtbnkpnllgoghnaaGreat.Calls13 Go.Proofs.YtbnkpnllgoghnaaGreat.Told16 Go.Proofs.YtbnkpnllgoghnaaGreat.Stages Go.Proofs.YtbnkpnllgoghnaaGreat.Trees
open Go.Proofs.YtbnkpnllgoghnaaGreat.RfM (Pl)
open Go.Proofs.YtbnkpnllgoghnaaGreat.ArC (FR)
theorem splice_take (b d : List Int) : (MdM.splice b 0 d).take d.length = d := by
  unfold MdM.splice
  rw [List.take_zero, List.nil_append, List.take_left]
/-- What the calls of this statement come to. -/
structure OwnRun (d : List Int) (m : Nat) (p1 p2 p3 p4 : Pl) : Prop where
  r1 : ((RfM.fresh 2 1 1).run 0 ⟨1, 0, 0, 0, 0, []⟩).1 = ⟨0, 0, 0, []⟩
  s1 : ((RfM.fresh 2 1 1).run 0 ⟨1, 0, 0, 0, 0, []⟩).2 = p1
  r2 : (p1.run 0 ⟨4, 0, 0, 0, 0, d⟩).1 = ⟨0, 0, 0, []⟩
  s2 : (p1.run 0 ⟨4, 0, 0, 0, 0, d⟩).2 = p2
  r3 : (p2.run 0 ⟨3, 0, 0, 0, m, []⟩).1 = ⟨0, 0, 0, d⟩
  s3 : (p2.run 0 ⟨3, 0, 0, 0, m, []⟩).2 = p3
  r4 : (p3.run 0 ⟨3, 0, 0, 0, m, []⟩).1 = ⟨0, 0, 0, d⟩
  s4 : (p3.run 0 ⟨3, 0, 0, 0, m, []⟩).2 = p4
  n : p4.A.n = 1
  f : (p4.A.F 0).pg = 0
  t : thereL p4.X.T p4.X.n = [0]
theorem own_run {d : List Int} {m : Nat} (hb : MdM.Bytes d) (h16 : d.length ≤ 16) (hm : d.length = m) : ∃ p1 p2 p3 p4, OwnRun d m p1 p2 p3 p4 := by
  subst hm
  have hb0 : MdM.Bytes [] := fun _ h => by cases h
  obtain ⟨e1, i1, x1, n1, b1⟩ := RfE.first (n := 2) (N := 1) (k := 1) (o := ⟨1, 0, 0, 0, 0, []⟩) (by decide) (by decide) (by decide) (by decide) (by decide) (by decide) rfl rfl
  generalize hp1 : ((RfM.fresh 2 1 1).run 0 ⟨1, 0, 0, 0, 0, []⟩).2 = p1 at *
  have hN1 : 0 < p1.X.N := by rw [x1]; exact (by decide : 0 < 1)
  have hH1 : p1.X.H 0 0 = ((0 : Nat) : Int) := by rw [x1]; rfl
  obtain ⟨e2, i2, x2, n2, b2⟩ := RfE.plain (o := ⟨4, 0, 0, 0, 0, d⟩) i1 b1 hb 0 (.inl ⟨show (4 : Int) ≠ 1 by decide, show (4 : Int) ≠ 2 by decide⟩)
  have m2 := RfE.model_write (o := ⟨4, 0, 0, 0, 0, d⟩) hN1 hH1 rfl rfl rfl h16
  generalize hp2 : (p1.run 0 ⟨4, 0, 0, 0, 0, d⟩).2 = p2 at *
  have y2 : p2.X = p1.X.putB 0 (MdM.splice (p1.X.B 0) 0 d) := by rw [x2, m2]
  have hN2 : 0 < p2.X.N := by rw [y2]; exact hN1
  have hH2 : p2.X.H 0 0 = ((0 : Nat) : Int) := by rw [y2]; exact hH1
  have hB2 : (p2.X.B 0).take d.length = d := by rw [y2]; show (MdM.upd p1.X.B 0 _ 0).take _ = _; rw [MdM.upd_same]; exact splice_take _ _
  obtain ⟨e3, i3, x3, n3, b3⟩ := RfE.plain (o := ⟨3, 0, 0, 0, d.length, []⟩) i2 b2 hb0 0 (.inl ⟨show (3 : Int) ≠ 1 by decide, show (3 : Int) ≠ 2 by decide⟩)
  have m3 := RfE.model_read (o := ⟨3, 0, 0, 0, d.length, []⟩) hN2 hH2 rfl rfl rfl ⟨by show (0 : Int) ≤ (d.length : Int); omega, by show (d.length : Int) ≤ 16; omega⟩
  generalize hp3 : (p2.run 0 ⟨3, 0, 0, 0, d.length, []⟩).2 = p3 at *
  have y3 : p3.X = p2.X := by rw [x3, m3]
  have hN3 : 0 < p3.X.N := by rw [y3]; exact hN2
  have hH3 : p3.X.H 0 0 = ((0 : Nat) : Int) := by rw [y3]; exact hH2
  obtain ⟨e4, i4, x4, n4, b4⟩ := RfE.plain (o := ⟨3, 0, 0, 0, d.length, []⟩) i3 b3 hb0 0 (.inl ⟨show (3 : Int) ≠ 1 by decide, show (3 : Int) ≠ 2 by decide⟩)
  have m4 := RfE.model_read (o := ⟨3, 0, 0, 0, d.length, []⟩) hN3 hH3 rfl rfl rfl ⟨by show (0 : Int) ≤ (d.length : Int); omega, by show (d.length : Int) ≤ 16; omega⟩
  generalize hp4 : (p3.run 0 ⟨3, 0, 0, 0, d.length, []⟩).2 = p4 at *
  have y4 : p4.X = p3.X := by rw [x4, m4]
  have hn4 : p4.A.n = 1 := by rw [n4, n3, n2, n1]
  refine ⟨p1, p2, p3, p4, e1, hp1, by rw [e2, m2]; rfl, hp2, by rw [e3, m3]; show (⟨0, 0, 0, (p2.X.B 0).take ((d.length : Int)).toNat⟩ : Re) = _; rw [Int.toNat_natCast, hB2], hp3, by rw [e4, m4]; show (⟨0, 0, 0, (p3.X.B 0).take ((d.length : Int)).toNat⟩ : Re) = _; rw [Int.toNat_natCast, y3, hB2], hp4, hn4, ?_, ?_⟩
  · have hpos := RfX.pins_pos (a := p4.X) (k := 0) (j := 0) (q := 0) (by rw [y4]; exact hN3) (by decide) (by rw [y4]; exact hH3)
    have hq : 0 < p4.X.n := by have := i4.gx.n.1; omega
    rcases RfE.seen i4 hq with ⟨f, hf, hs, hp, _⟩ | ⟨_, h0⟩
    · obtain rfl : f = 0 := by omega
      exact hp
    · exact absurd h0 (by omega)
  · rw [y4, y3, y2, x1]
    rfl
section
variable {w : World} {A : Option Addr} {len cap : Nat}
set_option maxRecDepth 100000 in
set_option maxHeartbeats 8000000 in
theorem own_any (h : BytesAt w A len cap) : Calls Tryz.prog 3 #[.slice A len cap] w fun e w' => e = .returned (.bool true) ∧ Below w.heap.size w w' := by
  obtain ⟨d, hsl, hbd, hlc, hcm⟩ := h
  unfold maxLen at hcm
  by_cases hbad : len < 1 ∨ 16 < len
  · by_cases h1 : len < 1
    · have h1z : (len : Int) < 1 := by omega
      clear hsl hbd hbad
      go_enter Tryz.func3, Tryz.ntmps3
      go_wp2_with (go_at_call 11; (with_reducible refine (told_any _).mono ?_); rintro e wt ⟨rfl, hge⟩; have HGE := Lib.hid hge; clear hge)
      go_ret
      exact ⟨rfl, Grow.below HGE.out⟩
    · have h1z : ¬ ((len : Int) < 1) := by omega
      have h16z : (16 : Int) < (len : Int) := by omega
      clear hsl hbd hbad
      go_enter Tryz.func3, Tryz.ntmps3
      go_wp2_with (go_at_call 11; (with_reducible refine (told_any _).mono ?_); rintro e wt ⟨rfl, hge⟩; have HGE := Lib.hid hge; clear hge)
      go_ret
      exact ⟨rfl, Grow.below HGE.out⟩
  have hl1 : ¬ ((len : Int) < 1) := by omega
  have hl16 : (len : Int) ≤ 16 := by omega
  have hdl : d.length = len := hsl.len
  obtain ⟨p1, p2, p3, p4, R⟩ := own_run hbd (by omega) hdl
  have HR := Lib.hid R
  have HSL := Lib.hid hsl
  have HBD := Lib.hid hbd
  have HL := Lib.hid (And.intro (show 0 < len by omega) (show len ≤ 16 by omega))
  have HDL := Lib.hid hdl
  have HNEW := Lib.hid (pnew 2 1 1 (by decide) (by decide) (by decide) (by decide) (by decide) (by decide) w)
  simp only [Int.cast_ofNat_Int] at HNEW
  clear hsl hbd hbad R hdl
  go_enter Tryz.func3, Tryz.ntmps3
  go_upto_region 4 with (go_at_call 12; (with_reducible refine HNEW.out.mono ?_); rintro e u0 ⟨ν, c0, rfl, hp, hg, hz⟩; have HS0 := Lib.hid (new_std hp hg hz); clear hp hg hz)
  have HDO := Lib.hid (pdo0 (p' := p1) HS0.out.x (by decide) (by decide) HR.out.r1 HR.out.s1)
  go_upto_region 7 with (go_at_call 13; (with_reducible refine HDO.out.mono ?_); rintro e u1 ⟨_, _, _, c1, rfl, _, _, _, hw, hp⟩; have HS1 := Lib.hid (HS0.out.went hw hp); clear hw hp)
  clear HDO
  have hb1 : Sl u1 w.heap.size .u8 A len d := Sl.kept HSL.out HS1.out.g (Nat.le_refl _) fun _ _ e => e
  obtain ⟨gc, kc, u2, hrun, hor, hgc, hg2⟩ := append_bytes (c := cap) hb1 HS1.out.g.size HL.out.1 (by have := HL.out.2; omega) 22
  have HRUN := Lib.hid hrun
  have HOR := Lib.hid hor
  have HGC := Lib.hid hgc
  have HG2 := Lib.hid hg2
  clear hrun hor hgc hg2 hb1
  -- REST
  go_upto_region 8 with (at_builtin; refine Lib.wpList_append_run _ rfl _ _ _ _ rfl _ _ rfl rfl _ _ HRUN.out ?_)
  have HS2 := Lib.hid (HS1.out.grow HG2.out)
  have HOC : Hid (Out (paint u1.heap.size 0 c1) gc) := out_new (c := 0) HGC.out
  generalize paint u1.heap.size 0 c1 = c2 at *
  clear HRUN
  have HDO := Lib.hid (pdo_is (dc := kc) (p' := p2) HS2.out.x (RgB.or_sl HOR.out HDL.out) (by have := HL.out; omega) (by decide) HBD.out (by decide) HR.out.r2 HR.out.s2)
  go_upto_region 9 with (first
    | (go_at_call 13; (with_reducible refine HDO.out.mono ?_); rintro e v3 ⟨X3, n3, k3, d3, rfl, hd, hfz, hnw, hw, hp⟩; have HD := Lib.hid hd; have HFZ := Lib.hid hfz; have HNW := Lib.hid hnw; have HWD := Lib.hid hw; have HSD := Lib.hid (HS2.out.went hw hp); obtain ⟨u3, hv, hg, hb, hb0⟩ := box_res v3 d3 #[.int .i64 0, .int .i64 0, .int .i64 0, .slice X3 n3 k3]; have HV := Lib.hid hv; have HGB := Lib.hid hg; have HBB := Lib.hid hb; have HZZ := Lib.hid hb0; clear hd hfz hnw hw hp hv hg hb hb0)
    | (refine wpList_store_row rfl 27 _ _ rfl v3.heap.size #[.int .i64 0, .int .i64 0, .int .i64 0, .slice X3 n3 k3] rfl rfl _ _ HZZ.out MdC.res_size rfl (by simp [Value.oneCell']) ?_))
  rw [HV.out]
  obtain ⟨c3, hcn⟩ : ∃ c3, paint v3.heap.size 0 d3 = c3 := ⟨_, rfl⟩
  have HS3 := Lib.hid (HSD.out.grow HGB.out)
  have HWX := Lib.hid (HWD.out.trans (Went.grow (col := d3) HGB.out))
  have HDX := Lib.hid (HD.out.grow HGB.out)
  have HFX := Lib.hid (HFZ.out.kept HGB.out fun h0 x e => ⟨PmT.sl_lt HD.out.s h0 e, id⟩)
  have HOG : Hid (Out (paint v3.heap.size 0 d3) v3.heap.size) := out_new (c := 0) (Nat.le_refl _)
  have HGS : Hid (w.heap.size ≤ v3.heap.size) := HSD.out.g.size
  rw [hcn] at HS3 HWX HDX HOG
  have HG3 : Hid (0 < n3 → ∀ x, X3 = some x → v3.heap.size ≠ x.block) := fun h0 x e => by have := PmT.sl_lt HD.out.s h0 e; omega
  generalize v3.heap.size = g3 at HBB HOG HGS HG3 ⊢
  clear HV HGB HZZ HSD HWD HD HFZ HDO hcn
  have HB3 := HBB
  have HO3 := HOG
  have hor3 := HOR.out.kept HWX.out.kept fun m => by have h1 := m.2; have h2 := HOC.out; unfold Out at h2; omega
  have HOR3 := Lib.hid hor3
  have HOC3 := Lib.hid (HOC.out.went HOR.out.lt HWX.out)
  have x0 := hor3.cell (i := 0) (by have := HL.out; omega)
  have xf := hor3.frozen 0
  unfold ArB.bcell at x0
  clear hor3 HNW HDX HFX HBB HOG HGS HWX
  have HGCW : Hid (w.heap.size ≤ gc) := Nat.le_trans HS1.out.g.size HGC.out
  have HNE3 : Hid (gc ≠ g3) := by
    intro e
    have h1 := HB3.out
    have h2 := HOR3.out
    subst e
    obtain ⟨cur, hc, _⟩ := h2
    have h3 : u3.heap[gc]? = _ := h1
    rw [hc] at h3
    simp at h3
  generalize d.getD 0 0 = z at x0
  go_upto_region 10 with (fail)
  have hk4 := kept_set u3 gc 0 (.int .u8 (bits .xor .u8 z 1))
  have HS4 := Lib.hid (HS3.out.put hk4 fun i _ e => by rw [e]; exact ⟨HGCW.out, HOC3.out⟩)
  have HB4 := Lib.hid (Blk.kept HB3.out hk4 fun e => HNE3.out e.symm)
  clear hk4 x0 xf HB3 HNE3 HOR3 HOC3 HOR HOC HGC
  generalize u3.setCell ⟨gc, 0, none⟩ (.int .u8 (bits .xor .u8 z 1)) = u4 at *
  have HDO := Lib.hid (pdo0 (p' := p3) HS4.out.x (by decide) (by decide) HR.out.r3 HR.out.s3)
  go_upto_region 11 with (first
    | (go_at_call 13; (with_reducible refine HDO.out.mono ?_); rintro e v5 ⟨X5, n5, k5, d5, rfl, hd, hfz, hnw, hw, hp⟩; have HD := Lib.hid hd; have HFZ := Lib.hid hfz; have HNW := Lib.hid hnw; have HWD := Lib.hid hw; have HSD := Lib.hid (HS4.out.went hw hp); obtain ⟨u5, hv, hg, hb, hb0⟩ := box_res v5 d5 #[.int .i64 0, .int .i64 0, .int .i64 0, .slice X5 n5 k5]; have HV := Lib.hid hv; have HGB := Lib.hid hg; have HBB := Lib.hid hb; have HZZ := Lib.hid hb0; clear hd hfz hnw hw hp hv hg hb hb0)
    | (refine wpList_store_row rfl 27 _ _ rfl v5.heap.size #[.int .i64 0, .int .i64 0, .int .i64 0, .slice X5 n5 k5] rfl rfl _ _ HZZ.out MdC.res_size rfl (by simp [Value.oneCell']) ?_))
  rw [HV.out]
  obtain ⟨c5, hcn⟩ : ∃ c5, paint v5.heap.size 0 d5 = c5 := ⟨_, rfl⟩
  have HS5 := Lib.hid (HSD.out.grow HGB.out)
  have HWX := Lib.hid (HWD.out.trans (Went.grow (col := d5) HGB.out))
  have HDX := Lib.hid (HD.out.grow HGB.out)
  have HFX := Lib.hid (HFZ.out.kept HGB.out fun h0 x e => ⟨PmT.sl_lt HD.out.s h0 e, id⟩)
  have HOG : Hid (Out (paint v5.heap.size 0 d5) v5.heap.size) := out_new (c := 0) (Nat.le_refl _)
  have HGS : Hid (w.heap.size ≤ v5.heap.size) := HSD.out.g.size
  rw [hcn] at HS5 HWX HDX HOG
  have HG5 : Hid (0 < n5 → ∀ x, X5 = some x → v5.heap.size ≠ x.block) := fun h0 x e => by have := PmT.sl_lt HD.out.s h0 e; omega
  generalize v5.heap.size = g5 at HBB HOG HGS HG5 ⊢
  clear HV HGB HZZ HSD HWD HD HFZ HDO hcn
  have HB35 := Lib.hid (RgB.Went.blk HWX.out HB4.out HO3.out)
  have b0 := HB35.out.1.cell 0
  have b3 := Blk.cell HBB.out 3
  simp only [List.getElem?_cons_succ, List.getElem?_cons_zero] at b0 b3
  obtain rfl : n5 = len := HDX.out.s.len.symm.trans HDL.out
  have hst1 := HDX.out.s.str (P := Tryz.prog) 22 9 5 Tryz.underlying22 Tryz.underlying5 Tryz.underlying9 k5
  have hst2 := (Sl.kept HSL.out HS5.out.g (Nat.le_refl _) (fun _ _ e => e) : Sl u5 w.heap.size .u8 A n5 d).str (P := Tryz.prog) 22 9 5 Tryz.underlying22 Tryz.underlying5 Tryz.underlying9 cap
  generalize strOfNums d = st at hst1 hst2
  go_upto_region 13 with (fail)
  clear b0 hst1 hst2 HB35 HB4 HO3
  obtain ⟨bx, ox, rfl, hbx, hcx⟩ := HDX.out.s.at_ HL.out.1
  have x0 : u5.cell? ⟨bx, ox, none⟩ = some (.int .u8 (d.getD 0 0)) := hcx 0 HL.out.1
  have xf : u5.frozen? ⟨bx, ox, none⟩ = false := HFX.out HL.out.1 _ rfl ox
  have HBX : Hid (Out c5 bx ∧ w.heap.size ≤ bx ∧ bx < u5.heap.size) := ⟨HDX.out.o HL.out.1 _ rfl, Nat.le_trans HS4.out.g.size (HNW.out HL.out.1 _ rfl), hbx⟩
  have HNE5 : Hid (g5 ≠ bx) := HG5.out HL.out.1 _ rfl
  generalize d.getD 0 0 = z' at x0
  have q3 := up_cell (F := fun _ => False) (w := u5.drew) (p := ⟨g5, 3, none⟩) b3 id
  have q0 := up_cell (F := fun _ => False) (w := u5.drew) (p := ⟨bx, ox, none⟩) x0 id
  have hlz : (0 : Int) < (n5 : Int) := by have := HL.out.1; omega
  refine wp_region_tree Grow (Kept (· = bx)) (kept_refl _) (kept_trans _) (kept_refl _) (kept_trans _) (fun _ _ h => h.mono fun _ _ x => x.elim) [8] (.one true [0, 1, 2, 3, 4, 5, 6, 7] 8 (.last false [])) (by kernel_rfl) (by kernel_rfl) ?_
  refine tr_oneE fun K hK => ?_
  simp only [sel, List.map_cons, List.map_nil, List.getD_cons_succ, List.getD_cons_zero]
  repeat (go_big_quiet_step (fail))
  refine wpQuiet_nil ?_
  clear q3 q0
  go_wp2
  refine norm_up (hK _ _ (Lr_late (by decide) (kept_set _ bx ox _)) ?_)
  clear hK K
  refine tr_lastL fun K hK => ?_
  simp only [sel, List.map_nil]
  refine wpQuiet_nil (hK _ ?_)
  clear hK K
  have hk6 : Kept (· = bx) u5 ((u5.setCell ⟨bx, ox, none⟩ (.int .u8 (bits .xor .u8 z' 1))).drew) := (kept_set _ bx ox _).trans (Kept.drew' _)
  have HS6 := Lib.hid (HS5.out.put hk6 fun i _ e => by rw [e]; exact ⟨HBX.out.2.1, HBX.out.1⟩)
  clear hk6 x0 xf HDX HFX HNW hcx hbx b3 HBB HOG HGS HWX HG5
  generalize (u5.setCell ⟨bx, ox, none⟩ (.int .u8 (bits .xor .u8 z' 1))).drew = u6 at *
  have HDO := Lib.hid (pdo0 (p' := p4) HS6.out.x (by decide) (by decide) HR.out.r4 HR.out.s4)
  go_upto_region 15 with (first
    | (go_at_call 13; (with_reducible refine HDO.out.mono ?_); rintro e v7 ⟨X7, n7, k7, d7, rfl, hd, hfz, hnw, hw, hp⟩; have HD := Lib.hid hd; have HFZ := Lib.hid hfz; have HNW := Lib.hid hnw; have HWD := Lib.hid hw; have HSD := Lib.hid (HS6.out.went hw hp); obtain ⟨u7, hv, hg, hb, hb0⟩ := box_res v7 d7 #[.int .i64 0, .int .i64 0, .int .i64 0, .slice X7 n7 k7]; have HV := Lib.hid hv; have HGB := Lib.hid hg; have HBB := Lib.hid hb; have HZZ := Lib.hid hb0; clear hd hfz hnw hw hp hv hg hb hb0)
    | (refine wpList_store_row rfl 27 _ _ rfl v7.heap.size #[.int .i64 0, .int .i64 0, .int .i64 0, .slice X7 n7 k7] rfl rfl _ _ HZZ.out MdC.res_size rfl (by simp [Value.oneCell']) ?_))
  rw [HV.out]
  obtain ⟨c7, hcn⟩ : ∃ c7, paint v7.heap.size 0 d7 = c7 := ⟨_, rfl⟩
  have HS7 := Lib.hid (HSD.out.grow HGB.out)
  have HWX := Lib.hid (HWD.out.trans (Went.grow (col := d7) HGB.out))
  have HDX := Lib.hid (HD.out.grow HGB.out)
  have HFX := Lib.hid (HFZ.out.kept HGB.out fun h0 x e => ⟨PmT.sl_lt HD.out.s h0 e, id⟩)
  have HOG : Hid (Out (paint v7.heap.size 0 d7) v7.heap.size) := out_new (c := 0) (Nat.le_refl _)
  have HGS : Hid (w.heap.size ≤ v7.heap.size) := HSD.out.g.size
  rw [hcn] at HS7 HWX HDX HOG
  have HG7 : Hid (0 < n7 → ∀ x, X7 = some x → v7.heap.size ≠ x.block) := fun h0 x e => by have := PmT.sl_lt HD.out.s h0 e; omega
  generalize v7.heap.size = g7 at HBB HOG HGS HG7 ⊢
  clear HV HGB HZZ HSD HWD HD HFZ HDO hcn
  have HDY := HDX
  have HBY := HBB
  have HOY := HOG
  clear HG7 HNW HFX HGS HWX HDX HBB HOG
  have hN := HR.out.n
  have HN1 : Hid (0 < p4.A.n) := by show 0 < p4.A.n; omega
  have CF : Hid (∀ wx cx k, PAt wx cx ν p4 k → Calls Tryz.prog 14 #[.pointer (some ⟨ν.r, 0, none⟩)] wx fun e w' => ∃ g c, e = .returned (.slice (some ⟨g, 0, none⟩) 1 c) ∧ w'.cell? ⟨g, 1, none⟩ = some (.int .i64 0) ∧ w'.frozen? ⟨g, 1, none⟩ = false ∧ wx.heap.size ≤ g ∧ g < w'.heap.size ∧ Grow wx w') := fun wx cx k hx => (pframes hx).mono fun e w' ⟨g, c, he, ho, hg, hgr⟩ => by
    rw [hN] at he
    have h1 := FR.c1 ho (f := 0) HN1.out
    rw [HR.out.f] at h1
    exact ⟨g, c, he, h1, OR.frozen ho 1, hg, OR.lt ho, hgr⟩
  have CT : Hid (∀ wx cx k, PAt wx cx ν p4 k → Calls Tryz.prog 15 #[.pointer (some ⟨ν.r, 0, none⟩)] wx (IntsAre wx [0])) := fun wx cx k hx => by have h := pthere hx; rw [HR.out.t] at h; exact ints_are h (by decide)
  clear hN
  go_upto_region 16 with (first
    | (go_at_call 14; (with_reducible refine (CF.out _ _ _ HS7.out.x).mono ?_); rintro e u8 ⟨gf, cf, rfl, f1, f2, f3, f4, hg⟩; have HS8 := Lib.hid (HS7.out.grow hg); have HG8 := Lib.hid hg; have HF1 := Lib.hid f1; have HF2 := Lib.hid f2; have HF3 := Lib.hid (And.intro f3 f4); clear f1 f2 f3 f4 hg)
    | (go_at_call 15; (with_reducible refine (CT.out _ _ _ HS8.out.x).mono ?_); rintro e u9 ⟨gt, ct, rfl, t1, t2, t3, t4, hg⟩; have HS9 := Lib.hid (HS8.out.grow hg); have HG9 := Lib.hid hg; have HT1 := Lib.hid (t3 0 (by decide)); have HT2 := Lib.hid (t4 0); have HT3 := Lib.hid (And.intro t1 t2); clear t1 t2 t3 t4 hg))
  have HDZ := Lib.hid (HDY.out.went ((Went.grow (col := c7) HG8.out).trans (Went.grow (col := paint u7.heap.size 0 c7) HG9.out)))
  have HBZ := Lib.hid ((HBY.out.grow HG8.out).grow HG9.out)
  have HSZ : Hid (g7 < u7.heap.size ∧ u7.heap.size ≤ gf ∧ gf < u8.heap.size ∧ u8.heap.size ≤ gt ∧ gt < u9.heap.size ∧ ∀ x, X7 = some x → 0 < n5 → x.block < u7.heap.size) := ⟨HBY.out.lt, HF3.out.1, HF3.out.2, HT3.out.1, HT3.out.2, fun x e h0 => PmT.sl_lt HDY.out.s (by have := HDY.out.s.len.symm.trans HDL.out; omega) e⟩
  have f1 := HG9.out.cellN HF1.out id
  have f2 := (HG9.out.frozen (p := ⟨gf, 1, none⟩) HF3.out.2 id).trans HF2.out
  have HOF : Hid (Out (paint u8.heap.size 0 (paint u7.heap.size 0 c7)) gf) := (out_new (c := 0) (col := c7) HF3.out.1).went HF3.out.2 (Went.grow HG9.out)
  have HOT : Hid (Out (paint u8.heap.size 0 (paint u7.heap.size 0 c7)) gt) := out_new (c := 0) HT3.out.1
  have HWG : Hid (w.heap.size ≤ u7.heap.size) := HS7.out.g.size
  generalize paint u8.heap.size 0 (paint u7.heap.size 0 c7) = c9 at *
  clear HDY HBY HOY HF1 HF2
  go_wp2
  refine wp_loop_rounds 2 ?_
  rw [rounds_succ]
  go_wp2
  rw [rounds_succ]
  go_wp2
  have hk10 := kept_set u9 gf 1 (.int .i64 44)
  have HS10 := Lib.hid (HS9.out.put hk10 fun i _ e => by rw [e]; exact ⟨Nat.le_trans HWG.out HSZ.out.2.1, HOF.out⟩)
  have HB10 := Lib.hid (HBZ.out.kept hk10 fun e => by have := HSZ.out; have e : g7 = gf := e; omega)
  have HD10 := Lib.hid (Dt.put HDZ.out hk10 fun h0 x ex e => by have := HSZ.out.2.2.2.2.2 x ex HL.out.1; have := HSZ.out.2.1; have e : x.block = gf := e; omega)
  have t1 := hk10.cellN (p := ⟨gt, 0, none⟩) HT1.out (fun e => by have := HSZ.out; have e : gt = gf := e; omega)
  have t2 := (hk10.frozen (p := ⟨gt, 0, none⟩) HSZ.out.2.2.2.2.1 (fun e => by have := HSZ.out; have e : gt = gf := e; omega)).trans HT2.out
  clear hk10 f1 f2
  generalize u9.setCell ⟨gf, 1, none⟩ (.int .i64 44) = u10 at *
  refine wp_loop_rounds 2 ?_
  rw [rounds_succ]
  go_wp2
  rw [rounds_succ]
  go_upto_region 24 with (fail)
  have hk11 := kept_set u10 gt 0 (.int .i64 44)
  have HS11 := Lib.hid (HS10.out.put hk11 fun i _ e => by rw [e]; exact ⟨by have := HSZ.out; have := HWG.out; omega, HOT.out⟩)
  have HB11 := Lib.hid (HB10.out.kept hk11 fun e => by have := HSZ.out; have e : g7 = gt := e; omega)
  have HD11 := Lib.hid (Dt.put HD10.out hk11 fun h0 x ex e => by have := HSZ.out.2.2.2.2.2 x ex HL.out.1; have := HSZ.out; have e : x.block = gt := e; omega)
  clear hk11 t1 t2
  generalize u10.setCell ⟨gt, 0, none⟩ (.int .i64 44) = u11 at *
  go_upto_region 25 with (first
    | (go_at_call 14; (with_reducible refine (CF.out _ _ _ HS11.out.x).mono ?_); rintro e u12 ⟨gf', cf', rfl, f1, _, _, f4, hg⟩; have HS12 := Lib.hid (HS11.out.grow hg); have HG12 := Lib.hid hg; have HF1 := Lib.hid f1; clear f1 f4 hg)
    | (go_at_call 15; (with_reducible refine (CT.out _ _ _ HS12.out.x).mono ?_); rintro e u13 ⟨gt', ct', rfl, t1, t2, t3, t4, hg⟩; have HS13 := Lib.hid (HS12.out.grow hg); have HG13 := Lib.hid hg; have HT1 := Lib.hid (t3 0 (by decide)); clear t1 t2 t3 t4 hg))
  have HGT : Hid (Grow u11 u13) := HG12.out.trans HG13.out
  have HF13 := Lib.hid (HG13.out.cellN HF1.out id)
  have CS : Hid (∀ wx, Grow u13 wx → (convert 22 9 (.slice X7 n7 k7)).run Tryz.prog wx = .ok (.string (strOfNums d)) wx ∧ (convert 22 9 (.slice A n5 cap)).run Tryz.prog wx = .ok (.string (strOfNums d)) wx) := fun wx hg => ⟨((HD11.out.grow (HGT.out.trans hg)).s).str (P := Tryz.prog) 22 9 5 Tryz.underlying22 Tryz.underlying5 Tryz.underlying9 k7,
    (Sl.kept HSL.out (HS13.out.g.trans hg) (Nat.le_refl _) (fun _ _ e => e) : Sl wx w.heap.size .u8 A n5 d).str (P := Tryz.prog) 22 9 5 Tryz.underlying22 Tryz.underlying5 Tryz.underlying9 cap⟩
  generalize strOfNums d = st at CS
  have HBX := Lib.hid ((HB11.out.grow HGT.out).cell 3)
  have hY := HBX.out
  simp only [List.getElem?_cons_succ, List.getElem?_cons_zero] at hY
  have HY := Lib.hid hY
  clear hY
  have ht1 := HT1.out
  simp only [List.getD_cons_zero] at ht1
  have HTZ := Lib.hid ht1
  clear ht1
  go_wp2_with (go_at_call 11; (with_reducible refine (told_any _).mono ?_); rintro e wt ⟨rfl, hge⟩; have HGE := Lib.hid hge; have y3 := hge.cellN HY.out id; obtain ⟨cs1, cs2⟩ := CS.out wt hge; have z1 := hge.cellN HF13.out id; have z2 := hge.cellN HTZ.out id; clear hge)
  go_ret
  exact ⟨rfl, Grow.below (HS13.out.g.trans HGE.out)⟩
end
end Go.Proofs.YtbnkpnllgoghnaaGreat.LwOwn
