/-
  Texts behind the statements of this seat: part 9.
-/
import Derived.Test.YtbnkpnllgoghnaaGreatQh
import Derived.Test.YtbnkpnllgoghnaaGreatQg
import Derived.Test.YtbnkpnllgoghnaaGreatQd
import Derived.Test.YtbnkpnllgoghnaaGreatQf
import Derived.Deep.Cut
import Derived.Deep.DeepCutAuto
import Derived.Deep.CutBlock
import Derived.Deep.CutRange
import Derived.RegionTactic
import Derived.WalkSpells
import Derived.Lib.AppendZeros
import Derived.Test.YtbnkpnllgoghnaaGreatQe
set_option linter.unusedVariables false

namespace Go.Proofs.YtbnkpnllgoghnaaGreat.RgK
open Go.ChangeShapes Go.WideShapes Go.ChangeAt Go.RowKit
open Go.Proofs.YtbnkpnllgoghnaaGreat.Mem Go.Proofs.YtbnkpnllgoghnaaGreat.Blk Go.Proofs.YtbnkpnllgoghnaaGreat.Cells Go.Proofs.YtbnkpnllgoghnaaGreat.Orow Go.Proofs.YtbnkpnllgoghnaaGreat.RfP Go.Proofs.YtbnkpnllgoghnaaGreat.RgP Go.Proofs.YtbnkpnllgoghnaaGreat.RgS Go.Proofs.YtbnkpnllgoghnaaGreat.RgA Go.Proofs.YtbnkpnllgoghnaaGreat.RgB Go.Proofs.YtbnkpnllgoghnaaGreat.RgC Go.Proofs.YtbnkpnllgoghnaaGreat.RgO Go.Proofs.YtbnkpnllgoghnaaGreat.RgD Go.Proofs.YtbnkpnllgoghnaaGreat.RgE Go.Proofs.YtbnkpnllgoghnaaGreat.RgF Go.Proofs.YtbnkpnllgoghnaaGreat.RgG Go.Proofs.YtbnkpnllgoghnaaGreat.RgI Go.Proofs.YtbnkpnllgoghnaaGreat.RgJ Go.Proofs.YtbnkpnllgoghnaaGreat.Stages
open Go.Proofs.YtbnkpnllgoghnaaGreat.ArM (Ar Fr fUsed fFree)
open Go.Proofs.YtbnkpnllgoghnaaGreat.ArC (ArAt FR)
open Go.Proofs.YtbnkpnllgoghnaaGreat.Dev (Dv DevAt)
open Go.Proofs.YtbnkpnllgoghnaaGreat.ListM (outL frontL okO okF)
open Go.Proofs.YtbnkpnllgoghnaaGreat.HdM (Hs)
open Go.Proofs.YtbnkpnllgoghnaaGreat.RgH (hs)
open Go.Proofs.YtbnkpnllgoghnaaGreat.MdM (Md MdOp Re)
open Go.Proofs.YtbnkpnllgoghnaaGreat.RfM (Pl)
open Go.Proofs.YtbnkpnllgoghnaaGreat.RfI (InvE Inv)
open Go.Proofs.YtbnkpnllgoghnaaGreat.RgM (Bnd saveC saveS)
section
variable {w w' : World} {col col' : Nat → Nat} {ν : Nm} {S : Dv} {A : Ar} {L : List Nat} {H : Hs} {T : Nat → Bool} {p : Pl} {h : Option Nat} {f q k n b g dl dc : Nat} {D : Option Addr}
theorem md_code {a : Md} {c : Int} {o : MdOp} (ho : o.k ≠ 1 ∧ o.k ≠ 2 ∧ o.k ≠ 3) : ∃ z, (a.run c o).1 = MdM.err z := by
  have hp : ∀ (pg : Int) (f : Nat → Re × Md), (∀ q, ∃ z, (f q).1 = MdM.err z) → ∃ z, (a.onPage pg f).1 = MdM.err z := fun pg f h => by
    unfold Md.onPage
    split
    · exact ⟨_, rfl⟩
    · split
      · exact ⟨_, rfl⟩
      · exact h _
  have hh : ∀ (c h : Int) (f : Nat → Re × Md), (∀ q, ∃ z, (f q).1 = MdM.err z) → ∃ z, (a.onHand c h f).1 = MdM.err z := fun c h f hf => by
    unfold Md.onHand
    split
    · exact ⟨_, rfl⟩
    · exact hf _
  unfold Md.run
  split
  · exact ⟨_, rfl⟩
  rw [if_neg ho.1, if_neg ho.2.1, if_neg ho.2.2]
  split
  · exact hh _ _ _ fun q => by
      unfold Md.write
      split
      · exact ⟨_, rfl⟩
      · exact ⟨_, rfl⟩
  split
  · exact hh _ _ _ fun q => ⟨_, rfl⟩
  split
  · exact hp _ _ fun q => ⟨_, rfl⟩
  split
  · exact ⟨_, rfl⟩
  · exact hp _ _ fun q => by
      unfold Md.del
      split
      · exact ⟨_, rfl⟩
      · exact ⟨_, rfl⟩
/-- A call that hands nothing back tells a code alone. -/
theorem run_code {c : Int} {o : MdOp} (ho : o.k ≠ 1 ∧ o.k ≠ 2 ∧ o.k ≠ 3) : (p.run c o).1 = MdM.err (p.run c o).1.c := by
  obtain ⟨z, hz⟩ := md_code (a := p.X) (c := c) ho
  unfold Pl.run
  split
  · rw [hz]; rfl
  · unfold Pl.fin
    split
    · rfl
    · dsimp only; rw [hz]; rfl
theorem run_wild {c : Int} {o : MdOp} (h : ¬ (0 ≤ c ∧ c < (p.X.N : Int)) ∨ o.k < 1 ∨ 8 < o.k) : p.run c o = (MdM.err 1, p) := by
  have hr : p.X.run c o = (MdM.err 1, p.X) := by unfold Md.run; rw [if_pos h]
  unfold Pl.run
  rw [hr, if_pos (by exact (by decide : (1 : Int) ≠ 0))]
set_option maxRecDepth 100000 in
set_option maxHeartbeats 4000000 in
theorem do_any {o : MdOp} (x : MP w col ν p) (i : Inv p) (ft : Fit ν p) (c : Int) (hd : Sl w w.heap.size .u8 D dl o.d) (hdl : dl ≤ 1000000) (h63 : o.o ≤ 9223372036854775807) (hl : Bnd p.D k) (hk : k ≤ 100000) :
    Calls Tryz.prog 13 #[.pointer (some ⟨ν.r, 0, none⟩), .int .i64 c, .agg #[.int .i64 o.k, .int .i64 o.p, .int .i64 o.h, .int .i64 o.o, .int .i64 o.n, .slice D dl dc]] w (RunPost ν w col (p.run c o)) := by
  have hb5 := Blk.new w 30 [.int .i64 o.k, .int .i64 o.p, .int .i64 o.h, .int .i64 o.o, .int .i64 o.n, .slice D dl dc]
  have hb6 := Blk.new (w.alloc (.cells #[.int .i64 o.k, .int .i64 o.p, .int .i64 o.h, .int .i64 o.o, .int .i64 o.n, .slice D dl dc] 30)) 27 [.int .i64 0, .int .i64 0, .int .i64 0, .slice none 0 0]
  have hs5 : (w.alloc (.cells #[.int .i64 o.k, .int .i64 o.p, .int .i64 o.h, .int .i64 o.o, .int .i64 o.n, .slice D dl dc] 30)).heap.size = w.heap.size + 1 := by simp
  rw [hs5] at hb6
  have hb5 := hb5.alloc (.cells #[.int .i64 0, .int .i64 0, .int .i64 0, .slice none 0 0] 27)
  have hg : Grow w ((w.alloc (.cells #[.int .i64 o.k, .int .i64 o.p, .int .i64 o.h, .int .i64 o.o, .int .i64 o.n, .slice D dl dc] 30)).alloc (.cells #[.int .i64 0, .int .i64 0, .int .i64 0, .slice none 0 0] 27)) := ((Kept.refl _ _).alloc _).alloc _
  have hx := x.grow hg
  have HX := Lib.hid hx
  have HW := Lib.hid (Went.grow (col := col) hg)
  have HC5 : Hid (paint w.heap.size 0 col w.heap.size < 6 ∨ 11 < paint w.heap.size 0 col w.heap.size) := .inl (by rw [paint_new (Nat.le_refl _)]; decide)
  have HC : Hid (paint w.heap.size 0 col (w.heap.size + 1) < 6 ∨ 11 < paint w.heap.size 0 col (w.heap.size + 1)) := .inl (by rw [paint_new (Nat.le_succ _)]; decide)
  have HB := Lib.hid hb6
  have HB5 := Lib.hid hb5
  have o0 := hb5.cell 0
  have o1 := hb5.cell 1
  have o2 := hb5.cell 2
  have o3 := hb5.cell 3
  have o4 := hb5.cell 4
  have o5 := hb5.cell 5
  simp only [List.getElem?_cons_succ, List.getElem?_cons_zero] at o0 o1 o2 o3 o4 o5
  have e5 := hx.c5
  have HLT : Hid (w.heap.size + 1 < ((w.alloc (.cells #[.int .i64 o.k, .int .i64 o.p, .int .i64 o.h, .int .i64 o.o, .int .i64 o.n, .slice D dl dc] 30)).alloc (.cells #[.int .i64 0, .int .i64 0, .int .i64 0, .slice none 0 0] 27)).heap.size) := hb6.lt
  have HS5 := Lib.hid hs5
  have hN6 := i.gx.N.2
  rw [ft.N] at e5
  have hNz : (p.X.N : Int) ≤ 6 := by omega
  by_cases hout : ¬ (0 ≤ c ∧ c < (p.X.N : Int))
  · have E := Lib.hid (run_wild (p := p) (o := o) (.inl hout))
    unfold RunPost
    rw [E.out]
    by_cases c0 : c < 0
    · clear x i ft hd hdl hl hk hb5 hb6 hg hx hs5 h63 hN6 hout E
      go_enter Tryz.func13, Tryz.ntmps13
      go_upto_region 1 with (fail)
      rw [HS5.out] at *
      generalize ((w.alloc (.cells #[.int .i64 o.k, .int .i64 o.p, .int .i64 o.h, .int .i64 o.o, .int .i64 o.n, .slice D dl dc] 30)).alloc (.cells #[.int .i64 0, .int .i64 0, .int .i64 0, .slice none 0 0] 27)) = w0 at *
      generalize paint w.heap.size 0 col = c0 at *
      have HWL := HW
      have HXL := HX
      have HBL := Lib.hid (And.intro HB.out HC.out)
      go_wp2_with (first
        | (go_at_call 39; (with_reducible refine (code_any _ _).mono ?_); rintro e wz ⟨rfl, hg⟩; have HG := Lib.hid hg; have HWZ := Lib.hid (HWL.out.trans (Went.grow hg)); have HXZ := Lib.hid (HXL.out.grow hg); have HBZ := Lib.hid (Went.blk (Went.grow hg) HBL.out.1 HBL.out.2); clear hg)
        | (refine wpList_store_row rfl 27 _ _ rfl (w.heap.size + 1) #[.int .i64 1, .int .i64 0, .int .i64 0, .slice none 0 0] rfl rfl _ _ HBZ.out.1 MdC.res_size rfl (by simp [Value.oneCell']) ?_))
      obtain ⟨f1, f2⟩ := fin_r HWZ.out HXZ.out HBZ.out.1 HBZ.out.2 (Nat.le_succ _) (resv_none _ (w.heap.size + 1 + 1) _ 1 0 0) (Nat.lt_succ_self _)
      exact MdC.ret_res (g := w.heap.size + 1) rfl rfl f1 rfl f2
    · have c1 : (p.X.N : Int) ≤ c := by omega
      clear x i ft hd hdl hl hk hb5 hb6 hg hx hs5 h63 hN6 hout E
      go_enter Tryz.func13, Tryz.ntmps13
      go_upto_region 1 with (fail)
      rw [HS5.out] at *
      generalize ((w.alloc (.cells #[.int .i64 o.k, .int .i64 o.p, .int .i64 o.h, .int .i64 o.o, .int .i64 o.n, .slice D dl dc] 30)).alloc (.cells #[.int .i64 0, .int .i64 0, .int .i64 0, .slice none 0 0] 27)) = w0 at *
      generalize paint w.heap.size 0 col = c0 at *
      have HWL := HW
      have HXL := HX
      have HBL := Lib.hid (And.intro HB.out HC.out)
      go_wp2_with (first
        | (go_at_call 39; (with_reducible refine (code_any _ _).mono ?_); rintro e wz ⟨rfl, hg⟩; have HG := Lib.hid hg; have HWZ := Lib.hid (HWL.out.trans (Went.grow hg)); have HXZ := Lib.hid (HXL.out.grow hg); have HBZ := Lib.hid (Went.blk (Went.grow hg) HBL.out.1 HBL.out.2); clear hg)
        | (refine wpList_store_row rfl 27 _ _ rfl (w.heap.size + 1) #[.int .i64 1, .int .i64 0, .int .i64 0, .slice none 0 0] rfl rfl _ _ HBZ.out.1 MdC.res_size rfl (by simp [Value.oneCell']) ?_))
      obtain ⟨f1, f2⟩ := fin_r HWZ.out HXZ.out HBZ.out.1 HBZ.out.2 (Nat.le_succ _) (resv_none _ (w.heap.size + 1 + 1) _ 1 0 0) (Nat.lt_succ_self _)
      exact MdC.ret_res (g := w.heap.size + 1) rfl rfl f1 rfl f2
  · have hcc : 0 ≤ c ∧ c < (p.X.N : Int) := by omega
    obtain ⟨cn, rfl⟩ := Int.eq_ofNat_of_zero_le hcc.1
    have hcn : cn < p.X.N := by omega
    have hcz : (cn : Int) < (p.X.N : Int) := hcc.2
    by_cases hwild : o.k < 1 ∨ 8 < o.k
    · have E := Lib.hid (run_wild (p := p) (c := (cn : Int)) (o := o) (.inr hwild))
      unfold RunPost
      rw [E.out]
      have k1 : (o.k == 1) = false := by simp; omega
      have k2 : (o.k == 2) = false := by simp; omega
      have k3 : (o.k == 3) = false := by simp; omega
      have k4 : (o.k == 4) = false := by simp; omega
      have k5 : (o.k == 5) = false := by simp; omega
      have k6 : (o.k == 6) = false := by simp; omega
      have k7 : (o.k == 7) = false := by simp; omega
      have k8 : (o.k == 8) = false := by simp; omega
      clear x i ft hd hdl hl hk hb5 hb6 hg hx hs5 h63 hN6 hout E hwild hcc hcn
      generalize o.k = ok at *
      go_enter Tryz.func13, Tryz.ntmps13
      go_upto_region 1 with (fail)
      rw [HS5.out] at *
      generalize ((w.alloc (.cells #[.int .i64 o.k, .int .i64 o.p, .int .i64 o.h, .int .i64 o.o, .int .i64 o.n, .slice D dl dc] 30)).alloc (.cells #[.int .i64 0, .int .i64 0, .int .i64 0, .slice none 0 0] 27)) = w0 at *
      generalize paint w.heap.size 0 col = c0 at *
      have HWL := HW
      have HXL := HX
      have HBL := Lib.hid (And.intro HB.out HC.out)
      go_wp2_with (first
        | (go_at_call 39; (with_reducible refine (code_any _ _).mono ?_); rintro e wz ⟨rfl, hg⟩; have HG := Lib.hid hg; have HWZ := Lib.hid (HWL.out.trans (Went.grow hg)); have HXZ := Lib.hid (HXL.out.grow hg); have HBZ := Lib.hid (Went.blk (Went.grow hg) HBL.out.1 HBL.out.2); clear hg)
        | (refine wpList_store_row rfl 27 _ _ rfl (w.heap.size + 1) #[.int .i64 1, .int .i64 0, .int .i64 0, .slice none 0 0] rfl rfl _ _ HBZ.out.1 MdC.res_size rfl (by simp [Value.oneCell']) ?_))
      obtain ⟨f1, f2⟩ := fin_r HWZ.out HXZ.out HBZ.out.1 HBZ.out.2 (Nat.le_succ _) (resv_none _ (w.heap.size + 1 + 1) _ 1 0 0) (Nat.lt_succ_self _)
      exact MdC.ret_res (g := w.heap.size + 1) rfl rfl f1 rfl f2
    · have hk18 : o.k = 1 ∨ o.k = 2 ∨ o.k = 3 ∨ o.k = 4 ∨ o.k = 5 ∨ o.k = 6 ∨ o.k = 7 ∨ o.k = 8 := by omega
      have hd0 : Sl ((w.alloc (.cells #[.int .i64 o.k, .int .i64 o.p, .int .i64 o.h, .int .i64 o.o, .int .i64 o.n, .slice D dl dc] 30)).alloc (.cells #[.int .i64 0, .int .i64 0, .int .i64 0, .slice none 0 0] 27)) ((w.alloc (.cells #[.int .i64 o.k, .int .i64 o.p, .int .i64 o.h, .int .i64 o.o, .int .i64 o.n, .slice D dl dc] 30)).alloc (.cells #[.int .i64 0, .int .i64 0, .int .i64 0, .slice none 0 0] 27)).heap.size .u8 D dl o.d := (Sl.kept hd hg (Nat.le_refl _) fun _ _ e => e).more hg.size
      rcases hk18 with hko | hko | hko | hko | hko | hko | hko | hko
      · have HCA := Lib.hid (create_any hx i ft hcn hko hl hk)
        unfold RunPost at HCA ⊢
        have HKO := Lib.hid hko
        clear x i ft hd hdl hl hk hb5 hb6 hg hx hs5 h63 hN6 hout hwild hcc hcn hko hd0
        generalize p.run (cn : Int) o = y at *
        go_enter Tryz.func13, Tryz.ntmps13
        go_upto_region 1 with (fail)
        rw [HS5.out] at *
        generalize ((w.alloc (.cells #[.int .i64 o.k, .int .i64 o.p, .int .i64 o.h, .int .i64 o.o, .int .i64 o.n, .slice D dl dc] 30)).alloc (.cells #[.int .i64 0, .int .i64 0, .int .i64 0, .slice none 0 0] 27)) = w0 at *
        generalize paint w.heap.size 0 col = c0 at *
        rw [HKO.out] at o0
        go_wp2_with (first
          | (go_at_call 40; (with_reducible refine HCA.out.mono ?_); rintro e w5 ⟨rv, c5, rfl, hv, hw5, hm5⟩; obtain ⟨A5, n5, k5, rfl, hv2⟩ := hv; have HV5 : Hid (ResV w5 _ c5 _ _) := ⟨A5, n5, k5, rfl, hv2⟩; have HW5 := Lib.hid (HW.out.trans hw5); have HX5 := Lib.hid hm5; have HB5 := Lib.hid (Went.blk hw5 HB.out HC.out); clear hv2 hw5 hm5)
          | (refine wpList_store_row rfl 27 _ _ rfl (w.heap.size + 1) #[.int .i64 y.1.c, .int .i64 y.1.p, .int .i64 y.1.h, .slice A5 n5 k5] rfl rfl _ _ HB5.out.1 MdC.res_size rfl (by simp [Value.oneCell']) ?_))
        obtain ⟨f1, f2⟩ := fin_r HW5.out HX5.out HB5.out.1 HB5.out.2 (Nat.le_succ _) HV5.out HLT.out
        exact MdC.ret_res (g := w.heap.size + 1) rfl rfl f1 rfl f2
      · have HCA := Lib.hid (fetch_any hx i ft hcn hko hl hk)
        unfold RunPost at HCA ⊢
        have HKO := Lib.hid hko
        clear x i ft hd hdl hl hk hb5 hb6 hg hx hs5 h63 hN6 hout hwild hcc hcn hko hd0
        generalize p.run (cn : Int) o = y at *
        go_enter Tryz.func13, Tryz.ntmps13
        go_upto_region 1 with (fail)
        rw [HS5.out] at *
        generalize ((w.alloc (.cells #[.int .i64 o.k, .int .i64 o.p, .int .i64 o.h, .int .i64 o.o, .int .i64 o.n, .slice D dl dc] 30)).alloc (.cells #[.int .i64 0, .int .i64 0, .int .i64 0, .slice none 0 0] 27)) = w0 at *
        generalize paint w.heap.size 0 col = c0 at *
        rw [HKO.out] at o0
        go_wp2_with (first
          | (go_at_call 41; (with_reducible refine HCA.out.mono ?_); rintro e w5 ⟨rv, c5, rfl, hv, hw5, hm5⟩; obtain ⟨A5, n5, k5, rfl, hv2⟩ := hv; have HV5 : Hid (ResV w5 _ c5 _ _) := ⟨A5, n5, k5, rfl, hv2⟩; have HW5 := Lib.hid (HW.out.trans hw5); have HX5 := Lib.hid hm5; have HB5 := Lib.hid (Went.blk hw5 HB.out HC.out); clear hv2 hw5 hm5)
          | (refine wpList_store_row rfl 27 _ _ rfl (w.heap.size + 1) #[.int .i64 y.1.c, .int .i64 y.1.p, .int .i64 y.1.h, .slice A5 n5 k5] rfl rfl _ _ HB5.out.1 MdC.res_size rfl (by simp [Value.oneCell']) ?_))
        obtain ⟨f1, f2⟩ := fin_r HW5.out HX5.out HB5.out.1 HB5.out.2 (Nat.le_succ _) HV5.out HLT.out
        exact MdC.ret_res (g := w.heap.size + 1) rfl rfl f1 rfl f2
      · have HCA := Lib.hid (read_any (D := D) (dl := dl) (dc := dc) hx i ft hcn hko h63)
        unfold RunPost at HCA ⊢
        have HKO := Lib.hid hko
        clear x i ft hd hdl hl hk hb5 hb6 hg hx hs5 h63 hN6 hout hwild hcc hcn hko hd0
        generalize p.run (cn : Int) o = y at *
        go_enter Tryz.func13, Tryz.ntmps13
        go_upto_region 1 with (fail)
        rw [HS5.out] at *
        generalize ((w.alloc (.cells #[.int .i64 o.k, .int .i64 o.p, .int .i64 o.h, .int .i64 o.o, .int .i64 o.n, .slice D dl dc] 30)).alloc (.cells #[.int .i64 0, .int .i64 0, .int .i64 0, .slice none 0 0] 27)) = w0 at *
        generalize paint w.heap.size 0 col = c0 at *
        rw [HKO.out] at o0 HCA
        go_wp2_with (first
          | (go_at_call 42; (with_reducible refine HCA.out.mono ?_); rintro e w5 ⟨rv, c5, rfl, hv, hw5, hm5⟩; obtain ⟨A5, n5, k5, rfl, hv2⟩ := hv; have HV5 : Hid (ResV w5 _ c5 _ _) := ⟨A5, n5, k5, rfl, hv2⟩; have HW5 := Lib.hid (HW.out.trans hw5); have HX5 := Lib.hid hm5; have HB5 := Lib.hid (Went.blk hw5 HB.out HC.out); clear hv2 hw5 hm5)
          | (refine wpList_store_row rfl 27 _ _ rfl (w.heap.size + 1) #[.int .i64 y.1.c, .int .i64 y.1.p, .int .i64 y.1.h, .slice A5 n5 k5] rfl rfl _ _ HB5.out.1 MdC.res_size rfl (by simp [Value.oneCell']) ?_))
        obtain ⟨f1, f2⟩ := fin_r HW5.out HX5.out HB5.out.1 HB5.out.2 (Nat.le_succ _) HV5.out HLT.out
        exact MdC.ret_res (g := w.heap.size + 1) rfl rfl f1 rfl f2
      · have HCA := Lib.hid (write_any (dc := dc) hx i ft hcn hko hd0 hdl)
        have HRC := Lib.hid (run_code (p := p) (c := (cn : Int)) (o := o) (by omega))
        unfold CodePost at HCA
        unfold RunPost
        have HKO := Lib.hid hko
        clear x i ft hd hdl hl hk hb5 hb6 hg hx hs5 h63 hN6 hout hwild hcc hcn hko hd0
        generalize p.run (cn : Int) o = y at *
        go_enter Tryz.func13, Tryz.ntmps13
        go_upto_region 1 with (fail)
        rw [HS5.out] at *
        generalize ((w.alloc (.cells #[.int .i64 o.k, .int .i64 o.p, .int .i64 o.h, .int .i64 o.o, .int .i64 o.n, .slice D dl dc] 30)).alloc (.cells #[.int .i64 0, .int .i64 0, .int .i64 0, .slice none 0 0] 27)) = w0 at *
        generalize paint w.heap.size 0 col = c0 at *
        rw [HKO.out] at o0 HCA
        go_wp2_with (first
          | (go_at_call 43; (with_reducible refine HCA.out.mono ?_); rintro e w2 ⟨rfl, c2', hw2, hm2⟩; have HWL := Lib.hid (HW.out.trans hw2); have HBL := Lib.hid (Went.blk hw2 HB.out HC.out); have HXL := Lib.hid hm2; clear hw2 hm2)
          | (go_at_call 39; (with_reducible refine (code_any _ _).mono ?_); rintro e wz ⟨rfl, hg⟩; have HG := Lib.hid hg; have HWZ := Lib.hid (HWL.out.trans (Went.grow hg)); have HXZ := Lib.hid (HXL.out.grow hg); have HBZ := Lib.hid (Went.blk (Went.grow hg) HBL.out.1 HBL.out.2); clear hg)
          | (refine wpList_store_row rfl 27 _ _ rfl (w.heap.size + 1) #[.int .i64 y.1.c, .int .i64 0, .int .i64 0, .slice none 0 0] rfl rfl _ _ HBZ.out.1 MdC.res_size rfl (by simp [Value.oneCell']) ?_))
        obtain ⟨f1, f2⟩ := fin_r HWZ.out HXZ.out HBZ.out.1 HBZ.out.2 (Nat.le_succ _) (resv_none _ (w.heap.size + 1 + 1) _ y.1.c 0 0) (Nat.lt_succ_self _)
        rw [HRC.out]
        exact MdC.ret_res (g := w.heap.size + 1) rfl rfl f1 rfl f2
      · have HCA := Lib.hid (unpin_any hx i hcn hko)
        have HRC := Lib.hid (run_code (p := p) (c := (cn : Int)) (o := o) (by omega))
        unfold CodePost at HCA
        unfold RunPost
        have HKO := Lib.hid hko
        clear x i ft hd hdl hl hk hb5 hb6 hg hx hs5 h63 hN6 hout hwild hcc hcn hko hd0
        generalize p.run (cn : Int) o = y at *
        go_enter Tryz.func13, Tryz.ntmps13
        go_upto_region 1 with (fail)
        rw [HS5.out] at *
        generalize ((w.alloc (.cells #[.int .i64 o.k, .int .i64 o.p, .int .i64 o.h, .int .i64 o.o, .int .i64 o.n, .slice D dl dc] 30)).alloc (.cells #[.int .i64 0, .int .i64 0, .int .i64 0, .slice none 0 0] 27)) = w0 at *
        generalize paint w.heap.size 0 col = c0 at *
        rw [HKO.out] at o0
        go_wp2_with (first
          | (go_at_call 44; (with_reducible refine HCA.out.mono ?_); rintro e w2 ⟨rfl, c2', hw2, hm2⟩; have HWL := Lib.hid (HW.out.trans hw2); have HBL := Lib.hid (Went.blk hw2 HB.out HC.out); have HXL := Lib.hid hm2; clear hw2 hm2)
          | (go_at_call 39; (with_reducible refine (code_any _ _).mono ?_); rintro e wz ⟨rfl, hg⟩; have HG := Lib.hid hg; have HWZ := Lib.hid (HWL.out.trans (Went.grow hg)); have HXZ := Lib.hid (HXL.out.grow hg); have HBZ := Lib.hid (Went.blk (Went.grow hg) HBL.out.1 HBL.out.2); clear hg)
          | (refine wpList_store_row rfl 27 _ _ rfl (w.heap.size + 1) #[.int .i64 y.1.c, .int .i64 0, .int .i64 0, .slice none 0 0] rfl rfl _ _ HBZ.out.1 MdC.res_size rfl (by simp [Value.oneCell']) ?_))
        obtain ⟨f1, f2⟩ := fin_r HWZ.out HXZ.out HBZ.out.1 HBZ.out.2 (Nat.le_succ _) (resv_none _ (w.heap.size + 1 + 1) _ y.1.c 0 0) (Nat.lt_succ_self _)
        rw [HRC.out]
        exact MdC.ret_res (g := w.heap.size + 1) rfl rfl f1 rfl f2
      · have HCA := Lib.hid (flush_any hx i ft hcn hko hl hk)
        have HRC := Lib.hid (run_code (p := p) (c := (cn : Int)) (o := o) (by omega))
        unfold CodePost at HCA
        unfold RunPost
        have HKO := Lib.hid hko
        clear x i ft hd hdl hl hk hb5 hb6 hg hx hs5 h63 hN6 hout hwild hcc hcn hko hd0
        generalize p.run (cn : Int) o = y at *
        go_enter Tryz.func13, Tryz.ntmps13
        go_upto_region 1 with (fail)
        rw [HS5.out] at *
        generalize ((w.alloc (.cells #[.int .i64 o.k, .int .i64 o.p, .int .i64 o.h, .int .i64 o.o, .int .i64 o.n, .slice D dl dc] 30)).alloc (.cells #[.int .i64 0, .int .i64 0, .int .i64 0, .slice none 0 0] 27)) = w0 at *
        generalize paint w.heap.size 0 col = c0 at *
        rw [HKO.out] at o0
        go_wp2_with (first
          | (go_at_call 45; (with_reducible refine HCA.out.mono ?_); rintro e w2 ⟨rfl, c2', hw2, hm2⟩; have HWL := Lib.hid (HW.out.trans hw2); have HBL := Lib.hid (Went.blk hw2 HB.out HC.out); have HXL := Lib.hid hm2; clear hw2 hm2)
          | (go_at_call 39; (with_reducible refine (code_any _ _).mono ?_); rintro e wz ⟨rfl, hg⟩; have HG := Lib.hid hg; have HWZ := Lib.hid (HWL.out.trans (Went.grow hg)); have HXZ := Lib.hid (HXL.out.grow hg); have HBZ := Lib.hid (Went.blk (Went.grow hg) HBL.out.1 HBL.out.2); clear hg)
          | (refine wpList_store_row rfl 27 _ _ rfl (w.heap.size + 1) #[.int .i64 y.1.c, .int .i64 0, .int .i64 0, .slice none 0 0] rfl rfl _ _ HBZ.out.1 MdC.res_size rfl (by simp [Value.oneCell']) ?_))
        obtain ⟨f1, f2⟩ := fin_r HWZ.out HXZ.out HBZ.out.1 HBZ.out.2 (Nat.le_succ _) (resv_none _ (w.heap.size + 1 + 1) _ y.1.c 0 0) (Nat.lt_succ_self _)
        rw [HRC.out]
        exact MdC.ret_res (g := w.heap.size + 1) rfl rfl f1 rfl f2
      · have HCA := Lib.hid (flushAll_any hx i hcn hko hl hk)
        have HRC := Lib.hid (run_code (p := p) (c := (cn : Int)) (o := o) (by omega))
        unfold CodePost at HCA
        unfold RunPost
        have HKO := Lib.hid hko
        clear x i ft hd hdl hl hk hb5 hb6 hg hx hs5 h63 hN6 hout hwild hcc hcn hko hd0
        generalize p.run (cn : Int) o = y at *
        go_enter Tryz.func13, Tryz.ntmps13
        go_upto_region 1 with (fail)
        rw [HS5.out] at *
        generalize ((w.alloc (.cells #[.int .i64 o.k, .int .i64 o.p, .int .i64 o.h, .int .i64 o.o, .int .i64 o.n, .slice D dl dc] 30)).alloc (.cells #[.int .i64 0, .int .i64 0, .int .i64 0, .slice none 0 0] 27)) = w0 at *
        generalize paint w.heap.size 0 col = c0 at *
        rw [HKO.out] at o0
        go_wp2_with (first
          | (go_at_call 46; (with_reducible refine HCA.out.mono ?_); rintro e w2 ⟨rfl, c2', hw2, hm2⟩; have HWL := Lib.hid (HW.out.trans hw2); have HBL := Lib.hid (Went.blk hw2 HB.out HC.out); have HXL := Lib.hid hm2; clear hw2 hm2)
          | (go_at_call 39; (with_reducible refine (code_any _ _).mono ?_); rintro e wz ⟨rfl, hg⟩; have HG := Lib.hid hg; have HWZ := Lib.hid (HWL.out.trans (Went.grow hg)); have HXZ := Lib.hid (HXL.out.grow hg); have HBZ := Lib.hid (Went.blk (Went.grow hg) HBL.out.1 HBL.out.2); clear hg)
          | (refine wpList_store_row rfl 27 _ _ rfl (w.heap.size + 1) #[.int .i64 y.1.c, .int .i64 0, .int .i64 0, .slice none 0 0] rfl rfl _ _ HBZ.out.1 MdC.res_size rfl (by simp [Value.oneCell']) ?_))
        obtain ⟨f1, f2⟩ := fin_r HWZ.out HXZ.out HBZ.out.1 HBZ.out.2 (Nat.le_succ _) (resv_none _ (w.heap.size + 1 + 1) _ y.1.c 0 0) (Nat.lt_succ_self _)
        rw [HRC.out]
        exact MdC.ret_res (g := w.heap.size + 1) rfl rfl f1 rfl f2
      · have HCA := Lib.hid (remove_any hx i ft hcn hko)
        have HRC := Lib.hid (run_code (p := p) (c := (cn : Int)) (o := o) (by omega))
        unfold CodePost at HCA
        unfold RunPost
        have HKO := Lib.hid hko
        clear x i ft hd hdl hl hk hb5 hb6 hg hx hs5 h63 hN6 hout hwild hcc hcn hko hd0
        generalize p.run (cn : Int) o = y at *
        go_enter Tryz.func13, Tryz.ntmps13
        go_upto_region 1 with (fail)
        rw [HS5.out] at *
        generalize ((w.alloc (.cells #[.int .i64 o.k, .int .i64 o.p, .int .i64 o.h, .int .i64 o.o, .int .i64 o.n, .slice D dl dc] 30)).alloc (.cells #[.int .i64 0, .int .i64 0, .int .i64 0, .slice none 0 0] 27)) = w0 at *
        generalize paint w.heap.size 0 col = c0 at *
        rw [HKO.out] at o0
        go_wp2_with (first
          | (go_at_call 47; (with_reducible refine HCA.out.mono ?_); rintro e w2 ⟨rfl, c2', hw2, hm2⟩; have HWL := Lib.hid (HW.out.trans hw2); have HBL := Lib.hid (Went.blk hw2 HB.out HC.out); have HXL := Lib.hid hm2; clear hw2 hm2)
          | (go_at_call 39; (with_reducible refine (code_any _ _).mono ?_); rintro e wz ⟨rfl, hg⟩; have HG := Lib.hid hg; have HWZ := Lib.hid (HWL.out.trans (Went.grow hg)); have HXZ := Lib.hid (HXL.out.grow hg); have HBZ := Lib.hid (Went.blk (Went.grow hg) HBL.out.1 HBL.out.2); clear hg)
          | (refine wpList_store_row rfl 27 _ _ rfl (w.heap.size + 1) #[.int .i64 y.1.c, .int .i64 0, .int .i64 0, .slice none 0 0] rfl rfl _ _ HBZ.out.1 MdC.res_size rfl (by simp [Value.oneCell']) ?_))
        obtain ⟨f1, f2⟩ := fin_r HWZ.out HXZ.out HBZ.out.1 HBZ.out.2 (Nat.le_succ _) (resv_none _ (w.heap.size + 1 + 1) _ y.1.c 0 0) (Nat.lt_succ_self _)
        rw [HRC.out]
        exact MdC.ret_res (g := w.heap.size + 1) rfl rfl f1 rfl f2
end
end Go.Proofs.YtbnkpnllgoghnaaGreat.RgK

namespace Go.Proofs.YtbnkpnllgoghnaaGreat.ArA
open Go.ChangeShapes Go.WideShapes Go.ChangeAt Go.RowKit
open Go.Proofs.YtbnkpnllgoghnaaGreat.Mem Go.Proofs.YtbnkpnllgoghnaaGreat.Blk Go.Proofs.YtbnkpnllgoghnaaGreat.Cells Go.Proofs.YtbnkpnllgoghnaaGreat.Orow Go.Proofs.YtbnkpnllgoghnaaGreat.GsC Go.Proofs.YtbnkpnllgoghnaaGreat.TabM Go.Proofs.YtbnkpnllgoghnaaGreat.ArM Go.Proofs.YtbnkpnllgoghnaaGreat.ArC Go.Proofs.YtbnkpnllgoghnaaGreat.ArD Go.Proofs.YtbnkpnllgoghnaaGreat.ArB Go.Proofs.YtbnkpnllgoghnaaGreat.ArR Go.Proofs.YtbnkpnllgoghnaaGreat.Stages
section
variable {w w' : World} {G H F : Nat → Prop} {d g cap dl Dl dt Dt : Nat} {T : Tb} {a : Ar}
theorem spare_none (h : Nil w G d a) : Calls Tryz.prog 140 #[.pointer (some ⟨d, 0, none⟩)] w fun e w' => e = .returned (.int .i64 0) ∧ w = w' := by
  have c0 := h.h0
  clear h
  go_enter Tryz.func140, Tryz.ntmps140
  go_wp2
  go_step3
  go_wp2
  go_step3
  go_wp2
  go_loopg [3] 1 (fun gx i wr => i = .int .i64 0 ∧ w = wr)
  case atStart => exact ⟨rfl, rfl⟩
  case round =>
    obtain ⟨rfl, rfl⟩ := hrel
    go_wp2
    try rw [Exit.noGoto_ret]
    go_ret
    exact ⟨rfl, rfl⟩
theorem spare_big (h : Big w G d g cap dl Dl dt Dt T a) (hn : a.n ≤ 32) : Calls Tryz.prog 140 #[.pointer (some ⟨d, 0, none⟩)] w fun e w' => e = .returned (.int .i64 (a.spare : Int)) ∧ w = w' := by
  have H := Lib.hid h
  have hnz : (a.n : Int) ≤ 32 := by omega
  clear h
  go_enter Tryz.func140, Tryz.ntmps140
  go_wp2
  go_step3
  go_wp2
  go_step3
  go_wp2
  go_loopg [3] a.n (fun gx i wr => ∃ j : Nat, j + gx = a.n ∧ i = .int .i64 (j : Int) ∧ (∀ k, k < j → isG a k = false) ∧ w = wr)
  case atStart => exact ⟨0, by omega, rfl, fun k hk => absurd hk (by omega), rfl⟩
  case round =>
    obtain ⟨j, hg, rfl, hno, rfl⟩ := hrel
    have HG := Lib.hid hg
    have HNO := Lib.hid hno
    clear hg hno
    have c0 := H.out.h0
    by_cases hj : j < a.n
    · have hjz : (j : Int) < (a.n : Int) := by omega
      have f0 := H.out.fr.c0 hj
      by_cases h4 : (a.F j).st = 4
      · have HE : Hid (a.spare = j) := least_eq hj (decide_eq_true h4) HNO.out
        rw [h4] at f0
        go_wp2
        try rw [Exit.noGoto_ret]
        go_ret
        exact ⟨by rw [HE.out]; rfl, rfl⟩
      · have HE : Hid (isG a j = false) := decide_eq_false h4
        have h4' : ((a.F j).st == 4) = false := beq_eq_false_iff_ne.2 h4
        generalize (a.F j).st = st at *
        go_wp2
        go_roundg (gk - 1)
        case measure => have := HG.out; omega
        case rel =>
          refine ⟨j + 1, by have := HG.out; omega, by go_num, fun k hk => ?_, rfl⟩
          by_cases e : k = j
          · subst e; exact HE.out
          · exact HNO.out k (by omega)
    · obtain rfl : j = a.n := by have := HG.out; omega
      have HE : Hid (a.spare = a.n) := least_all HNO.out
      go_wp2
      try rw [Exit.noGoto_ret]
      go_ret
      exact ⟨by rw [HE.out]; rfl, rfl⟩
theorem addF_n (a : Ar) (v : Fr) : (⟨a.n + 1, upd a.F a.n v, a.B, a.Q⟩ : Ar).dropF a.n = a.addF a.n := by
  unfold Ar.dropF Ar.addF
  rw [if_neg (by omega)]
  congr 1
  funext x
  unfold upd
  dsimp only
  split <;> rfl
theorem joined_frame (F : Nat → Fr) (n : Nat) (i : Nat) (hi : i < (n + 1) * 5) : joined (fcell F) (fcell fun _ => ⟨0, 0, 0, false⟩) (n * 5) i = fcell (upd F n ⟨0, 0, 0, false⟩) i := by
  unfold joined
  by_cases e : i < n * 5
  · rw [if_pos e]
    unfold fcell
    rw [upd_other _ _ (by omega)]
  · rw [if_neg e]
    unfold fcell
    rw [show i / 5 = n by omega, upd_same, show (i - n * 5) % 5 = i % 5 by omega]
/-- The block of a frame that is appended. -/
def zfr (w : World) : World := w.alloc (.cells #[.int .i64 0, .int .i64 0, .int .i64 0, .int .i64 0, .bool false] 36)
/-- One frame more in the frames' row. -/
theorem more_frame {n : Nat} {F : Nat → Fr} {v : Value} (h : OS w G v 36 5 n (fcell F)) (hn : n ≤ 1000) :
    ∃ g cap w', (∀ ty, (Builtin.append_ #[31, 31] ty #[v, .slice (some ⟨w.heap.size, 0, none⟩) 1 1]).run Tryz.prog (zfr w) = .ok (.slice (some ⟨g, 0, none⟩) (n + 1) cap) w') ∧ FR w' g cap (n + 1) (upd F n ⟨0, 0, 0, false⟩) ∧ Kept (fun k => v.ownBlock = some k) w w' ∧ (v.ownBlock = some g ∨ w.heap.size ≤ g) := by
  obtain ⟨i0, hi, hz0, hz1, hz2⟩ := info_parts infoFr
  have hb := Blk.new w 36 [.int .i64 0, .int .i64 0, .int .i64 0, .int .i64 0, .bool false]
  have hg : Grow w (zfr w) := (Kept.refl _ w).alloc _
  have key := fun ty => append_or (P := Tryz.prog) 31 ty i0 _ 40 Tryz.underlying31 hi hz0 hz1 hz2 rfl (by omega) (h.kept hg fun _ _ x => x) (by omega) (by omega) w.heap.size 1 (u := fcell fun _ => ⟨0, 0, 0, false⟩) (fun j hj => by
    refine (Blk.cell hb j).trans ?_
    have : j = 0 ∨ j = 1 ∨ j = 2 ∨ j = 3 ∨ j = 4 := by omega
    rcases this with rfl | rfl | rfl | rfl | rfl <;> rfl) (fun j _ => fcell_one _ j)
  obtain ⟨g, cap, w', h1, h2, h3, h4⟩ := key 0
  refine ⟨g, cap, w', fun ty => ?_, OR.congr h2 fun i hi => joined_frame F n i hi, hg.kept.trans h3, ?_⟩
  · obtain ⟨g', cap', w2, k1, _⟩ := key ty
    rw [← h1]
    rfl
  · rcases h4 with h4 | h4
    · exact .inl h4
    · exact .inr (by rw [h4]; exact hg.size)
theorem add_full (h : ArAt w G d a) (hs : ¬ a.spare < 32) : Calls Tryz.prog 87 #[.pointer (some ⟨d, 0, none⟩)] w fun e w' => e = .returned (.int .i64 (-1)) ∧ w = w' := by
  have hn := h.good.n
  have hsn := spare_le (a := a)
  have e : a.spare = 32 := by omega
  obtain ⟨g, cap, dl, Dl, dt, Dt, T, hb⟩ := ArAt.big h (by omega)
  have HS := Lib.hid (spare_big hb hn)
  rw [e] at HS
  simp only [Int.cast_ofNat_Int] at HS
  clear h hb hs hn hsn e
  go_enter Tryz.func87, Tryz.ntmps87
  go_wp2_with (go_at_call 140; (with_reducible refine HS.out.mono ?_); rintro e w' ⟨rfl, rfl⟩)
  go_ret
  exact ⟨rfl, rfl⟩
theorem add_old (h : ArAt w G d a) (hs : a.spare < a.n) : Calls Tryz.prog 87 #[.pointer (some ⟨d, 0, none⟩)] w (APost G d w (.int .i64 (a.spare : Int)) (a.addF a.spare)) := by
  have hn := h.good.n
  obtain ⟨g, cap, dl, Dl, dt, Dt, T, hb⟩ := ArAt.big h (by omega)
  have HS := Lib.hid (spare_big hb hn)
  have h4 := spare_gone hs
  have HR := Lib.hid (release_any hb.core hn a.spare hs (fun hm => by have := (h.good.q _).1 hm; omega))
  have HG := Lib.hid (h.good.addF (by omega))
  have HT : Hid (Tabs T (a.addF a.spare)) := hb.ts.addF (by omega) (fun _ => by omega)
  have HE := Lib.hid (addF_old hs)
  have HP : Hid (0 < (a.addF a.spare).n) := by show 0 < _; rw [addF_old hs]; exact hb.pos
  have c0 := hb.h0
  have c1 := hb.h1
  have hsz : (a.spare : Int) < (a.n : Int) := by omega
  have hnz : (a.n : Int) ≤ 32 := by omega
  have hse : ((a.spare : Int) == 32) = false := by rw [beq_eq_false_iff_ne]; omega
  have hse2 : ((a.spare : Int) == (a.n : Int)) = false := by rw [beq_eq_false_iff_ne]; omega
  clear h hb h4
  generalize a.spare = s at *
  go_enter Tryz.func87, Tryz.ntmps87
  go_wp2_with (first
    | (go_at_call 140; (with_reducible refine HS.out.mono ?_); rintro e w' ⟨rfl, rfl⟩)
    | (go_at_call 142; (with_reducible refine HR.out.mono ?_); rintro e w2 ⟨rfl, hc, hk⟩; have HC := Lib.hid hc; have HK := Lib.hid hk; clear hc hk))
  go_ret
  rw [HE.out] at HG HT HP ⊢
  exact ⟨rfl, ⟨HG.out, .inr ⟨_, _, _, _, _, _, _, HC.out.big HT.out HP.out⟩⟩, HK.out⟩
theorem add_new (h : ArAt w G d a) (hnew : ∀ k, w.heap.size ≤ k → G k) (h0 : 0 < a.n) (hs : a.spare = a.n) (h32 : a.n < 32) : Calls Tryz.prog 87 #[.pointer (some ⟨d, 0, none⟩)] w (APost G d w (.int .i64 (a.spare : Int)) (a.addF a.spare)) := by
  have hn := h.good.n
  obtain ⟨g, cap, dl, Dl, dt, Dt, T, hb⟩ := ArAt.big h h0
  have HS := Lib.hid (spare_big hb hn)
  have HG := Lib.hid (h.good.addF (by omega))
  have HT : Hid (Tabs T (a.addF a.spare)) := hb.ts.addF (by omega) (fun _ => by omega)
  have HP : Hid (0 < (a.addF a.spare).n) := by show 0 < _; rw [hs, addF_more]; exact Nat.succ_pos _
  rw [hs] at HS HG HT HP ⊢
  obtain ⟨g', cap', w1, hr, hf, hk, hg⟩ := more_frame (v := .slice (some ⟨g, 0, none⟩) a.n cap) (.inr ⟨g, cap, rfl, hb.fr, hb.inG.2.1⟩) (by omega)
  have HR := Lib.hid hr
  have hne := hb.ne
  have hd1 := hb.hd.kept hk (fun e => by injection e with e; exact hne.dg e.symm)
  have c0 := hb.h0
  have e0 : w1.cell? ⟨d, 0, none⟩ = some (.slice (some ⟨g, 0, none⟩) a.n cap) := hd1.cell (i := 0) (by omega)
  have fz := hd1.frozen 0
  have hnz : (a.n : Int) < 32 := by omega
  have hse : ((a.n : Int) == 32) = false := by rw [beq_eq_false_iff_ne]; omega
  have HC2 : Hid (Core (w1.setCell ⟨d, 0, none⟩ (.slice (some ⟨g', 0, none⟩) (a.n + 1) cap')) G d g' cap' dl Dl dt Dt T ⟨a.n + 1, upd a.F a.n ⟨0, 0, 0, false⟩, a.B, a.Q⟩) := by
    have hlt := hb.lt
    have hg' : (g = g' ∨ w.heap.size ≤ g') := hg.imp_left fun e => by injection e
    have hk2 := kept_set w1 d 0 (.slice (some ⟨g', 0, none⟩) (a.n + 1) cap')
    have hnd : d ≠ g' := by rcases hg' with e | e; exact e ▸ hne.dg; omega
    obtain ⟨i0, i1, i2, i3, i4, i5⟩ := hb.inG
    refine ⟨(hd1.set 0 _).congr fun i hi => ?_, OR.kept hf hk2 hnd.symm, (hb.li.kept hk fun k x y => ?_).kept hk2 fun k x y => ?_, TabC.Raw.kept (TabC.Raw.kept hb.ta hk fun k x y => ?_) hk2 fun k x y => ?_, ?_, ⟨i0, ?_, i2, i3, i4, i5⟩⟩
    · show (if i = 0 then _ else acell _ _ _ _ i) = acell _ _ _ _ i
      unfold acell
      by_cases e : i = 0
      · rw [if_pos e, if_pos e]
      · rw [if_neg e, if_neg e, if_neg e]
    · injection x with x
      subst x
      rcases y with y | y
      · exact hne.gdl y
      · exact hne.gDl y
    · subst x
      rcases y with y | y
      · exact hne.ddl y
      · exact hne.dDl y
    · injection x with x
      subst x
      rcases y with y | y
      · exact hne.gdt y
      · exact hne.gDt y
    · subst x
      rcases y with y | y
      · exact hne.ddt y
      · exact hne.dDt y
    · rcases hg' with e | e
      · subst e; exact hne
      · exact ⟨hnd, hne.ddl, hne.dDl, hne.ddt, hne.dDt, by omega, by omega, by omega, by omega, hne.ldt, hne.lDt, hne.Ldt, hne.LDt⟩
    · rcases hg' with e | e
      · subst e; exact i1
      · exact hnew _ e
  have HK2 : Hid (Kept G w (w1.setCell ⟨d, 0, none⟩ (.slice (some ⟨g', 0, none⟩) (a.n + 1) cap'))) := (hk.mono fun k _ e => by injection e with e; subst e; exact hb.inG.2.1).trans ((kept_set w1 d 0 _).mono fun k _ e => by subst e; exact hb.inG.1)
  have HQ : Hid (a.n ∉ a.Q) := fun hm => by have := (h.good.q _).1 hm; omega
  have HFN := Lib.hid (addF_n a ⟨0, 0, 0, false⟩)
  clear hr h hb hk hf hg hne hd1
  go_enter Tryz.func87, Tryz.ntmps87
  go_upto_region 8 with (first
    | (go_at_call 140; (with_reducible refine HS.out.mono ?_); rintro e w' ⟨rfl, rfl⟩)
    | (at_builtin; refine Lib.wpList_append_run _ rfl _ _ _ _ rfl _ _ rfl rfl _ _ (HR.out _) ?_))
  clear c0 e0 fz HR HS
  generalize w1.setCell ⟨d, 0, none⟩ (.slice (some ⟨g', 0, none⟩) (a.n + 1) cap') = w2 at HC2 HK2 ⊢
  have c1 := HC2.out.h1
  have HRE := Lib.hid (release_any HC2.out h32 a.n (Nat.lt_succ_self _) HQ.out)
  rw [HFN.out] at HRE
  go_wp2_with (go_at_call 142; (with_reducible refine HRE.out.mono ?_); rintro e w3 ⟨rfl, hc, hk⟩; have HC := Lib.hid hc; have HK := Lib.hid hk; clear hc hk)
  go_ret
  exact ⟨rfl, ⟨HG.out, .inr ⟨_, _, _, _, _, _, _, HC.out.big HT.out HP.out⟩⟩, HK2.out.trans HK.out⟩
theorem add_first (h : Nil w G d a) (hgd : ArM.Good a) (hnew : ∀ k, w.heap.size ≤ k → G k) : Calls Tryz.prog 87 #[.pointer (some ⟨d, 0, none⟩)] w (APost G d w (.int .i64 0) (a.addF 0)) := by
  have hz := h.zero
  have hq := hgd.empty hz
  have hsp : a.spare = 0 := by have := spare_le (a := a); omega
  have HS := Lib.hid (spare_none h)
  have HG := Lib.hid (hgd.addF (by omega))
  rw [hsp] at HG
  have HP : Hid (0 < (a.addF 0).n) := by show 0 < (if 0 < a.n then a.n else 0 + 1); rw [if_neg (by omega)]; omega
  have HT : Hid (Tabs (TabM.fresh 64) (a.addF 0)) := Tabs.none (by omega) fun x hx => by
    show (upd a.F 0 fFree x).st ≠ 1
    have hx : x < (if 0 < a.n then a.n else 0 + 1) := hx
    rw [if_neg (by omega)] at hx
    obtain rfl : x = 0 := by omega
    rw [upd_same]
    show (0 : Int) ≠ 1
    omega
  obtain ⟨g', cap', w1, hr, hf, hk, hg⟩ := more_frame (w := w) (G := G) (v := .slice none 0 0) (n := 0) (F := a.F) (.inl ⟨rfl, rfl⟩) (by omega)
  have HR := Lib.hid hr
  have hgr : Grow w w1 := hk.mono fun k _ e => by cases e
  have hg' : w.heap.size ≤ g' := by rcases hg with e | e; cases e; exact e
  have hd1 := h.hd.kept hgr (fun x => x)
  have c0 := h.h0
  have e0 : w1.cell? ⟨d, 0, none⟩ = some (.slice none 0 0) := hd1.cell (i := 0) (by omega)
  have fz := hd1.frozen 0
  have HD : Hid (Row (w1.setCell ⟨d, 0, none⟩ (.slice (some ⟨g', 0, none⟩) 1 cap')) d 515 (acell (.slice (some ⟨g', 0, none⟩) 1 cap') a.B (.pointer none) (.pointer none))) := (hd1.set 0 _).congr fun i hi => by
    show (if i = 0 then _ else acell _ _ _ _ i) = acell _ _ _ _ i
    unfold acell
    by_cases e : i = 0
    · rw [if_pos e, if_pos e]
    · rw [if_neg e, if_neg e, if_neg e]
  have hk2 := kept_set w1 d 0 (.slice (some ⟨g', 0, none⟩) 1 cap')
  have hlt := h.hd.lt
  have HF : Hid (FR (w1.setCell ⟨d, 0, none⟩ (.slice (some ⟨g', 0, none⟩) 1 cap')) g' cap' 1 (upd a.F 0 ⟨0, 0, 0, false⟩)) := OR.kept hf hk2 (by omega)
  have HK2 : Hid (Kept (· = d) w (w1.setCell ⟨d, 0, none⟩ (.slice (some ⟨g', 0, none⟩) 1 cap'))) := hgr.kept.trans hk2
  have HGD := Lib.hid h.inG
  clear hr h hk hf hg hd1 hgr hk2
  go_enter Tryz.func87, Tryz.ntmps87
  go_upto_region 8 with (first
    | (go_at_call 140; (with_reducible refine HS.out.mono ?_); rintro e w' ⟨rfl, rfl⟩)
    | (at_builtin; refine Lib.wpList_append_run _ rfl _ _ _ _ rfl _ _ rfl rfl _ _ (HR.out _) ?_))
  clear c0 e0 fz HR HS
  generalize w1.setCell ⟨d, 0, none⟩ (.slice (some ⟨g', 0, none⟩) 1 cap') = w2 at HD HF HK2 ⊢
  have c1 : w2.cell? ⟨d, 513, none⟩ = some (.pointer none) := HD.out.cell (i := 513) (by omega)
  have HL0 := Lib.hid (ListD.new_good (w := w2) 32 (by omega))
  have HT0 : Hid (∀ wx, Calls Tryz.prog 141 #[.int .i64 ((64 : Nat) : Int)] wx (TabO.NewPost 64 wx)) := fun wx => TabO.new_good 64 (by omega) (by omega)
  simp only [Int.cast_ofNat_Int] at HL0 HT0
  go_upto_region 10 with (first
    | (go_at_call 38; (with_reducible refine HL0.out.mono ?_); rintro e w3 ⟨dl, Dl, rfl, hl, b1, b2, hg⟩; have HL := Lib.hid hl; have HB1 := Lib.hid (And.intro b1 b2); have HG3 := Lib.hid hg; clear hl b1 b2 hg c1)
    | (go_at_call 141; (with_reducible refine (HT0.out _).mono ?_); rintro e w4 ⟨dt, Dt, rfl, ht, b1, b2, hg⟩; have HTA := Lib.hid ht; have HB2 := Lib.hid (And.intro b1 b2); have HG4 := Lib.hid hg; clear ht b1 b2 hg; have HD4 := Lib.hid ((HD.out.kept HG3.out (fun x => x)).kept HG4.out (fun x => x)); have c2 : w4.cell? ⟨d, 513, none⟩ = some (.pointer none) := HD4.out.cell (i := 513) (by omega); have c3 : w4.cell? ⟨d, 514, none⟩ = some (.pointer none) := HD4.out.cell (i := 514) (by omega); have fz := HD4.out.frozen))
  have HC5 : Hid (Core ((w4.setCell ⟨d, 513, none⟩ (.pointer (some ⟨dl, 0, none⟩))).setCell ⟨d, 514, none⟩ (.pointer (some ⟨dt, 0, none⟩))) G d g' cap' dl Dl dt Dt (TabM.fresh 64) ⟨0 + 1, upd a.F 0 ⟨0, 0, 0, false⟩, a.B, []⟩) := by
    have l1 := HF.out.lt
    have l2 := HD.out.lt
    have l3 := HL.out.lt
    obtain ⟨l4, l5⟩ := TabC.Raw.lt HTA.out
    obtain ⟨b1, b2⟩ := HB1.out
    obtain ⟨b3, b4⟩ := HB2.out
    have z1 := HG3.out.size
    have z2 := HG4.out.size
    have z0 := HK2.out.size
    have k5 : Kept (· = d) w4 ((w4.setCell ⟨d, 513, none⟩ (.pointer (some ⟨dl, 0, none⟩))).setCell ⟨d, 514, none⟩ (.pointer (some ⟨dt, 0, none⟩))) := (kept_set _ _ _ _).trans (kept_set _ _ _ _)
    refine ⟨((HD4.out.set 513 _).set 514 _).congr fun i hi => ?_, OR.kept ((HF.out.grow HG3.out).grow HG4.out) k5 (by omega), (HL.out.grow HG4.out).kept k5 fun k x y => ?_, TabC.Raw.kept HTA.out k5 fun k x y => ?_, ⟨by omega, by omega, by omega, by omega, by omega, by omega, by omega, by omega, by omega, by omega, by omega, by omega, by omega⟩, ⟨HGD.out, hnew _ (by omega), hnew _ (by omega), hnew _ (by omega), hnew _ (by omega), hnew _ (by omega)⟩⟩
    · show (if i = 514 then _ else if i = 513 then _ else acell _ _ _ _ i) = acell _ _ _ _ i
      unfold acell
      by_cases e : i = 514
      · subst e; rfl
      · rw [if_neg e]
        by_cases e2 : i = 513
        · subst e2; rfl
        · rw [if_neg e2]
          by_cases e0 : i = 0
          · rw [if_pos e0, if_pos e0]
          · rw [if_neg e0, if_neg e0, if_pos (by omega), if_pos (by omega)]
    · subst x
      rcases y with y | y <;> omega
    · subst x
      rcases y with y | y <;> omega
  have HK5 : Hid (Kept (· = d) w ((w4.setCell ⟨d, 513, none⟩ (.pointer (some ⟨dl, 0, none⟩))).setCell ⟨d, 514, none⟩ (.pointer (some ⟨dt, 0, none⟩)))) := (((HK2.out.trans HG3.out.kept).trans HG4.out.kept).trans (kept_set _ _ _ _)).trans (kept_set _ _ _ _)
  clear c2 c3 fz HD4 HD HF HL HTA HT0 HL0
  generalize (w4.setCell ⟨d, 513, none⟩ (.pointer (some ⟨dl, 0, none⟩))).setCell ⟨d, 514, none⟩ (.pointer (some ⟨dt, 0, none⟩)) = w5 at HC5 HK5 ⊢
  have HFN : Hid ((⟨0 + 1, upd a.F 0 ⟨0, 0, 0, false⟩, a.B, []⟩ : Ar).dropF 0 = a.addF 0) := by
    have := addF_n a ⟨0, 0, 0, false⟩
    rw [hz, hq] at this
    exact this
  have HRE := Lib.hid (release_any HC5.out (by show 0 + 1 ≤ 32; omega) 0 (Nat.lt_succ_self _) (by simp))
  rw [HFN.out] at HRE
  simp only [Int.natCast_zero] at HRE
  go_wp2_with (go_at_call 142; (with_reducible refine HRE.out.mono ?_); rintro e w6 ⟨rfl, hc, hk⟩; have HC := Lib.hid hc; have HK := Lib.hid hk; clear hc hk)
  go_ret
  exact ⟨rfl, ⟨HG.out, .inr ⟨_, _, _, _, _, _, _, HC.out.big HT.out HP.out⟩⟩, (HK5.out.mono fun k _ e => by subst e; exact HGD.out).trans HK.out⟩
theorem add_any (h : ArAt w G d a) (hnew : ∀ k, w.heap.size ≤ k → G k) : Calls Tryz.prog 87 #[.pointer (some ⟨d, 0, none⟩)] w (APost G d w (.int .i64 a.addC) a.add) := by
  have hn := h.good.n
  have hle := spare_le (a := a)
  by_cases h32 : a.spare < 32
  · have e1 : a.addC = (a.spare : Int) := by unfold Ar.addC; rw [if_pos h32]
    have e2 : a.add = a.addF a.spare := by unfold Ar.add; rw [if_pos h32]
    rw [e1, e2]
    by_cases h1 : a.spare < a.n
    · exact add_old h h1
    · have hs : a.spare = a.n := by omega
      rcases h.mem with h' | ⟨g, cap, dl, Dl, dt, Dt, T, hb⟩
      · rw [hs, h'.zero]
        exact add_first h' h.good hnew
      · exact add_new h hnew hb.pos hs (by omega)
  · have e1 : a.addC = -1 := by unfold Ar.addC; rw [if_neg h32]
    have e2 : a.add = a := by unfold Ar.add; rw [if_neg h32]
    rw [e1, e2]
    exact (add_full h h32).mono fun e w' ⟨h1, h2⟩ => ⟨h1, h2 ▸ h, h2 ▸ Kept.refl _ _⟩
end
end Go.Proofs.YtbnkpnllgoghnaaGreat.ArA

namespace Go.Proofs.YtbnkpnllgoghnaaGreat.ArN
open Go.ChangeShapes Go.WideShapes Go.ChangeAt Go.RowKit
open Go.Proofs.YtbnkpnllgoghnaaGreat.Mem Go.Proofs.YtbnkpnllgoghnaaGreat.Blk Go.Proofs.YtbnkpnllgoghnaaGreat.Cells Go.Proofs.YtbnkpnllgoghnaaGreat.Orow Go.Proofs.YtbnkpnllgoghnaaGreat.GsC Go.Proofs.YtbnkpnllgoghnaaGreat.TabM Go.Proofs.YtbnkpnllgoghnaaGreat.ArM Go.Proofs.YtbnkpnllgoghnaaGreat.ArC Go.Proofs.YtbnkpnllgoghnaaGreat.ArD Go.Proofs.YtbnkpnllgoghnaaGreat.ArB Go.Proofs.YtbnkpnllgoghnaaGreat.ArA Go.Proofs.YtbnkpnllgoghnaaGreat.Stages
/-- The cells of an arena that nobody has touched. -/
def zcell : Nat → Value := acell (.slice none 0 0) (fun _ => zeros) (.pointer none) (.pointer none)
theorem zero_arena : (Tryz.prog.info? 126).map (fun i => i.zero) = some (some (.agg ((List.range 515).map zcell).toArray)) := by kernel_rfl
set_option maxRecDepth 100000 in
theorem run_zero : ∃ cs : Array Value, (∀ w, (zeroValue 126).run Tryz.prog w = .ok (.agg cs) w) ∧ cs.size = 515 ∧ ∀ i, i < 515 → cs[i]? = some (zcell i) := by
  have h := zero_arena
  refine ⟨((List.range 515).map zcell).toArray, fun w => ?_, by simp, fun i hi => by simp [hi]⟩
  generalize ((List.range 515).map zcell).toArray = cs at h ⊢
  cases e : Tryz.prog.info? 126 with
  | none => rw [e] at h; cases h
  | some i =>
    rw [e] at h
    injection h with h
    simp [zeroValue, typeInfo, e, h]
section
variable {w w' : World} {G H F : Nat → Prop} {d g cap dl Dl dt Dt : Nat} {T : Tb} {a : Ar}
theorem new_bad (k : Int) (hk : ¬ (0 ≤ k ∧ k ≤ 32)) : Calls Tryz.prog 36 #[.int .i64 k] w fun e w' => e = .returned (.pointer none) ∧ w = w' := by
  by_cases h0 : k < 0
  · clear hk
    go_enter Tryz.func36, Tryz.ntmps36
    go_wp2
    go_ret
    exact ⟨rfl, rfl⟩
  · have h1 : 32 < k := by omega
    clear hk
    go_enter Tryz.func36, Tryz.ntmps36
    go_wp2
    go_ret
    exact ⟨rfl, rfl⟩
/-- What New makes. -/
def NewPost (n : Nat) (w : World) (e : Ending) (w' : World) : Prop := e = .returned (.pointer (some ⟨w.heap.size, 0, none⟩)) ∧ ArAt w' (w.heap.size ≤ ·) w.heap.size (ArM.fresh n) ∧ Grow w w'
theorem new_good (n : Nat) (hn : n ≤ 32) : Calls Tryz.prog 36 #[.int .i64 (n : Int)] w (NewPost n w) := by
  have hnz : (n : Int) ≤ 32 := by omega
  obtain ⟨cs, hcs, hsz, hcell⟩ := run_zero
  have HCE := Lib.hid hcell
  have HSZ := Lib.hid hsz
  clear hsz hcell
  go_enter Tryz.func36, Tryz.ntmps36
  go_wp2
  have HA0 : Hid (ArAt (w.alloc (.cells cs 126)) (w.heap.size ≤ ·) w.heap.size (ArM.fresh 0)) := by
    refine ⟨good_fresh (by omega), .inl ⟨⟨cs, _, heap_alloc_new w _, by rw [HSZ.out]; omega, HCE.out⟩, Nat.le_refl _, rfl⟩⟩
  have HG0 : Hid (Grow w (w.alloc (.cells cs 126))) := (Kept.refl _ _).alloc _
  generalize w.alloc (.cells cs 126) = w1 at HA0 HG0 ⊢
  clear hcs HCE HSZ
  obtain ⟨B, hB⟩ : ∃ B, B = w.heap.size := ⟨_, rfl⟩
  have HB := Lib.hid hB
  unfold NewPost
  rw [← hB] at HA0 ⊢
  clear hB
  go_loopg [13] n (fun gx i wr => ∃ j : Nat, j + gx = n ∧ i = .int .i64 (j : Int) ∧ ArAt wr (B ≤ ·) B (ArM.fresh j) ∧ Grow w wr)
  case atStart => exact ⟨0, by omega, rfl, HA0.out, HG0.out⟩
  case round =>
    obtain ⟨j, hg, rfl, har, hgr⟩ := hrel
    have HG := Lib.hid hg
    have HAR := Lib.hid har
    have HGR := Lib.hid hgr
    clear hg har hgr
    by_cases hj : j < n
    · have hjz : (j : Int) < (n : Int) := by omega
      have HADD := Lib.hid (add_any HAR.out fun k hk => by have h1 := HGR.out.size; have h2 := HB.out; omega)
      obtain ⟨e1, e2⟩ := fresh_add (n := j) (by omega)
      rw [e1, e2] at HADD
      clear e1 e2
      go_wp2_with (go_at_call 87; (with_reducible refine HADD.out.mono ?_); rintro e w2 ⟨rfl, ha, hk⟩; have HA2 := Lib.hid ha; have HK2 := Lib.hid hk; clear ha hk)
      go_roundg (gk - 1)
      case measure => have := HG.out; omega
      case rel => exact ⟨j + 1, by have := HG.out; omega, by go_num, HA2.out, HGR.out.then HK2.out fun k hk e => by have := HB.out; omega⟩
    · obtain rfl : j = n := by have := HG.out; omega
      go_wp2
      go_ret
      unfold NewPost
      rw [← HB.out]
      exact ⟨rfl, HAR.out, HGR.out⟩
end
end Go.Proofs.YtbnkpnllgoghnaaGreat.ArN

namespace Go.Proofs.YtbnkpnllgoghnaaGreat.HdN
open Go.ChangeShapes Go.WideShapes Go.ChangeAt Go.RowKit
open Go.Proofs.YtbnkpnllgoghnaaGreat.Mem Go.Proofs.YtbnkpnllgoghnaaGreat.Blk Go.Proofs.YtbnkpnllgoghnaaGreat.Cells Go.Proofs.YtbnkpnllgoghnaaGreat.Orow Go.Proofs.YtbnkpnllgoghnaaGreat.HdM Go.Proofs.YtbnkpnllgoghnaaGreat.HdC Go.Proofs.YtbnkpnllgoghnaaGreat.Stages Go.Proofs.YtbnkpnllgoghnaaGreat.Trees
theorem infoI : (Tryz.prog.info? 3).map (fun i => (i.zero, i.size, i.bytes)) = some (some (.int .i64 0), 1, 8) := by kernel_rfl
theorem infoS : (Tryz.prog.info? 33).map (fun i => (i.zero, i.size, i.bytes)) = some (some (.slice none 0 0), 1, 24) := by kernel_rfl
theorem sizeI : (Tryz.prog.info? 3).map (·.size) = some 1 := by kernel_rfl
/-! ### math/bits.Mul, slices.Repeat -/
theorem mul64_any (w : World) : Calls Tryz.prog 166 #[.int .u64 1, .int .u64 6] w fun e w' => e = .returned (.tuple #[.int .u64 0, .int .u64 6]) ∧ w = w' := by
  go_enter Tryz.func166, Tryz.ntmps166
  go_wp2
  go_ret2
  exact ⟨rfl, rfl⟩
theorem mul_any (w : World) : Calls Tryz.prog 124 #[.int .u64 1, .int .u64 6] w fun e w' => e = .returned (.tuple #[.int .u64 0, .int .u64 6]) ∧ w = w' := by
  go_enter Tryz.func124, Tryz.ntmps124
  go_wp2_with (go_at_call 166; (with_reducible refine (mul64_any _).mono ?_); rintro e w' ⟨rfl, rfl⟩)
  go_ret2
  exact ⟨rfl, rfl⟩
/-- The new slice behind q numbers. -/
def zs (q : Nat) : List Int := List.replicate q (-1) ++ List.replicate (6 - q) 0
section
variable {w w' : World} {g b q m : Nat}
theorem rep_first (h : NBlk w g 3 .i64 (zs 0)) {B : Nat} (hx : Sl w B .i64 (some ⟨b, 0, none⟩) 1 [-1]) :
    ∃ w', (Builtin.copy_ #[33, 33] 3 #[.slice (some ⟨g, 0, none⟩) 6 6, .slice (some ⟨b, 0, none⟩) 1 1]).run Tryz.prog w = .ok (.int .i64 1) w' ∧ NBlk w' g 3 .i64 (zs 1) ∧ Kept (· = g) w w' :=
  run_copy (P := Tryz.prog) 33 33 3 3 Tryz.underlying33 sizeI h 0 6 6 1 hx 1 (by decide) (by decide)
theorem rep_next (h : NBlk w g 3 .i64 (zs q)) (hq : q ≤ 6) (hm : Nat.min q (6 - q) = m) (he : (zs q).take q ++ ((((zs q).drop 0).take q).take m ++ (zs q).drop (q + m)) = zs (q + m)) :
    ∃ w', (Builtin.copy_ #[33, 33] 3 #[.slice (some ⟨g, q, none⟩) (6 - q) (6 - q), .slice (some ⟨g, 0, none⟩) q 6]).run Tryz.prog w = .ok (.int .i64 (m : Int)) w' ∧ NBlk w' g 3 .i64 (zs (q + m)) ∧ Kept (· = g) w w' := by
  have hl : (zs q).length = 6 := by unfold zs; rw [List.length_append, List.length_replicate, List.length_replicate]; omega
  have hsl := Sl.of_blk (B := w.heap.size) h 0 q (by omega) h.lt
  have hfit : q + m ≤ (zs q).length := by rw [hl]; have := Nat.min_le_right q (6 - q); rw [show Nat.min q (6 - q) = min q (6 - q) from rfl] at hm; omega
  obtain ⟨w', h1, h2, h3⟩ := run_copy (P := Tryz.prog) 33 33 3 3 Tryz.underlying33 sizeI h q (6 - q) (6 - q) 6 hsl m hm hfit
  rw [he] at h2
  exact ⟨w', h1, h2, h3⟩
theorem or_of (h : NBlk w g 3 .i64 (zs 6)) : OR w g 3 1 6 6 (hcell fun _ => -1) := by
  refine ⟨_, h, rfl, Nat.le_refl _, by unfold maxLen; omega, fun i hi => ?_⟩
  have : i = 0 ∨ i = 1 ∨ i = 2 ∨ i = 3 ∨ i = 4 ∨ i = 5 := by omega
  rcases this with rfl | rfl | rfl | rfl | rfl | rfl <;> rfl
theorem made6 (w : World) : (Instr.makeSlice 33 (.int .i64 6) (.int .i64 6)).run Tryz.prog w = .ok (.slice (some ⟨w.heap.size, 0, none⟩) 6 6) (w.alloc (.cells (madeCells #[.int .i64 0] 6) 3)) := by
  obtain ⟨i, hi, hz, hs, hb⟩ := info_parts infoI
  have := run_make (P := Tryz.prog) w 33 3 i _ Tryz.underlying33 hi hz .i64 .i64 6 6 (by omega) (Int.le_refl _) (by rw [hb]; omega) (by omega)
  rw [hs, show (6 : Int).toNat = 6 by omega] at this
  exact this
/-- Six numbers, all -1. -/
def SixPost (w : World) (e : Ending) (w' : World) : Prop := ∃ g, e = .returned (.slice (some ⟨g, 0, none⟩) 6 6) ∧ w.heap.size ≤ g ∧ OR w' g 3 1 6 6 (hcell fun _ => -1) ∧ Grow w w'
theorem six_post (hg : w.heap.size ≤ g) (h : NBlk w' g 3 .i64 (zs 6)) (hk : Kept (· = g) w w') : SixPost w (.returned (.slice (some ⟨g, 0, none⟩) 6 6)) w' :=
  ⟨g, rfl, hg, or_of h, hk.mono fun k hk e => by omega⟩
set_option maxHeartbeats 1000000 in
theorem repeat_any {B : Nat} (hx : Sl w B .i64 (some ⟨b, 0, none⟩) 1 [-1]) (hB : B ≤ w.heap.size) : Calls Tryz.prog 73 #[.slice (some ⟨b, 0, none⟩) 1 1, .int .i64 6] w (SixPost w) := by
  have HX := Lib.hid hx
  have HBB := Lib.hid hB
  have km := made6
  clear hx hB
  go_enter Tryz.func73, Tryz.ntmps73
  go_upto_region 7 with (go_at_call 124; (with_reducible refine (mul_any _).mono ?_); rintro e w' ⟨rfl, rfl⟩)
  have hb0 : NBlk (w.alloc (.cells (madeCells #[Value.int .i64 0] 6) 3)) w.heap.size 3 .i64 (zs 0) := NBlk.made w 3 .i64 6
  have hg0 : Grow w (w.alloc (.cells (madeCells #[Value.int .i64 0] 6) 3)) := (Kept.refl _ _).alloc _
  have hnew : w.heap.size ≤ w.heap.size := Nat.le_refl _
  clear km
  generalize w.alloc (.cells (madeCells #[Value.int .i64 0] 6) 3) = w1 at hb0 hg0 ⊢
  obtain ⟨g, hgg⟩ : ∃ g, g = w.heap.size := ⟨_, rfl⟩
  rw [← hgg] at hb0 ⊢
  have HGE : Hid (w.heap.size ≤ g) := Nat.le_of_eq hgg.symm
  have hs1 := Blk.Sl.kept HX.out hg0 HBB.out fun _ _ x => x
  obtain ⟨w2, hc2, hb2, hk2⟩ := rep_first hb0 hs1
  have HK2 : Hid (Kept (· = g) w w2) := (Grow.kept hg0).trans hk2
  have HB2 := Lib.hid hb2
  clear hb0 hg0 hs1 hb2 hk2 hgg hnew
  go_wp2
  clear hc2
  go_loopg [8] 5 (fun gx i wr => ∃ (q : Nat) (z : Int), q + gx = 6 ∧ i = .int .i64 z ∧ ((q = 1 ∧ z = 1) ∨ (q = 2 ∧ z = 2) ∨ (q = 4 ∧ z = 4) ∨ (q = 6 ∧ z = 6)) ∧ NBlk wr g 3 .i64 (zs q) ∧ Kept (· = g) w wr)
  case atStart => exact ⟨1, 1, by omega, rfl, .inl ⟨rfl, rfl⟩, HB2.out, HK2.out⟩
  case round =>
    obtain ⟨q, z, hg, rfl, hq, hb, hk⟩ := hrel
    have HG := Lib.hid hg
    have HB := Lib.hid hb
    have HK := Lib.hid hk
    clear hg hb hk
    rcases hq with ⟨rfl, rfl⟩ | ⟨rfl, rfl⟩ | ⟨rfl, rfl⟩ | ⟨rfl, rfl⟩
    · obtain ⟨w3, hc, hb, hk⟩ := rep_next (q := 1) (m := 1) (HB.out.drew) (by omega) rfl rfl
      have HB3 : Hid (NBlk w3 g 3 .i64 (zs 2)) := hb
      have HK3 := Lib.hid hk
      simp only [Int.cast_ofNat_Int, Nat.reduceSub] at hc
      clear hb hk
      go_upto_region 9 with (fail)
      refine wp_region_stages (Kept (· = g)) (kept_refl _) (kept_trans _) [([0, 1, 2, 3, 4, 5, 6], 7)] [8, 9] (by kernel_rfl) (by kernel_rfl) ?_
      simp only [selSt, sel, List.map_cons, List.map_nil, List.getD_cons_succ, List.getD_cons_zero]
      refine st_cons fun K1 hK1 => ?_
      repeat (go_big_quiet_step (fail))
      refine wpQuiet_nil ?_
      go_wp2
      clear hc
      refine norm_up (hK1 _ _ HK3.out (st_nil fun K4 hK4 => ?_))
      clear hK1 K1
      repeat (go_big_quiet_step (fail))
      refine wpQuiet_nil (hK4 _ ?_)
      clear hK4 K4
      go_wp2
      go_roundg 4
      case measure => have := HG.out; omega
      case rel => exact ⟨2, 2, by omega, rfl, .inr <| .inl ⟨rfl, rfl⟩, HB3.out, (HK.out.trans (Kept.drew' wr)).trans HK3.out⟩
    · obtain ⟨w3, hc, hb, hk⟩ := rep_next (q := 2) (m := 2) (HB.out.drew) (by omega) rfl rfl
      have HB3 : Hid (NBlk w3 g 3 .i64 (zs 4)) := hb
      have HK3 := Lib.hid hk
      simp only [Int.cast_ofNat_Int, Nat.reduceSub] at hc
      clear hb hk
      go_upto_region 9 with (fail)
      refine wp_region_stages (Kept (· = g)) (kept_refl _) (kept_trans _) [([0, 1, 2, 3, 4, 5, 6], 7)] [8, 9] (by kernel_rfl) (by kernel_rfl) ?_
      simp only [selSt, sel, List.map_cons, List.map_nil, List.getD_cons_succ, List.getD_cons_zero]
      refine st_cons fun K1 hK1 => ?_
      repeat (go_big_quiet_step (fail))
      refine wpQuiet_nil ?_
      go_wp2
      clear hc
      refine norm_up (hK1 _ _ HK3.out (st_nil fun K4 hK4 => ?_))
      clear hK1 K1
      repeat (go_big_quiet_step (fail))
      refine wpQuiet_nil (hK4 _ ?_)
      clear hK4 K4
      go_wp2
      go_roundg 2
      case measure => have := HG.out; omega
      case rel => exact ⟨4, 4, by omega, rfl, .inr <| .inr <| .inl ⟨rfl, rfl⟩, HB3.out, (HK.out.trans (Kept.drew' wr)).trans HK3.out⟩
    · obtain ⟨w3, hc, hb, hk⟩ := rep_next (q := 4) (m := 2) (HB.out.drew) (by omega) rfl rfl
      have HB3 : Hid (NBlk w3 g 3 .i64 (zs 6)) := hb
      have HK3 := Lib.hid hk
      simp only [Int.cast_ofNat_Int, Nat.reduceSub] at hc
      clear hb hk
      go_upto_region 9 with (fail)
      refine wp_region_stages (Kept (· = g)) (kept_refl _) (kept_trans _) [([0, 1, 2, 3, 4, 5, 6], 7)] [8, 9] (by kernel_rfl) (by kernel_rfl) ?_
      simp only [selSt, sel, List.map_cons, List.map_nil, List.getD_cons_succ, List.getD_cons_zero]
      refine st_cons fun K1 hK1 => ?_
      repeat (go_big_quiet_step (fail))
      refine wpQuiet_nil ?_
      go_wp2
      clear hc
      refine norm_up (hK1 _ _ HK3.out (st_nil fun K4 hK4 => ?_))
      clear hK1 K1
      repeat (go_big_quiet_step (fail))
      refine wpQuiet_nil (hK4 _ ?_)
      clear hK4 K4
      go_wp2
      go_roundg 0
      case measure => have := HG.out; omega
      case rel => exact ⟨6, 6, by omega, rfl, .inr <| .inr <| .inr ⟨rfl, rfl⟩, HB3.out, (HK.out.trans (Kept.drew' wr)).trans HK3.out⟩
    · go_wp2
      go_ret
      exact six_post HGE.out HB.out HK.out
end
end Go.Proofs.YtbnkpnllgoghnaaGreat.HdN

namespace Go.Proofs.YtbnkpnllgoghnaaGreat.HdA
open Go.ChangeShapes Go.WideShapes Go.ChangeAt Go.RowKit
open Go.Proofs.YtbnkpnllgoghnaaGreat.Mem Go.Proofs.YtbnkpnllgoghnaaGreat.Blk Go.Proofs.YtbnkpnllgoghnaaGreat.Cells Go.Proofs.YtbnkpnllgoghnaaGreat.Orow Go.Proofs.YtbnkpnllgoghnaaGreat.HdM Go.Proofs.YtbnkpnllgoghnaaGreat.HdC Go.Proofs.YtbnkpnllgoghnaaGreat.HdO Go.Proofs.YtbnkpnllgoghnaaGreat.HdN Go.Proofs.YtbnkpnllgoghnaaGreat.Stages Go.Proofs.YtbnkpnllgoghnaaGreat.Trees
section
variable {w w' w2 w3 : World} {G F X : Nat → Prop} {v : Value} {n d b cb c r g cap vb : Nat} {q cp : Nat → Nat} {H : Nat → Nat → Int} {a : Hs} {f : Nat → Int}
/-! ### One row more -/
def up (q : Nat → Nat) (n r : Nat) (i : Nat) : Nat := if i = n then r else q i
theorem up_same {q : Nat → Nat} : up q n r n = r := if_pos rfl
theorem up_other {q : Nat → Nat} {i : Nat} (h : i < n) : up q n r i = q i := if_neg (by omega)
/-- The slice of a row that is to come. -/
def rcell (r c : Nat) (_ : Nat) : Value := .slice (some ⟨r, 0, none⟩) 6 c
theorem Gr.app (h : Gr w G v n q cp H) (hn : n ≤ 1000) (hx : w.cell? ⟨vb, 0, none⟩ = some (.slice (some ⟨r, 0, none⟩) 6 c)) :
    ∃ g cap w', (∀ ty, (Builtin.append_ #[48, 48] ty #[v, .slice (some ⟨vb, 0, none⟩) 1 1]).run Tryz.prog w = .ok (.slice (some ⟨g, 0, none⟩) (n + 1) cap) w') ∧ OR w' g 33 1 cap (n + 1) (joined (scell q cp) (rcell r c) (n * 1)) ∧ Kept (fun k => v.ownBlock = some k) w w' ∧ (v.ownBlock = some g ∨ g = w.heap.size) := by
  obtain ⟨i, hi, hz, hs, hb⟩ := info_parts infoS
  obtain ⟨g, cap, w', h1, h2, h3, h4⟩ := append_or (P := Tryz.prog) 48 3 i _ 24 Tryz.underlying48 hi hz hs hb rfl (by omega) h.out (by omega) (by omega) vb 1 (u := rcell r c) (fun j hj => by
    have : j = 0 := by omega
    subst this
    exact hx) (fun j hj => rfl)
  exact ⟨g, cap, w', fun ty => h1, h2, h3, h4⟩
theorem Gr.push (h : Gr w G v n q cp H) (hr : OR w r 3 1 c 6 (hcell (H n))) (hG : G r) (hnr : ∀ i, i < n → q i ≠ r) (hvr : v.ownBlock ≠ some r)
    (ho : OR w' g 33 1 cap (n + 1) (joined (scell q cp) (rcell r c) (n * 1))) (hk : Kept (fun k => v.ownBlock = some k) w w') (hg : v.ownBlock = some g ∨ g = w.heap.size) (hnew : ∀ k, w.heap.size ≤ k → G k) :
    Gr w' G (.slice (some ⟨g, 0, none⟩) (n + 1) cap) (n + 1) (up q n r) (up cp n c) H := by
  have hgG : G g := by
    rcases hg with e | e
    · exact (os_in h.out e).1
    · exact hnew _ (by omega)
  have hgr : g ≠ r := by
    rcases hg with e | e
    · rintro rfl; exact hvr e
    · have := hr.lt; omega
  refine ⟨.inr ⟨g, cap, rfl, ho.congr fun i hi => ?_, hgG⟩, fun i hi => ?_, fun i hi => ?_, fun i hi => ?_, fun i j hi hj e => ?_⟩
  · unfold joined
    by_cases e : i < n
    · rw [if_pos (by omega)]
      unfold scell
      rw [up_other e, up_other e]
    · have : i = n := by omega
      subst this
      rw [if_neg (by omega)]
      unfold scell
      rw [up_same, up_same]; rfl
  · by_cases e : i < n
    · rw [up_other e, up_other e]
      exact (h.row i e).kept hk (h.off i e)
    · have : i = n := by omega
      subst this
      rw [up_same, up_same]
      exact hr.kept hk hvr
  · by_cases e : i < n
    · rw [up_other e]; exact h.inG i e
    · have : i = n := by omega
      subst this
      rw [up_same]; exact hG
  · show some g ≠ some (up q n r i)
    rintro e2
    injection e2 with e2
    by_cases e : i < n
    · rw [up_other e] at e2
      rcases hg with x | x
      · exact h.off i e (e2 ▸ x)
      · have := (h.row i e).lt; omega
    · have : i = n := by omega
      subst this
      rw [up_same] at e2
      exact hgr e2
  · by_cases e1 : i < n
    · by_cases e2 : j < n
      · rw [up_other e1, up_other e2] at e
        exact h.ne i j e1 e2 e
      · have : j = n := by omega
        subst this
        rw [up_other e1, up_same] at e
        exact absurd e (hnr i e1)
    · have : i = n := by omega
      subst this
      by_cases e2 : j < i
      · rw [up_other e2, up_same] at e
        exact absurd e.symm (hnr j e2)
      · omega
/-! ### All -/
theorem gr_nil (w : World) (G : Nat → Prop) (q cp : Nat → Nat) (H : Nat → Nat → Int) : Gr w G (.slice none 0 0) 0 q cp H :=
  ⟨.inl ⟨rfl, rfl⟩, fun i hi => absurd hi (Nat.not_lt_zero i), fun i hi => absurd hi (Nat.not_lt_zero i), fun i hi => absurd hi (Nat.not_lt_zero i), fun i _ hi => absurd hi (Nat.not_lt_zero i)⟩
end
end Go.Proofs.YtbnkpnllgoghnaaGreat.HdA

namespace Go.Proofs.YtbnkpnllgoghnaaGreat.HdF
open Go.ChangeShapes Go.WideShapes Go.ChangeAt Go.RowKit
open Go.Proofs.YtbnkpnllgoghnaaGreat.Mem Go.Proofs.YtbnkpnllgoghnaaGreat.Blk Go.Proofs.YtbnkpnllgoghnaaGreat.Cells Go.Proofs.YtbnkpnllgoghnaaGreat.Orow Go.Proofs.YtbnkpnllgoghnaaGreat.HdM Go.Proofs.YtbnkpnllgoghnaaGreat.HdC Go.Proofs.YtbnkpnllgoghnaaGreat.HdO Go.Proofs.YtbnkpnllgoghnaaGreat.HdN Go.Proofs.YtbnkpnllgoghnaaGreat.HdA Go.Proofs.YtbnkpnllgoghnaaGreat.Stages Go.Proofs.YtbnkpnllgoghnaaGreat.Trees
section
variable {w w' w2 w3 : World} {G F X : Nat → Prop} {v : Value} {n d b cb c r g cap vb j : Nat} {q cp : Nat → Nat} {H : Nat → Nat → Int} {a : Hs}
/-- Handles of j clients, their parts told. -/
structure Nu (w : World) (G : Nat → Prop) (d j : Nat) (v : Value) (q cp : Nat → Nat) : Prop where
  hd : Row w d 1 (fun _ => v)
  gr : Gr w G v j q cp (fun _ _ => -1)
  inG : G d
  off : v.ownBlock ≠ some d
  ne : ∀ i, i < j → q i ≠ d
theorem Nu.at_ (h : Nu w G d j v q cp) (hj : j ≤ 6) : HAt w G d (fresh j) := ⟨good_fresh hj, v, q, cp, h.hd, h.gr, h.inG, h.off, h.ne⟩
theorem Nu.kept (h : Nu w G d j v q cp) (hk : Kept F w w') (hF : ∀ k, G k → ¬ F k) : Nu w' G d j v q cp := ⟨h.hd.kept hk (hF _ h.inG), h.gr.kept hk hF, h.inG, h.off, h.ne⟩
theorem Nu.grow (h : Nu w G d j v q cp) (hk : Grow w w') : Nu w' G d j v q cp := h.kept hk fun _ _ x => x
/-- The struct's one slice has another row. -/
theorem Nu.push (h : Nu w G d j v q cp) (hr : OR w r 3 1 c 6 (hcell fun _ => -1)) (hG : G r) (hnr : ∀ i, i < j → q i ≠ r) (hvr : v.ownBlock ≠ some r) (hdr : d ≠ r)
    (ho : OR w' g 33 1 cap (j + 1) (joined (scell q cp) (rcell r c) (j * 1))) (hk : Kept (fun k => v.ownBlock = some k) w w') (hg : v.ownBlock = some g ∨ g = w.heap.size) (hnew : ∀ k, w.heap.size ≤ k → G k) :
    Nu (w'.setCell ⟨d, 0, none⟩ (.slice (some ⟨g, 0, none⟩) (j + 1) cap)) G d (j + 1) (.slice (some ⟨g, 0, none⟩) (j + 1) cap) (up q j r) (up cp j c) := by
  have hgr := Gr.push h.gr (r := r) (c := c) hr hG hnr hvr ho hk hg hnew
  have hgd : g ≠ d := by
    rcases hg with e | e
    · rintro rfl; exact h.off e
    · have := h.hd.lt; omega
  refine ⟨((h.hd.kept hk h.off).set 0 _).congr fun i hi => by rw [if_pos (by omega)], ?_, h.inG, fun e => ?_, fun i hi => ?_⟩
  · have hne : ∀ i, i < j + 1 → up q j r i ≠ d := fun i hi => by
      by_cases e : i < j
      · rw [up_other e]; exact h.ne i e
      · have : i = j := by omega
        subst this
        rw [up_same]; exact hdr.symm
    refine ⟨?_, fun i hi => (hgr.row i hi).other (p := ⟨d, 0, none⟩) (hne i hi) _, hgr.inG, hgr.off, hgr.ne⟩
    rcases hgr.out with ⟨e, _⟩ | ⟨g', cap', e, ho', hg'⟩
    · cases e
    · injection e with e1 e2 e3
      injection e1 with e1
      injection e1 with e1
      subst e1 e3
      exact .inr ⟨g, cap, rfl, ho'.other (p := ⟨d, 0, none⟩) hgd _, hg'⟩
  · have e : some g = some d := e
    injection e with e
    exact hgd e
  · by_cases e : i < j
    · rw [up_other e]; exact h.ne i e
    · have : i = j := by omega
      subst this
      rw [up_same]; exact hdr.symm
/-- What New makes. -/
def NewPost (n : Nat) (w : World) (e : Ending) (w' : World) : Prop := e = .returned (.pointer (some ⟨w.heap.size, 0, none⟩)) ∧ HAt w' (w.heap.size ≤ ·) w.heap.size (fresh n) ∧ Grow w w'
theorem new_bad (k : Int) (hk : ¬ (1 ≤ k ∧ k ≤ 6)) : Calls Tryz.prog 37 #[.int .i64 k] w fun e w' => e = .returned (.pointer none) ∧ w = w' := by
  by_cases h0 : k < 1
  · clear hk
    go_enter Tryz.func37, Tryz.ntmps37
    go_wp2
    go_ret
    exact ⟨rfl, rfl⟩
  · have h1 : 6 < k := by omega
    have h2 : 1 ≤ k := by omega
    clear hk h0
    go_enter Tryz.func37, Tryz.ntmps37
    go_wp2
    go_ret
    exact ⟨rfl, rfl⟩
/-- What one round does. -/
def Nx (w : World) (B j : Nat) (wx : World) : Prop := ∃ v q cp, Nu wx (B ≤ ·) B j v q cp ∧ Grow w wx
set_option maxHeartbeats 2000000 in
theorem new_good (n : Nat) (hn1 : 1 ≤ n) (hn : n ≤ 6) : Calls Tryz.prog 37 #[.int .i64 (n : Int)] w (NewPost n w) := by
  have hnz : (n : Int) ≤ 6 := by omega
  have hnz1 : 1 ≤ (n : Int) := by omega
  have HN := Lib.hid hn
  clear hn hn1
  go_enter Tryz.func37, Tryz.ntmps37
  go_wp2
  have hb0 : Blk (w.alloc (.cells #[.slice none 0 0] 128)) w.heap.size 128 [.slice none 0 0] := Blk.new w 128 [.slice none 0 0]
  have HG0 : Hid (Grow w (w.alloc (.cells #[.slice none 0 0] 128))) := (Kept.refl _ _).alloc _
  have HA0 : Hid (Nu (w.alloc (.cells #[.slice none 0 0] 128)) (w.heap.size ≤ ·) w.heap.size 0 (.slice none 0 0) id id) :=
    ⟨Row.of_blk hb0 rfl fun i hi => (by have : i = 0 := by omega
                                        subst this; rfl), gr_nil _ _ _ _ _, Nat.le_refl _, fun e => (by cases e), fun i hi => absurd hi (Nat.not_lt_zero i)⟩
  clear hb0
  generalize w.alloc (.cells #[.slice none 0 0] 128) = w1 at HA0 HG0 ⊢
  obtain ⟨B, hB⟩ : ∃ B, B = w.heap.size := ⟨_, rfl⟩
  have HB := Lib.hid hB
  unfold NewPost
  rw [← hB] at HA0 ⊢
  clear hB
  go_loopg [13] n (fun gx i wr => ∃ j : Nat, j + gx = n ∧ i = .int .i64 (j : Int) ∧ Nx w B j wr)
  case atStart => exact ⟨0, by omega, rfl, _, _, _, HA0.out, HG0.out⟩
  case round =>
    obtain ⟨j, hg, rfl, v, q, cp, hnu, hgr⟩ := hrel
    have HG := Lib.hid hg
    have HNU := Lib.hid hnu
    have HGR := Lib.hid hgr
    clear hg hnu hgr
    by_cases hj : j < n
    · have hjz : (j : Int) < (n : Int) := by omega
      have HJ := Lib.hid hj
      have c0 := HNU.out.hd.cell (i := 0) (by omega)
      have q0 := up_cell (F := fun k => v.ownBlock = some k) (w := wr.drew) (p := ⟨B, 0, none⟩) c0 HNU.out.off
      clear c0 hj
      go_upto_region 6 with (fail)
      refine wp_region_tree (Kept fun k => v.ownBlock = some k) (Kept fun k => v.ownBlock = some k ∨ k = B) (kept_refl _) (kept_trans _) (kept_refl _) (kept_trans _) (fun _ _ h => h.mono fun _ _ x => .inl x) [11]
        (.one true [0, 1, 2, 3, 4] 5 (.one true [] 6 (.one true [] 7 (.one true [] 8 (.one false [9, 10] 11 (.last false [])))))) (by kernel_rfl) (by kernel_rfl) ?_
      refine tr_oneE fun K hK => ?_
      simp only [sel, List.map_cons, List.map_nil, List.getD_cons_succ, List.getD_cons_zero]
      repeat (go_big_quiet_step (fail))
      refine wpQuiet_nil ?_
      clear q0
      go_wp2
      refine norm_up (hK _ _ (Lr_early (by decide) (show Kept _ wr.drew (wr.alloc (.cells #[.int .i64 (-1)] 3)).drew from (Kept.refl _ wr.drew).alloc (.cells #[.int .i64 (-1)] 3))) ?_)
      clear hK K
      have HX : Hid (NBlk (wr.alloc (.cells #[.int .i64 (-1)] 3)).drew wr.heap.size 3 .i64 [-1]) := Blk.drew (NBlk.new wr 3 .i64 [-1])
      have HG1 : Hid (Grow wr (wr.alloc (.cells #[.int .i64 (-1)] 3)).drew) := ((Kept.refl _ wr).alloc _).drew
      generalize (wr.alloc (.cells #[.int .i64 (-1)] 3)).drew = x1 at HX HG1 ⊢
      have CR := Lib.hid (repeat_any (w := x1) (b := wr.heap.size) (Sl.of_blk0 (B := x1.heap.size) HX.out rfl HX.out.lt) (Nat.le_refl _))
      refine tr_oneE fun K hK => ?_
      simp only [sel, List.map_cons, List.map_nil, List.getD_cons_succ, List.getD_cons_zero]
      refine wpQuiet_nil ?_
      go_wp2_with (go_at_call 73; (with_reducible refine CR.out.mono ?_); rintro e x2 ⟨r, rfl, hlt, hrow, hgr⟩; have HLT := Lib.hid hlt; have HRO := Lib.hid hrow; have HG2 := Lib.hid hgr; clear hlt hrow hgr)
      refine norm_up (hK _ _ (Lr_early (by decide) HG2.out.kept) ?_)
      clear hK K CR
      refine tr_oneE fun K hK => ?_
      simp only [sel, List.map_cons, List.map_nil, List.getD_cons_succ, List.getD_cons_zero]
      refine wpQuiet_nil ?_
      go_wp2
      refine norm_up (hK _ _ (Lr_early (by decide) ((Kept.refl _ _).alloc _)) ?_)
      clear hK K
      have HX3 : Hid ((x2.alloc (.cells #[.slice (some ⟨r, 0, none⟩) 6 6] 33)).cell? ⟨x2.heap.size, 0, none⟩ = some (.slice (some ⟨r, 0, none⟩) 6 6)) := cell_new1 _ _ _
      have HG3 : Hid (Grow x2 (x2.alloc (.cells #[.slice (some ⟨r, 0, none⟩) 6 6] 33))) := (Kept.refl _ x2).alloc _
      generalize x2.alloc (.cells #[.slice (some ⟨r, 0, none⟩) 6 6] 33) = x3 at HX3 HG3 ⊢
      have HN3 := Lib.hid (((HNU.out.grow HG1.out).grow HG2.out).grow HG3.out)
      have HR3 := Lib.hid (HRO.out.kept HG3.out id)
      obtain ⟨g4, cap4, x4, hr4, ho4, hk4, hb4⟩ := Gr.app HN3.out.gr (by have := HJ.out; have := HN.out; omega) HX3.out
      have HR4 := Lib.hid hr4
      have HO4 := Lib.hid ho4
      have HK4 := Lib.hid hk4
      have HB4 := Lib.hid hb4
      clear hr4 ho4 hk4 hb4
      refine tr_oneE fun K hK => ?_
      simp only [sel, List.map_cons, List.map_nil, List.getD_cons_succ, List.getD_cons_zero]
      refine wpQuiet_nil ?_
      go_wp2_with (at_builtin; refine Lib.wpList_append_run _ rfl _ _ _ _ rfl _ _ rfl rfl _ _ (HR4.out _) ?_)
      refine norm_up (hK _ _ (Lr_early (by decide) HK4.out) ?_)
      clear hK K
      have HN5 : Hid (Nu (x4.setCell ⟨B, 0, none⟩ (.slice (some ⟨g4, 0, none⟩) (j + 1) cap4)) (B ≤ ·) B (j + 1) (.slice (some ⟨g4, 0, none⟩) (j + 1) cap4) (up q j r) (up cp j 6)) := by
        have z1 := HG1.out.size
        have z2 := HG2.out.size
        have z3 := HG3.out.size
        have z0 := HGR.out.size
        have zb := HB.out
        have zl := HLT.out
        have zd := HNU.out.hd.lt
        refine HN3.out.push HR3.out ?_ ?_ ?_ ?_ HO4.out HK4.out HB4.out ?_
        · show B ≤ r; omega
        · intro i hi e; have := (HNU.out.gr.row i hi).lt; omega
        · intro e; have := (os_in HNU.out.gr.out e).2; omega
        · omega
        · intro k hk; show B ≤ k; omega
      have HK5 : Hid (Grow w (x4.setCell ⟨B, 0, none⟩ (.slice (some ⟨g4, 0, none⟩) (j + 1) cap4))) := by
        have zb := HB.out
        refine ((((HGR.out.trans HG1.out).trans HG2.out).trans HG3.out).then HK4.out fun k hk e => ?_).setCell (fun h => ?_) _
        · have := (os_in HNU.out.gr.out e).1; omega
        · have h : B < w.heap.size := h
          omega
      have cd := HN3.out.hd.kept HK4.out HN3.out.off
      have c0 := cd.cell (i := 0) (by omega)
      have f0 := cd.frozen 0
      clear cd
      refine tr_oneL fun K hK => ?_
      simp only [sel, List.map_cons, List.map_nil, List.getD_cons_succ, List.getD_cons_zero]
      repeat (go_big_quiet_step (fail))
      refine wpQuiet_nil ?_
      go_wp2
      refine norm_up (hK _ _ (Lr_late (by decide) ((kept_set _ _ _ _).mono fun k _ e => .inr e)) ?_)
      clear hK K c0 f0
      refine tr_lastL fun K hK => ?_
      simp only [sel, List.map_nil]
      refine wpQuiet_nil (hK _ ?_)
      clear hK K
      go_wp2
      go_roundg (gk - 1)
      case measure => have := HG.out; omega
      case rel => exact ⟨j + 1, by have := HG.out; have := HJ.out; omega, by go_num, _, _, _, HN5.out, HK5.out⟩
    · obtain rfl : j = n := by have := HG.out; omega
      go_wp2
      go_ret
      unfold NewPost
      rw [← HB.out]
      exact ⟨rfl, HNU.out.at_ HN.out, HGR.out⟩
end
end Go.Proofs.YtbnkpnllgoghnaaGreat.HdF

namespace Go.Proofs.YtbnkpnllgoghnaaGreat.PmU
open Go.ChangeShapes Go.WideShapes Go.ChangeAt Go.RowKit
open Go.Proofs.YtbnkpnllgoghnaaGreat.Mem Go.Proofs.YtbnkpnllgoghnaaGreat.Blk Go.Proofs.YtbnkpnllgoghnaaGreat.Cells Go.Proofs.YtbnkpnllgoghnaaGreat.Orow Go.Proofs.YtbnkpnllgoghnaaGreat.GrC Go.Proofs.YtbnkpnllgoghnaaGreat.MdM Go.Proofs.YtbnkpnllgoghnaaGreat.MdC Go.Proofs.YtbnkpnllgoghnaaGreat.MdR Go.Proofs.YtbnkpnllgoghnaaGreat.MdD Go.Proofs.YtbnkpnllgoghnaaGreat.PmC Go.Proofs.YtbnkpnllgoghnaaGreat.PmI Go.Proofs.YtbnkpnllgoghnaaGreat.PmM Go.Proofs.YtbnkpnllgoghnaaGreat.PmP Go.Proofs.YtbnkpnllgoghnaaGreat.PmT Go.Proofs.YtbnkpnllgoghnaaGreat.Stages Go.Proofs.YtbnkpnllgoghnaaGreat.Trees
open Go.Proofs.YtbnkpnllgoghnaaGreat.HdM (lst hnd cnt sum lst_eq hnd_at hnd_none hnd_cases cnt_yes cnt_no cnt_le sum_le)
section
variable {w w0 w1 : World} {G F X : Nat → Prop} {v : Value} {gT cT gB cB gH cH r b c : Nat} {qb cb q cp : Nat → Nat} {a a' : Md} {k : Nat} {p : Int} {zs : List Int}
theorem OR.stretch {g s cap n : Nat} {t : TypeId} (vs : List Value) : ∀ {w : World} {f : Nat → Value} (o : Nat), OR w g t s cap n f → OR (w.setCells g o vs) g t s cap n (fun j => if o ≤ j ∧ j < o + vs.length then vs.getD (j - o) (f j) else f j) := by
  induction vs with
  | nil => intro w f o h; exact h.congr fun i _ => by rw [if_neg (by simp only [List.length_nil]; omega)]
  | cons v r ih =>
    intro w f o h
    refine (ih (o + 1) (h.set o v)).congr fun i _ => ?_
    by_cases e : i = o
    · subst e
      have e2 : i ≤ i ∧ i < i + (v :: r).length := by simp only [List.length_cons]; omega
      rw [if_neg (show ¬ (i + 1 ≤ i ∧ i < i + 1 + r.length) by omega), if_pos rfl, if_pos e2, Nat.sub_self]
      rfl
    · by_cases h2 : o + 1 ≤ i ∧ i < o + 1 + r.length
      · have e2 : o ≤ i ∧ i < o + (v :: r).length := by simp only [List.length_cons]; omega
        rw [if_pos h2, if_pos e2, if_neg e, show i - o = (i - (o + 1)) + 1 by omega, List.getD_cons_succ]
      · have e2 : ¬ (o ≤ i ∧ i < o + (v :: r).length) := by simp only [List.length_cons]; omega
        rw [if_neg h2, if_neg e, if_neg e2]
/-- 'clear' of a body. -/
theorem clear_body (h : OR w b 5 1 c 16 (ucell zs)) (cc : Nat) : ∃ w', (∀ ty, (Builtin.clear_ #[22] ty #[.slice (some ⟨b, 0, none⟩) 16 cc]).run Tryz.prog w = .ok (.tuple #[]) w') ∧ OR w' b 5 1 c 16 (ucell zeros) ∧ Kept (· = b) w w' := by
  have hz : ∀ w, (zeroValue 5).run Tryz.prog w = .ok (.int .u8 0) w := fun w => by
    obtain ⟨i0, hi, hz0, _, _⟩ := info_parts MdC.infoU8
    simp [zeroValue, typeInfo, hi, hz0]
  have hst := OR.stretch (List.replicate 16 (Value.int .u8 0)) 0 h
  refine ⟨_, fun ty => Lib.run_clear_slice w 22 5 ty (.int .u8 0) Tryz.underlying22 hz rfl rfl b 0 16 cc (by omega) (fun j hj => by rw [Nat.zero_add, h.cell (by omega)]; rfl) (fun j hj => h.frozen _), hst.congr fun i hi => ?_, GsC.kept_setCells _ _ _ _⟩
  have hi : i < 16 := by omega
  show (if 0 ≤ i ∧ i < 0 + (List.replicate 16 (Value.int .u8 0)).length then (List.replicate 16 (Value.int .u8 0)).getD (i - 0) (ucell zs i) else ucell zs i) = ucell zeros i
  unfold ucell zeros
  rw [List.length_replicate, if_pos (by omega), Nat.sub_zero]
  simp only [List.getD_eq_getElem?_getD, List.getElem?_replicate, if_pos hi]
  rfl
theorem onPage_bad {f : Nat → Re × Md} (hc : codeOf a.n a.T p ≠ 0) : a.onPage p f = (err (codeOf a.n a.T p), a) := by
  unfold Md.onPage
  by_cases h1 : 0 ≤ p ∧ p < (a.n : Int)
  · have e0 : codeOf a.n a.T p = if a.T p.toNat = false then 2 else 0 := if_neg (fun x => x h1)
    rw [e0] at hc ⊢
    rw [if_neg (fun x => x h1)]
    cases hT : a.T p.toNat with
    | false => rfl
    | true => rw [hT] at hc; exact absurd rfl hc
  · rw [if_pos h1, code_out h1]
theorem onPage_good {f : Nat → Re × Md} {p : Nat} (hp : p < a.n) (hT : a.T p = true) : a.onPage (p : Int) f = f p := by
  unfold Md.onPage
  rw [if_neg (by omega), Int.toNat_natCast, if_neg (by rw [hT]; simp)]
theorem onHand_bad {f : Nat → Re × Md} {c h : Int} (hh : a.held c h = -1) : a.onHand c h f = (err 5, a) := by
  unfold Md.onHand
  rw [if_pos (by omega)]
theorem onHand_good {f : Nat → Re × Md} {c h : Int} {p : Nat} (hh : a.held c h = (p : Int)) : a.onHand c h f = f p := by
  unfold Md.onHand
  rw [hh, if_neg (by omega), Int.toNat_natCast]
theorem code_cases (n : Nat) (T : Nat → Bool) (p : Int) : codeOf n T p = 0 ∨ codeOf n T p ≠ 0 := Classical.em _
set_option maxHeartbeats 4000000 in
theorem fetch_any (h : St0 w G gT cT gB cB gH cH qb cb q cp a) (hk : k < a.N) (p : Int) : Calls Tryz.prog 131 #[sval gT cT gB cB gH cH a, .slice (some ⟨q k, 0, none⟩) 6 (cp k), .int .i64 p] w (PPost G (sval gT cT gB cB gH cH a) w (a.onPage p (a.fetch k))) := by
  have HK := Lib.hid hk
  have HS := Lib.hid h
  have HF := Lib.hid (fr_new w gT cT gB cB gH cH a)
  obtain ⟨P, hP⟩ : ∃ P, P = PPost G (sval gT cT gB cB gH cH a) w (a.onPage p (a.fetch k)) := ⟨_, rfl⟩
  have HP := Lib.hid hP
  rw [← hP]
  clear h hk hP
  unfold sval
  go_enter Tryz.func131, Tryz.ntmps131
  go_upto_region 1 with (fail)
  generalize (w.alloc (.cells #[.slice (some ⟨gT, 0, none⟩) a.n cT, .slice (some ⟨gB, 0, none⟩) a.n cB, .slice (some ⟨gH, 0, none⟩) a.N cH] 64)).alloc (.cells #[.int .i64 0, .int .i64 0, .int .i64 0, .slice none 0 0] 27) = w0 at *
  generalize w.heap.size = s at HF ⊢
  have HPM := Lib.hid (HS.out.pm.kept HF.out.gr fun _ _ x => x)
  have HFI := Lib.hid fun (w' : World) (hk : Grow w0 w') => find_any (w := w') (n := a.n) (T := a.T) (AB := some ⟨gB, 0, none⟩) (nB := a.n) (cB := cB) (AH := some ⟨gH, 0, none⟩) (nH := a.N) (cH := cH) (cT := cT) (((HPM.out.parts HS.out.good).grow hk).T) p
  have s0 := HF.out.s0
  have s1 := HF.out.s1
  have s2 := HF.out.s2
  rcases code_cases a.n a.T p with hc | hc
  · obtain ⟨pn, rfl, hpn, hT⟩ := code_zero hc
    have HPN := Lib.hid hpn
    have HT := Lib.hid hT
    rw [onPage_good hpn hT] at HP
    rw [hc] at HFI
    rcases free_good HS.out.good HK.out with hf | ⟨j, hj, hf, hm⟩
    · have e1 : a.fetch k pn = (err 4, a) := if_pos hf
      have HFR := Lib.hid hf
      rw [e1] at HP
      clear hc hpn hT hf e1
      go_wp2_with (first
        | (go_at_call 135; (with_reducible refine (HFI.out _ (Kept.refl _ _)).mono ?_); rintro e wf ⟨rfl, hgf⟩; have HGF : Hid (Grow w0 wf) := hgf; clear hgf)
        | (go_at_call 169; (with_reducible refine (index_any ((HPM.out.rb k HK.out).kept HGF.out id)).mono ?_); rintro e wi ⟨rfl, rfl⟩; rw [free_hnd, HFR.out])
        | (go_at_call 76; (with_reducible refine (code_any _ 4).mono ?_); rintro e wc ⟨rfl, hgc⟩; have HGC : Hid (Grow w0 wc) := HGF.out.trans hgc; clear hgc; obtain ⟨t0, t1, t2, t3, tf⟩ := HF.out.resK (G := G) HS.out.lt (Grow.kept HGC.out)))
      rw [HP.out]
      have hfin := HF.out.fin HS.out.lt (Grow.kept HGC.out) (HS.out.at_.grow (HF.out.gr.trans HGC.out)) 4 0 0
      exact ret_res rfl rfl hfin.1 rfl hfin.2
    · have e1 : a.fetch k pn = (⟨0, pn, a.free k, []⟩, a.putH k (a.free k).toNat pn) := by unfold Md.fetch; rw [if_neg (by omega)]
      have HFR := Lib.hid hf
      rw [hf, Int.toNat_natCast] at e1
      rw [e1] at HP
      have hj1 : ((j : Int) == -1) = false := by simp <;> omega
      have hjz : (j : Int) < 6 := by omega
      have r0 := hcell_get (HPM.out.rb k HK.out) hj
      rw [hm] at r0
      have HR0 := Lib.hid r0
      clear hc hpn hT hf e1 hm hj r0
      go_upto_region 7 with (first
        | (go_at_call 135; (with_reducible refine (HFI.out _ (Kept.refl _ _)).mono ?_); rintro e wf ⟨rfl, hgf⟩; have HGF : Hid (Grow w0 wf) := hgf; clear hgf)
        | (go_at_call 169; (with_reducible refine (index_any ((HPM.out.rb k HK.out).kept HGF.out id)).mono ?_); rintro e wi ⟨rfl, rfl⟩; rw [free_hnd, HFR.out]))
      have r1 := HGF.out.cellN HR0.out id
      have HPM1 := Lib.hid (HPM.out.kept HGF.out fun _ _ x => x)
      have f1 := (HPM1.out.rb k HK.out).frozen j
      have HS2 := Lib.hid (HPM1.out.putH HK.out j (pn : Int))
      have HK2 : Hid (Kept G w0 (wf.setCell ⟨q k, j, none⟩ (.int .i64 (pn : Int)))) := (Grow.kept HGF.out).trans ((kept_set wf (q k) j _).mono fun x _ e => by rw [e]; exact HPM1.out.qG k HK.out)
      have HGN := Lib.hid (HS.out.good.putH k j (p := (pn : Int)) (.inr ⟨pn, rfl, HPN.out, HT.out⟩))
      go_upto_region 8 with (fail)
      clear r1 f1
      generalize wf.setCell ⟨q k, j, none⟩ (.int .i64 (pn : Int)) = w3 at HS2 HK2 ⊢
      obtain ⟨t0, t1, t2, t3, tf⟩ := HF.out.resK (G := G) HS.out.lt HK2.out
      go_wp2
      rw [HP.out]
      have hfin := HF.out.fin HS.out.lt HK2.out ⟨HGN.out, gT, cT, gB, cB, gH, cH, qb, cb, q, cp, rfl, HS2.out⟩ 0 (pn : Int) (j : Int)
      exact ret_res rfl rfl hfin.1 rfl hfin.2
  · rw [onPage_bad hc] at HP
    have hc1 : (codeOf a.n a.T p != 0) = true := by simpa using hc
    have hc2 : (codeOf a.n a.T p == 0) = false := by simpa using hc
    generalize codeOf a.n a.T p = cz at *
    clear hc
    go_wp2_with (first
      | (go_at_call 135; (with_reducible refine (HFI.out _ (Kept.refl _ _)).mono ?_); rintro e wf ⟨rfl, hgf⟩; have HGF : Hid (Grow w0 wf) := hgf; clear hgf)
      | (go_at_call 76; (with_reducible refine (code_any _ cz).mono ?_); rintro e wc ⟨rfl, hgc⟩; have HGC : Hid (Grow w0 wc) := HGF.out.trans hgc; clear hgc; obtain ⟨t0, t1, t2, t3, tf⟩ := HF.out.resK (G := G) HS.out.lt (Grow.kept HGC.out)))
    rw [HP.out]
    have hfin := HF.out.fin HS.out.lt (Grow.kept HGC.out) (HS.out.at_.grow (HF.out.gr.trans HGC.out)) cz 0 0
    exact ret_res rfl rfl hfin.1 rfl hfin.2
set_option maxHeartbeats 4000000 in
theorem remove_any (h : St0 w G gT cT gB cB gH cH qb cb q cp a) (p : Int) : Calls Tryz.prog 136 #[sval gT cT gB cB gH cH a, .int .i64 p] w (PPost G (sval gT cT gB cB gH cH a) w (a.onPage p a.del)) := by
  have HS := Lib.hid h
  have HF := Lib.hid (fr_new w gT cT gB cB gH cH a)
  obtain ⟨P, hP⟩ : ∃ P, P = PPost G (sval gT cT gB cB gH cH a) w (a.onPage p a.del) := ⟨_, rfl⟩
  have HP := Lib.hid hP
  rw [← hP]
  clear h hP
  unfold sval
  go_enter Tryz.func136, Tryz.ntmps136
  go_upto_region 1 with (fail)
  generalize (w.alloc (.cells #[.slice (some ⟨gT, 0, none⟩) a.n cT, .slice (some ⟨gB, 0, none⟩) a.n cB, .slice (some ⟨gH, 0, none⟩) a.N cH] 64)).alloc (.cells #[.int .i64 0, .int .i64 0, .int .i64 0, .slice none 0 0] 27) = w0 at *
  generalize w.heap.size = s at HF ⊢
  have HPM := Lib.hid (HS.out.pm.kept HF.out.gr fun _ _ x => x)
  have HFI := Lib.hid fun (w' : World) (hk : Grow w0 w') => find_any (w := w') (n := a.n) (T := a.T) (AB := some ⟨gB, 0, none⟩) (nB := a.n) (cB := cB) (AH := some ⟨gH, 0, none⟩) (nH := a.N) (cH := cH) (cT := cT) (((HPM.out.parts HS.out.good).grow hk).T) p
  have s0 := HF.out.s0
  have s1 := HF.out.s1
  have s2 := HF.out.s2
  rcases code_cases a.n a.T p with hc | hc
  · obtain ⟨pn, rfl, hpn, hT⟩ := code_zero hc
    have HPN := Lib.hid hpn
    have HT := Lib.hid hT
    rw [onPage_good hpn hT] at HP
    rw [hc] at HFI
    by_cases hpi : a.pins (pn : Int) = 0
    · have e1 : a.del pn = (err 0, a.putT pn false) := if_neg (by omega)
      have HPI : Hid ((a.pins (pn : Int) : Int) = 0) := by show (a.pins (pn : Int) : Int) = 0; rw [hpi]; rfl
      have HGN := Lib.hid (HS.out.good.putT pn false (.inr (pins_zero hpi)))
      rw [e1] at HP
      have hpz : (pn : Int) < (a.n : Int) := by omega
      clear hc hpn hT hpi e1
      go_upto_region 6 with (first
        | (go_at_call 135; (with_reducible refine (HFI.out _ (Kept.refl _ _)).mono ?_); rintro e wf ⟨rfl, hgf⟩; have HGF : Hid (Grow w0 wf) := hgf; have s0 := (HF.out.sb.grow hgf).cell 0; have s1 := (HF.out.sb.grow hgf).cell 1; have s2 := (HF.out.sb.grow hgf).cell 2; clear hgf; simp only [List.getElem?_cons_zero, List.getElem?_cons_succ] at s0 s1 s2)
        | (go_at_call 28; (with_reducible refine (ppins_any ((HPM.out.parts HS.out.good).grow HGF.out) HS.out.good (pn : Int)).mono ?_); rintro e wp ⟨rfl, hgp⟩; rw [HPI.out]; have HGP : Hid (Grow w0 wp) := HGF.out.trans hgp; have s0 := (HF.out.sb.grow HGP.out).cell 0; have s1 := (HF.out.sb.grow HGP.out).cell 1; clear hgp))
      simp only [List.getElem?_cons_zero, List.getElem?_cons_succ] at s0 s1
      have HPM1 := Lib.hid (HPM.out.kept HGP.out fun _ _ x => x)
      have r1 := HPM1.out.tb.cell (i := pn) (by have := HPN.out; omega)
      have f1 := HPM1.out.tb.frozen pn
      unfold tcell at r1
      rw [HT.out] at r1
      have HS2 := Lib.hid (HPM1.out.flag pn false)
      have HK2 : Hid (Kept G wp (wp.setCell ⟨gT, pn, none⟩ (.bool false))) := (kept_set wp gT pn (.bool false)).mono fun x _ e => by rw [e]; exact HPM1.out.inG.1
      go_upto_region 7 with (fail)
      clear r1 f1 s0 s1 s2
      generalize wp.setCell ⟨gT, pn, none⟩ (.bool false) = w2 at HS2 HK2 ⊢
      have HK3 := Lib.hid ((Grow.kept HGP.out).trans HK2.out)
      have s1 := (HF.out.sbK HS.out.lt HK3.out).cell 1
      simp only [List.getElem?_cons_zero, List.getElem?_cons_succ] at s1
      have r2 := HS2.out.bb.cell (i := pn) (by have := HPN.out; show pn < a.n * 1; omega)
      unfold bsl at r2
      obtain ⟨w4, hr4, hb4, hk4⟩ := clear_body (HS2.out.br pn HPN.out) (cb pn)
      have HS4 := Lib.hid (HS2.out.body HPN.out hk4 (b := zeros) hb4)
      have HK4 : Hid (Kept G w0 w4) := HK3.out.trans (hk4.mono fun x _ e => by rw [e]; exact HPM1.out.bG pn HPN.out)
      clear hb4 hk4
      go_upto_region 8 with (fail)
      clear hr4 r2 s1
      go_wp2_with (go_at_call 76; (with_reducible refine (code_any _ 0).mono ?_); rintro e wc ⟨rfl, hgc⟩; have HKC : Hid (Kept G w0 wc) := HK4.out.trans (Grow.kept hgc); have HGC := Lib.hid hgc; clear hgc; obtain ⟨t0, t1, t2, t3, tf⟩ := HF.out.resK (G := G) HS.out.lt HKC.out)
      rw [HP.out]
      have hfin := HF.out.fin HS.out.lt HKC.out (PAt.grow ⟨HGN.out, gT, cT, gB, cB, gH, cH, qb, cb, q, cp, rfl, HS4.out⟩ HGC.out) 0 0 0
      exact ret_res rfl rfl hfin.1 rfl hfin.2
    · have e1 : a.del pn = (err 7, a) := if_pos (by omega)
      rw [e1] at HP
      obtain ⟨m, hm⟩ : ∃ m, m = a.pins (pn : Int) := ⟨_, rfl⟩
      have HPI : Hid ((a.pins (pn : Int) : Int) = (m : Int)) := by show (a.pins (pn : Int) : Int) = (m : Int); rw [hm]
      have hmz : 0 < (m : Int) := by omega
      clear hc hpn hT hpi e1 hm
      go_wp2_with (first
        | (go_at_call 135; (with_reducible refine (HFI.out _ (Kept.refl _ _)).mono ?_); rintro e wf ⟨rfl, hgf⟩; have HGF : Hid (Grow w0 wf) := hgf; have s0 := (HF.out.sb.grow hgf).cell 0; have s1 := (HF.out.sb.grow hgf).cell 1; have s2 := (HF.out.sb.grow hgf).cell 2; clear hgf; simp only [List.getElem?_cons_zero, List.getElem?_cons_succ] at s0 s1 s2)
        | (go_at_call 28; (with_reducible refine (ppins_any ((HPM.out.parts HS.out.good).grow HGF.out) HS.out.good (pn : Int)).mono ?_); rintro e wp ⟨rfl, hgp⟩; rw [HPI.out]; have HGP : Hid (Grow w0 wp) := HGF.out.trans hgp; have s0 := (HF.out.sb.grow HGP.out).cell 0; have s1 := (HF.out.sb.grow HGP.out).cell 1; clear hgp)
        | (go_at_call 76; (with_reducible refine (code_any _ 7).mono ?_); rintro e wc ⟨rfl, hgc⟩; have HGC : Hid (Grow w0 wc) := HGP.out.trans hgc; clear hgc; obtain ⟨t0, t1, t2, t3, tf⟩ := HF.out.resK (G := G) HS.out.lt (Grow.kept HGC.out)))
      rw [HP.out]
      have hfin := HF.out.fin HS.out.lt (Grow.kept HGC.out) (HS.out.at_.grow (HF.out.gr.trans HGC.out)) 7 0 0
      exact ret_res rfl rfl hfin.1 rfl hfin.2
  · rw [onPage_bad hc] at HP
    have hc1 : (codeOf a.n a.T p != 0) = true := by simpa using hc
    have hc2 : (codeOf a.n a.T p == 0) = false := by simpa using hc
    generalize codeOf a.n a.T p = cz at *
    clear hc
    go_wp2_with (first
      | (go_at_call 135; (with_reducible refine (HFI.out _ (Kept.refl _ _)).mono ?_); rintro e wf ⟨rfl, hgf⟩; have HGF : Hid (Grow w0 wf) := hgf; clear hgf)
      | (go_at_call 76; (with_reducible refine (code_any _ cz).mono ?_); rintro e wc ⟨rfl, hgc⟩; have HGC : Hid (Grow w0 wc) := HGF.out.trans hgc; clear hgc; obtain ⟨t0, t1, t2, t3, tf⟩ := HF.out.resK (G := G) HS.out.lt (Grow.kept HGC.out)))
    rw [HP.out]
    have hfin := HF.out.fin HS.out.lt (Grow.kept HGC.out) (HS.out.at_.grow (HF.out.gr.trans HGC.out)) cz 0 0
    exact ret_res rfl rfl hfin.1 rfl hfin.2
end
end Go.Proofs.YtbnkpnllgoghnaaGreat.PmU

namespace Go.Proofs.YtbnkpnllgoghnaaGreat.PmR
open Go.ChangeShapes Go.WideShapes Go.ChangeAt Go.RowKit
open Go.Proofs.YtbnkpnllgoghnaaGreat.Mem Go.Proofs.YtbnkpnllgoghnaaGreat.Blk Go.Proofs.YtbnkpnllgoghnaaGreat.Cells Go.Proofs.YtbnkpnllgoghnaaGreat.Orow Go.Proofs.YtbnkpnllgoghnaaGreat.MdM Go.Proofs.YtbnkpnllgoghnaaGreat.PmC
theorem add_off (b o j : Nat) : (⟨b, o, none⟩ : Addr).add j = ⟨b, o + j, none⟩ := by unfold Addr.add; split <;> simp_all
/-- Cells of numbers. -/
def ncl (k : IntKind) (zs : List Int) (j : Nat) : Value := .int k (zs.getD j 0)
/-- Rows of numbers of the call's own, told by a slice of its own. -/
structure Rs (w : World) (G : Nat → Prop) (v : Value) (tr te : TypeId) (k : IntKind) (n : Nat) (V : Nat → Value) (L : Nat → List Int) : Prop where
  out : OS w G v tr 1 n V
  row : ∀ i, i < n → OS w G (V i) te 1 (L i).length (ncl k (L i))
  off : ∀ i, i < n → ∀ r, (V i).ownBlock = some r → v.ownBlock ≠ some r
  ne : ∀ i j, i < n → j < n → i ≠ j → ∀ r, (V i).ownBlock = some r → (V j).ownBlock ≠ some r
section
variable {w w' : World} {G F X : Nat → Prop} {v x : Value} {tr te : TypeId} {k : IntKind} {n g cap : Nat} {V : Nat → Value} {L : Nat → List Int}
theorem os_mono {t : TypeId} {s : Nat} {f : Nat → Value} (h : OS w G v t s n f) (hX : ∀ k, k < w.heap.size → G k → X k) : OS w X v t s n f := GrC.os_mono h hX
theorem os_grow {t : TypeId} {s : Nat} {f : Nat → Value} (h : OS w G v t s n f) (hk : Grow w w') : OS w' G v t s n f := h.kept hk fun _ _ x => x
theorem os_in {t : TypeId} {s : Nat} {f : Nat → Value} (h : OS w G v t s n f) {k : Nat} (hk : v.ownBlock = some k) : G k ∧ k < w.heap.size := h.own.2 k hk
theorem os_keep {t : TypeId} {s : Nat} {f : Nat → Value} (h : OS w G v t s n f) (hk : Kept F w w') (hF : ∀ k, v.ownBlock = some k → ¬ F k) : OS w' G v t s n f := by
  rcases h with x | ⟨g, cap, rfl, ho, hg⟩
  · exact .inl x
  · exact .inr ⟨g, cap, rfl, ho.kept hk (hF g rfl), hg⟩
theorem os_form {t : TypeId} {s : Nat} {f : Nat → Value} (h : OS w G v t s n f) : ∃ A c, v = .slice A n c := by
  rcases h with ⟨rfl, rfl⟩ | ⟨g, cap, rfl, _⟩
  · exact ⟨_, _, rfl⟩
  · exact ⟨_, _, rfl⟩
theorem os_one {t : TypeId} {s : Nat} {f : Nat → Value} (h : OS w G v t s n f) : v.oneCell' = true := by
  rcases h with ⟨rfl, _⟩ | ⟨g, cap, rfl, _⟩ <;> rfl
theorem Rs.grow (h : Rs w G v tr te k n V L) (hk : Grow w w') : Rs w' G v tr te k n V L :=
  ⟨os_grow h.out hk, fun i hi => os_grow (h.row i hi) hk, h.off, h.ne⟩
theorem rs_nil (w : World) (G : Nat → Prop) (tr te : TypeId) (k : IntKind) (V : Nat → Value) (L : Nat → List Int) : Rs w G (.slice none 0 0) tr te k 0 V L :=
  ⟨.inl ⟨rfl, rfl⟩, fun i hi => absurd hi (Nat.not_lt_zero i), fun i hi => absurd hi (Nat.not_lt_zero i), fun i _ hi => absurd hi (Nat.not_lt_zero i)⟩
def up (V : Nat → Value) (n : Nat) (x : Value) (i : Nat) : Value := if i = n then x else V i
theorem up_same : up V n x n = x := if_pos rfl
theorem up_other {i : Nat} (h : i < n) : up V n x i = V i := if_neg (by omega)
theorem Rs.push (h : Rs w G v tr te k n V L) (hx : OS w G x te 1 (L n).length (ncl k (L n))) (hnr : ∀ i, i < n → ∀ r, (V i).ownBlock = some r → x.ownBlock ≠ some r) (hvr : ∀ r, x.ownBlock = some r → v.ownBlock ≠ some r)
    (ho : OR w' g tr 1 cap (n + 1) (joined V (fun _ => x) (n * 1))) (hk : Kept (fun k => v.ownBlock = some k) w w') (hg : v.ownBlock = some g ∨ g = w.heap.size) (hnew : ∀ k, w.heap.size ≤ k → G k) :
    Rs w' G (.slice (some ⟨g, 0, none⟩) (n + 1) cap) tr te k (n + 1) (up V n x) L := by
  have hgG : G g := by
    rcases hg with e | e
    · exact (os_in h.out e).1
    · exact hnew _ (by omega)
  have hgr : x.ownBlock ≠ some g := fun e2 => by
    rcases hg with e | e
    · exact hvr g e2 e
    · have := (os_in hx e2).2; omega
  refine ⟨.inr ⟨g, cap, rfl, ho.congr fun i hi => ?_, hgG⟩, fun i hi => ?_, fun i hi r hr => ?_, fun i j hi hj hij r hr => ?_⟩
  · unfold joined
    by_cases e : i < n
    · rw [if_pos (by omega), up_other e]
    · have : i = n := by omega
      subst this
      rw [if_neg (by omega), up_same]
  · by_cases e : i < n
    · rw [up_other e]
      exact os_keep (h.row i e) hk fun r hr e2 => h.off i e r hr e2
    · have : i = n := by omega
      subst this
      rw [up_same]
      exact os_keep hx hk fun r hr e2 => hvr r hr e2
  · show some g ≠ some r
    rintro e2
    injection e2 with e2
    subst e2
    by_cases e : i < n
    · rw [up_other e] at hr
      rcases hg with y | y
      · exact h.off i e g hr y
      · have := (os_in (h.row i e) hr).2; omega
    · have : i = n := by omega
      subst this
      rw [up_same] at hr
      exact hgr hr
  · by_cases e1 : i < n
    · rw [up_other e1] at hr
      by_cases e2 : j < n
      · rw [up_other e2]
        exact h.ne i j e1 e2 hij r hr
      · have : j = n := by omega
        subst this
        rw [up_same]
        exact hnr i e1 r hr
    · have : i = n := by omega
      subst this
      rw [up_same] at hr
      have e2 : j < i := by omega
      rw [up_other e2]
      exact fun e3 => hnr j e2 r e3 hr
/-- Rows are read. -/
theorem os_sl {zs : List Int} (h : OS w G v te 1 n (ncl k zs)) (hz : zs.length = n) : ∃ A c, v = .slice A n c ∧ Sl w w.heap.size k A n zs := by
  rcases h with ⟨rfl, rfl⟩ | ⟨g, cap, rfl, ho, _⟩
  · exact ⟨none, 0, rfl, hz, fun h => absurd h (by omega)⟩
  · exact ⟨_, _, rfl, hz, fun hn => ⟨g, 0, rfl, ho.lt, fun j hj => by rw [Nat.zero_add]; exact ho.cell (by omega)⟩⟩
theorem Rs.lists (h : Rs w G v tr te k n V L) : ∃ A c, v = .slice A n c ∧ Lists w k A n L := by
  rcases h.out with ⟨rfl, rfl⟩ | ⟨g, cap, rfl, ho, _⟩
  · exact ⟨none, 0, rfl, fun h => absurd h (by omega)⟩
  · refine ⟨_, _, rfl, fun hn => ⟨g, 0, rfl, fun i hi => ?_⟩⟩
    obtain ⟨A', c, e, hs⟩ := os_sl (h.row i hi) rfl
    refine ⟨A', c, ?_, hs⟩
    rw [Nat.zero_add, ← e]
    exact ho.cell (by omega)
theorem os_flags {T : Nat → Bool} (h : OS w G v te 1 n (MdC.tcell T)) : ∃ A c, v = .slice A n c ∧ Flags w A n T := by
  rcases h with ⟨rfl, rfl⟩ | ⟨g, cap, rfl, ho, _⟩
  · exact ⟨none, 0, rfl, fun h => absurd h (by omega)⟩
  · exact ⟨_, _, rfl, fun hn => ⟨g, 0, rfl, fun i hi => by rw [Nat.zero_add]; exact ho.cell (by omega)⟩⟩
/-- 'append([]T{}, s...)', s no nil slice. -/
theorem clone_run {P : Program} {w : World} {n : Nat} {f : Nat → Value} (T e : TypeId) (z : Value) (bytes : Nat) (hT : P.underlying T = some (.slice e))
    (hinfo : (P.info? e).map (fun i => (i.zero, i.size, i.bytes)) = some (some z, 1, bytes)) (hzs : z.cells.size = 1) (hb : bytes ≤ 1000) (a : Addr) (hc : 0 < n → ∃ b off, a = ⟨b, off, none⟩ ∧ ∀ j, j < n → w.cell? ⟨b, off + j, none⟩ = some (f j)) (h1 : ∀ j, j < n → (f j).oneCell' = true) (c : Nat) (hn : n ≤ 100000) :
    ∃ v' w', (∀ ty, (Builtin.append_ #[T, T] ty #[.slice (some ⟨w.heap.size, 0, none⟩) 0 0, .slice (some a) n c]).run P (w.alloc (.cells #[] e)) = .ok v' w') ∧ OS w' (w.heap.size ≤ ·) v' e 1 n f ∧ v' ≠ .slice none 0 0 ∧ Grow w w' := by
  obtain ⟨i, hi, hz, hs, hby⟩ := info_parts hinfo
  have hown : (w.alloc (.cells #[] e)).ownsRow w.heap.size e 1 (.slice (some ⟨w.heap.size, 0, none⟩) 0 0) 0 [] :=
    ⟨rfl, .inr ⟨_, 0, #[], rfl, Nat.le_refl _, heap_alloc_new w _, Nat.le_refl _, Nat.zero_le _, rfl, rfl⟩⟩
  obtain ⟨v', w', hr, h2, h3, h4, _⟩ := run_append_own_at (P := P) (w := w.alloc (.cells #[] e)) w.heap.size T 0 e i z 1 bytes hT hi hz hs hby hzs (by omega) _ 0 [] hown a n c ((List.range n).map f) (by simp)
    (fun j u hj => by
      have hjn : j < n := by
        have := (List.getElem?_eq_some_iff.1 hj).1
        simpa using this
      obtain ⟨b, off, rfl, hcc⟩ := hc (by omega)
      rw [add_off]
      refine Lib.cell?_alloc_some _ ?_
      rw [hcc j hjn, ← hj]
      simp [hjn])
    (fun u hu => by
      obtain ⟨j, hj, rfl⟩ := List.mem_map.1 hu
      exact h1 j (List.mem_range.1 hj)) (by unfold maxLen; omega) (by
        have : (0 + n) * bytes ≤ 100000 * 1000 := Nat.mul_le_mul (by omega) hb
        omega) (by simp)
  rw [Nat.zero_add, List.nil_append] at h2
  refine ⟨v', w', fun ty => hr, ?_, (fun e0 => by simpa using (h4.1 e0).1), ((Kept.refl _ w).alloc _).grown h3 fun k hk hlt => ?_⟩
  · rcases h2.2 with ⟨e0, e1⟩ | ⟨g, cap, cur, e0, hbg, hcur, hle, hmax, hsz, htake⟩
    · exact .inl ⟨e0, e1⟩
    · refine .inr ⟨g, cap, e0, ⟨cur, hcur, hsz, hle, hmax, fun j hj => ?_⟩, hbg⟩
      have hjn : j < n := by omega
      have : (cur.toList.take (n * 1))[j]? = ((List.range n).map f)[j]? := by rw [htake]
      rw [List.getElem?_take, if_pos hj] at this
      simpa [hjn] using this
  · simp [Value.ownBlock] at hk
    omega
end
end Go.Proofs.YtbnkpnllgoghnaaGreat.PmR

namespace Go.Proofs.YtbnkpnllgoghnaaGreat.PmK
open Go.ChangeShapes Go.WideShapes Go.ChangeAt Go.RowKit
open Go.Proofs.YtbnkpnllgoghnaaGreat.Mem Go.Proofs.YtbnkpnllgoghnaaGreat.Blk Go.Proofs.YtbnkpnllgoghnaaGreat.Cells Go.Proofs.YtbnkpnllgoghnaaGreat.Orow Go.Proofs.YtbnkpnllgoghnaaGreat.MdM Go.Proofs.YtbnkpnllgoghnaaGreat.PmC Go.Proofs.YtbnkpnllgoghnaaGreat.PmR Go.Proofs.YtbnkpnllgoghnaaGreat.Stages
theorem infoclone_bools : (Tryz.prog.info? 4).map (fun i => (i.zero, i.size, i.bytes)) = some (some (.bool false), 1, 1) := by kernel_rfl
theorem infoclone_bytes : (Tryz.prog.info? 5).map (fun i => (i.zero, i.size, i.bytes)) = some (some (.int .u8 0), 1, 1) := by kernel_rfl
theorem infobytes_clone : (Tryz.prog.info? 5).map (fun i => (i.zero, i.size, i.bytes)) = some (some (.int .u8 0), 1, 1) := by kernel_rfl
theorem infoclone_ints : (Tryz.prog.info? 3).map (fun i => (i.zero, i.size, i.bytes)) = some (some (.int .i64 0), 1, 8) := by kernel_rfl
theorem inforows_bytes : (Tryz.prog.info? 22).map (fun i => (i.zero, i.size, i.bytes)) = some (some (.slice none 0 0), 1, 24) := by kernel_rfl
theorem inforows_ints : (Tryz.prog.info? 33).map (fun i => (i.zero, i.size, i.bytes)) = some (some (.slice none 0 0), 1, 24) := by kernel_rfl
section
variable {w : World} {A : Option Addr} {T : Nat → Bool}
theorem clone_bools {n : Nat} (hc : 0 < n → ∃ b off, A = some ⟨b, off, none⟩ ∧ ∀ j, j < n → w.cell? ⟨b, off + j, none⟩ = some (MdC.tcell T j)) (c : Nat) (hn : n ≤ 100000) : Calls Tryz.prog 125 #[.slice A n c] w fun e w' => (∃ v, e = .returned v ∧ OS w' (w.heap.size ≤ ·) v 4 1 n (MdC.tcell T)) ∧ Grow w w' := by
  have ke : ∀ w : World, (binOp .eql 46 (.slice A n c) (.slice none 0 0)).run Tryz.prog w = .ok (.bool A.isNone) w := fun w => Lib.run_eql_slice_nil (P := Tryz.prog) w 46 4 _ _ _ _ _ Tryz.underlying46
  cases A with
  | none =>
    have hn0 : n = 0 := by
      rcases Nat.eq_zero_or_pos n with e | e
      · exact e
      · obtain ⟨_, _, e', _⟩ := hc e
        cases e'
    subst hn0
    clear hc
    go_enter Tryz.func125, Tryz.ntmps125
    go_wp2
    go_ret
    exact ⟨⟨_, rfl, .inl ⟨rfl, rfl⟩⟩, Kept.refl _ _⟩
  | some a =>
    obtain ⟨v', w2, hr, ho, _, hg⟩ := clone_run (P := Tryz.prog) (w := w) (f := MdC.tcell T) 46 4 _ _ Tryz.underlying46 infoclone_bools rfl (by omega) a (fun hp => by
      obtain ⟨b, off, e, h⟩ := hc hp
      injection e with e
      exact ⟨b, off, e, h⟩) (fun _ _ => rfl) c hn
    have HR := Lib.hid hr
    have HO := Lib.hid ho
    have HG := Lib.hid hg
    clear hr ho hg hc
    go_enter Tryz.func125, Tryz.ntmps125
    go_wp2_with (at_builtin; refine Lib.wpList_append_run _ rfl _ _ _ _ rfl _ _ rfl rfl _ _ (HR.out _) ?_)
    go_ret
    exact ⟨⟨_, rfl, HO.out⟩, HG.out⟩
theorem clone_bytes {n : Nat} {zs : List Int} (hs : Sl w w.heap.size .u8 A n zs) (c : Nat) (hn : n ≤ 100000) : Calls Tryz.prog 167 #[.slice A n c] w fun e w' => (∃ v, e = .returned v ∧ OS w' (w.heap.size ≤ ·) v 5 1 n (ncl .u8 zs)) ∧ Grow w w' := by
  have hc : 0 < n → ∃ b off, A = some ⟨b, off, none⟩ ∧ ∀ j, j < n → w.cell? ⟨b, off + j, none⟩ = some (ncl .u8 zs j) := fun hp => by
    obtain ⟨b, off, e, _, h⟩ := hs.at_ hp
    exact ⟨b, off, e, h⟩
  clear hs
  have ke : ∀ w : World, (binOp .eql 22 (.slice A n c) (.slice none 0 0)).run Tryz.prog w = .ok (.bool A.isNone) w := fun w => Lib.run_eql_slice_nil (P := Tryz.prog) w 22 5 _ _ _ _ _ Tryz.underlying22
  cases A with
  | none =>
    have hn0 : n = 0 := by
      rcases Nat.eq_zero_or_pos n with e | e
      · exact e
      · obtain ⟨_, _, e', _⟩ := hc e
        cases e'
    subst hn0
    clear hc
    go_enter Tryz.func167, Tryz.ntmps167
    go_wp2
    go_ret
    exact ⟨⟨_, rfl, .inl ⟨rfl, rfl⟩⟩, Kept.refl _ _⟩
  | some a =>
    obtain ⟨v', w2, hr, ho, _, hg⟩ := clone_run (P := Tryz.prog) (w := w) (f := ncl .u8 zs) 22 5 _ _ Tryz.underlying22 infoclone_bytes rfl (by omega) a (fun hp => by
      obtain ⟨b, off, e, h⟩ := hc hp
      injection e with e
      exact ⟨b, off, e, h⟩) (fun _ _ => rfl) c hn
    have HR := Lib.hid hr
    have HO := Lib.hid ho
    have HG := Lib.hid hg
    clear hr ho hg hc
    go_enter Tryz.func167, Tryz.ntmps167
    go_wp2_with (at_builtin; refine Lib.wpList_append_run _ rfl _ _ _ _ rfl _ _ rfl rfl _ _ (HR.out _) ?_)
    go_ret
    exact ⟨⟨_, rfl, HO.out⟩, HG.out⟩
theorem bytes_clone {n : Nat} {zs : List Int} (hs : Sl w w.heap.size .u8 A n zs) (c : Nat) (hn : n ≤ 100000) : Calls Tryz.prog 80 #[.slice A n c] w fun e w' => (∃ v, e = .returned v ∧ OS w' (w.heap.size ≤ ·) v 5 1 n (ncl .u8 zs)) ∧ Grow w w' := by
  have hc : 0 < n → ∃ b off, A = some ⟨b, off, none⟩ ∧ ∀ j, j < n → w.cell? ⟨b, off + j, none⟩ = some (ncl .u8 zs j) := fun hp => by
    obtain ⟨b, off, e, _, h⟩ := hs.at_ hp
    exact ⟨b, off, e, h⟩
  clear hs
  have ke : ∀ w : World, (binOp .eql 22 (.slice A n c) (.slice none 0 0)).run Tryz.prog w = .ok (.bool A.isNone) w := fun w => Lib.run_eql_slice_nil (P := Tryz.prog) w 22 5 _ _ _ _ _ Tryz.underlying22
  cases A with
  | none =>
    have hn0 : n = 0 := by
      rcases Nat.eq_zero_or_pos n with e | e
      · exact e
      · obtain ⟨_, _, e', _⟩ := hc e
        cases e'
    subst hn0
    clear hc
    go_enter Tryz.func80, Tryz.ntmps80
    go_wp2
    go_ret
    exact ⟨⟨_, rfl, .inl ⟨rfl, rfl⟩⟩, Kept.refl _ _⟩
  | some a =>
    obtain ⟨v', w2, hr, ho, _, hg⟩ := clone_run (P := Tryz.prog) (w := w) (f := ncl .u8 zs) 22 5 _ _ Tryz.underlying22 infobytes_clone rfl (by omega) a (fun hp => by
      obtain ⟨b, off, e, h⟩ := hc hp
      injection e with e
      exact ⟨b, off, e, h⟩) (fun _ _ => rfl) c hn
    have HR := Lib.hid hr
    have HO := Lib.hid ho
    have HG := Lib.hid hg
    clear hr ho hg hc
    go_enter Tryz.func80, Tryz.ntmps80
    go_wp2_with (at_builtin; refine Lib.wpList_append_run _ rfl _ _ _ _ rfl _ _ rfl rfl _ _ (HR.out _) ?_)
    go_ret
    exact ⟨⟨_, rfl, HO.out⟩, HG.out⟩
theorem clone_ints {n : Nat} {zs : List Int} (hs : Sl w w.heap.size .i64 A n zs) (c : Nat) (hn : n ≤ 100000) : Calls Tryz.prog 168 #[.slice A n c] w fun e w' => (∃ v, e = .returned v ∧ OS w' (w.heap.size ≤ ·) v 3 1 n (ncl .i64 zs)) ∧ Grow w w' := by
  have hc : 0 < n → ∃ b off, A = some ⟨b, off, none⟩ ∧ ∀ j, j < n → w.cell? ⟨b, off + j, none⟩ = some (ncl .i64 zs j) := fun hp => by
    obtain ⟨b, off, e, _, h⟩ := hs.at_ hp
    exact ⟨b, off, e, h⟩
  clear hs
  have ke : ∀ w : World, (binOp .eql 33 (.slice A n c) (.slice none 0 0)).run Tryz.prog w = .ok (.bool A.isNone) w := fun w => Lib.run_eql_slice_nil (P := Tryz.prog) w 33 3 _ _ _ _ _ Tryz.underlying33
  cases A with
  | none =>
    have hn0 : n = 0 := by
      rcases Nat.eq_zero_or_pos n with e | e
      · exact e
      · obtain ⟨_, _, e', _⟩ := hc e
        cases e'
    subst hn0
    clear hc
    go_enter Tryz.func168, Tryz.ntmps168
    go_wp2
    go_ret
    exact ⟨⟨_, rfl, .inl ⟨rfl, rfl⟩⟩, Kept.refl _ _⟩
  | some a =>
    obtain ⟨v', w2, hr, ho, _, hg⟩ := clone_run (P := Tryz.prog) (w := w) (f := ncl .i64 zs) 33 3 _ _ Tryz.underlying33 infoclone_ints rfl (by omega) a (fun hp => by
      obtain ⟨b, off, e, h⟩ := hc hp
      injection e with e
      exact ⟨b, off, e, h⟩) (fun _ _ => rfl) c hn
    have HR := Lib.hid hr
    have HO := Lib.hid ho
    have HG := Lib.hid hg
    clear hr ho hg hc
    go_enter Tryz.func168, Tryz.ntmps168
    go_wp2_with (at_builtin; refine Lib.wpList_append_run _ rfl _ _ _ _ rfl _ _ rfl rfl _ _ (HR.out _) ?_)
    go_ret
    exact ⟨⟨_, rfl, HO.out⟩, HG.out⟩
set_option maxHeartbeats 1000000 in
theorem rows_bytes {n : Nat} {L : Nat → List Int} (hl : Lists w .u8 A n L) (c : Nat) (hn : n ≤ 60) (hL : ∀ i, i < n → (L i).length ≤ 40) : Calls Tryz.prog 126 #[.slice A n c] w fun e w' => (∃ v V, e = .returned v ∧ Rs w' (w.heap.size ≤ ·) v 22 5 .u8 n V L) ∧ Grow w w' := by
  have HL := Lib.hid hl
  have HLL := Lib.hid hL
  have hnz : (n : Int) ≤ 60 := by omega
  have HN := Lib.hid hn
  obtain ⟨B, hB⟩ : ∃ B, B = w.heap.size := ⟨_, rfl⟩
  have HB := Lib.hid hB
  rw [← hB]
  obtain ⟨b, off, hA⟩ : ∃ b off, 0 < n → A = some ⟨b, off, none⟩ ∧ ∀ i, i < n → ∃ A' c, w.cell? ⟨b, off + i, none⟩ = some (.slice A' (L i).length c) ∧ Sl w w.heap.size .u8 A' (L i).length (L i) := by
    by_cases h0 : 0 < n
    · obtain ⟨b, off, h⟩ := hl h0
      exact ⟨b, off, fun _ => h⟩
    · exact ⟨0, 0, fun h => absurd h h0⟩
  have HA := Lib.hid hA
  clear hl hL hn hA hB
  go_enter Tryz.func126, Tryz.ntmps126
  go_wp2
  go_loopg [3, 8] n (fun gx v i wr => ∃ (j : Nat) (V : Nat → Value), j + gx = n ∧ i = .int .i64 (j : Int) ∧ Rs wr (B ≤ ·) v 22 5 .u8 j V L ∧ Grow w wr)
  case atStart => exact ⟨0, fun _ => .nilIface, by omega, rfl, rs_nil _ _ _ _ _ _ _, Kept.refl _ _⟩
  case round =>
    obtain ⟨j, V, hg, rfl, hrs, hgr⟩ := hrel
    have HG := Lib.hid hg
    have HRS := Lib.hid hrs
    have HGR := Lib.hid hgr
    clear hg hrs
    by_cases hj : j < n
    · have hjz : (j : Int) < (n : Int) := by omega
      have HJ := Lib.hid hj
      obtain ⟨rfl, hrow⟩ := HA.out (by omega)
      obtain ⟨A', c', hcell, hsl⟩ := hrow j hj
      have r1 := hgr.cellN hcell id
      have HC := Lib.hid (clone_bytes (sl_grow hsl hgr) c' (by have := HLL.out j hj; omega))
      clear hj hrow hcell hsl hgr
      generalize hlen : (L j).length = m at *
      have HLEN := Lib.hid hlen
      clear hlen
      go_wp2_with (first
        | (at_builtin; refine Lib.wpList_append_run _ rfl _ _ _ _ rfl _ _ rfl rfl _ _ (HR4.out _) ?_)
        | (go_at_call 167; (with_reducible refine HC.out.mono ?_); rintro e w2 ⟨⟨x, rfl, hx⟩, hg2⟩; obtain ⟨Ax, cx, rfl⟩ := os_form hx; have HX := Lib.hid hx; have HG2 := Lib.hid hg2; have HG3 : Hid (Grow w2 (w2.alloc (.cells #[.slice Ax m cx] 22))) := (Kept.refl _ w2).alloc _; have HRB := Lib.hid ((HRS.out.grow hg2).grow HG3.out); obtain ⟨i0, hi0, hz0, hz1, hz2⟩ := info_parts inforows_bytes; obtain ⟨g4, cap4, w4, hr4, ho4, hk4, hb4⟩ := append_or (P := Tryz.prog) 62 0 i0 _ 24 Tryz.underlying62 hi0 hz0 hz1 hz2 rfl (by omega) HRB.out.out (by have := HJ.out; have := HN.out; omega) (by omega) w2.heap.size 1 (u := fun _ => .slice Ax m cx) (fun q hq => by obtain rfl : q = 0 := (by omega); exact cell_new1 w2 (.slice Ax m cx) 22) (fun q hq => os_one HX.out); have HR4 : Hid (∀ ty, (Builtin.append_ #[62, 62] ty #[_, .slice (some ⟨w2.heap.size, 0, none⟩) 1 1]).run Tryz.prog (w2.alloc (.cells #[.slice Ax m cx] 22)) = .ok (.slice (some ⟨g4, 0, none⟩) (j + 1) cap4) w4) := fun ty => hr4; have HO4 := Lib.hid ho4; have HK4 := Lib.hid hk4; have HB4 := Lib.hid hb4; clear hx hg2 hr4 ho4 hk4 hb4))
      have HPU := Lib.hid (HRB.out.push (x := .slice Ax m cx) (by rw [HLEN.out]; exact os_mono (os_grow HX.out HG3.out) fun k _ (y : _ ≤ k) => by have := HB.out; have := HGR.out.size; show B ≤ k; omega) (fun i hi r hr e => by
        have h1 := (os_in (HRS.out.row i hi) hr).2
        have h2 : _ ≤ r := (os_in HX.out e).1
        omega) (fun r hr e => by
        have h1 := (os_in HRS.out.out e).2
        have h2 : _ ≤ r := (os_in HX.out hr).1
        omega) HO4.out HK4.out HB4.out (fun k hk => by have := HB.out; have := HGR.out.size; have := HG2.out.size; have := HG3.out.size; show B ≤ k; omega))
      have HGE : Hid (Grow w w4) := ((HGR.out.trans HG2.out).trans HG3.out).then HK4.out fun k hk e => by
        have h1 : B ≤ k := (os_in HRB.out.out e).1
        have := HB.out
        omega
      go_roundg (gk - 1)
      case measure => have := HG.out; have := HJ.out; omega
      case rel => exact ⟨j + 1, _, by have := HG.out; have := HJ.out; omega, by go_num, HPU.out, HGE.out⟩
    · obtain rfl : j = n := by have := HG.out; omega
      clear hj
      go_wp2
      go_ret
      exact ⟨⟨_, V, rfl, HRS.out⟩, HGR.out⟩
set_option maxHeartbeats 1000000 in
theorem rows_ints {n : Nat} {L : Nat → List Int} (hl : Lists w .i64 A n L) (c : Nat) (hn : n ≤ 60) (hL : ∀ i, i < n → (L i).length ≤ 40) : Calls Tryz.prog 127 #[.slice A n c] w fun e w' => (∃ v V, e = .returned v ∧ Rs w' (w.heap.size ≤ ·) v 33 3 .i64 n V L) ∧ Grow w w' := by
  have HL := Lib.hid hl
  have HLL := Lib.hid hL
  have hnz : (n : Int) ≤ 60 := by omega
  have HN := Lib.hid hn
  obtain ⟨B, hB⟩ : ∃ B, B = w.heap.size := ⟨_, rfl⟩
  have HB := Lib.hid hB
  rw [← hB]
  obtain ⟨b, off, hA⟩ : ∃ b off, 0 < n → A = some ⟨b, off, none⟩ ∧ ∀ i, i < n → ∃ A' c, w.cell? ⟨b, off + i, none⟩ = some (.slice A' (L i).length c) ∧ Sl w w.heap.size .i64 A' (L i).length (L i) := by
    by_cases h0 : 0 < n
    · obtain ⟨b, off, h⟩ := hl h0
      exact ⟨b, off, fun _ => h⟩
    · exact ⟨0, 0, fun h => absurd h h0⟩
  have HA := Lib.hid hA
  clear hl hL hn hA hB
  go_enter Tryz.func127, Tryz.ntmps127
  go_wp2
  go_loopg [3, 8] n (fun gx v i wr => ∃ (j : Nat) (V : Nat → Value), j + gx = n ∧ i = .int .i64 (j : Int) ∧ Rs wr (B ≤ ·) v 33 3 .i64 j V L ∧ Grow w wr)
  case atStart => exact ⟨0, fun _ => .nilIface, by omega, rfl, rs_nil _ _ _ _ _ _ _, Kept.refl _ _⟩
  case round =>
    obtain ⟨j, V, hg, rfl, hrs, hgr⟩ := hrel
    have HG := Lib.hid hg
    have HRS := Lib.hid hrs
    have HGR := Lib.hid hgr
    clear hg hrs
    by_cases hj : j < n
    · have hjz : (j : Int) < (n : Int) := by omega
      have HJ := Lib.hid hj
      obtain ⟨rfl, hrow⟩ := HA.out (by omega)
      obtain ⟨A', c', hcell, hsl⟩ := hrow j hj
      have r1 := hgr.cellN hcell id
      have HC := Lib.hid (clone_ints (sl_grow hsl hgr) c' (by have := HLL.out j hj; omega))
      clear hj hrow hcell hsl hgr
      generalize hlen : (L j).length = m at *
      have HLEN := Lib.hid hlen
      clear hlen
      go_wp2_with (first
        | (at_builtin; refine Lib.wpList_append_run _ rfl _ _ _ _ rfl _ _ rfl rfl _ _ (HR4.out _) ?_)
        | (go_at_call 168; (with_reducible refine HC.out.mono ?_); rintro e w2 ⟨⟨x, rfl, hx⟩, hg2⟩; obtain ⟨Ax, cx, rfl⟩ := os_form hx; have HX := Lib.hid hx; have HG2 := Lib.hid hg2; have HG3 : Hid (Grow w2 (w2.alloc (.cells #[.slice Ax m cx] 33))) := (Kept.refl _ w2).alloc _; have HRB := Lib.hid ((HRS.out.grow hg2).grow HG3.out); obtain ⟨i0, hi0, hz0, hz1, hz2⟩ := info_parts inforows_ints; obtain ⟨g4, cap4, w4, hr4, ho4, hk4, hb4⟩ := append_or (P := Tryz.prog) 48 0 i0 _ 24 Tryz.underlying48 hi0 hz0 hz1 hz2 rfl (by omega) HRB.out.out (by have := HJ.out; have := HN.out; omega) (by omega) w2.heap.size 1 (u := fun _ => .slice Ax m cx) (fun q hq => by obtain rfl : q = 0 := (by omega); exact cell_new1 w2 (.slice Ax m cx) 33) (fun q hq => os_one HX.out); have HR4 : Hid (∀ ty, (Builtin.append_ #[48, 48] ty #[_, .slice (some ⟨w2.heap.size, 0, none⟩) 1 1]).run Tryz.prog (w2.alloc (.cells #[.slice Ax m cx] 33)) = .ok (.slice (some ⟨g4, 0, none⟩) (j + 1) cap4) w4) := fun ty => hr4; have HO4 := Lib.hid ho4; have HK4 := Lib.hid hk4; have HB4 := Lib.hid hb4; clear hx hg2 hr4 ho4 hk4 hb4))
      have HPU := Lib.hid (HRB.out.push (x := .slice Ax m cx) (by rw [HLEN.out]; exact os_mono (os_grow HX.out HG3.out) fun k _ (y : _ ≤ k) => by have := HB.out; have := HGR.out.size; show B ≤ k; omega) (fun i hi r hr e => by
        have h1 := (os_in (HRS.out.row i hi) hr).2
        have h2 : _ ≤ r := (os_in HX.out e).1
        omega) (fun r hr e => by
        have h1 := (os_in HRS.out.out e).2
        have h2 : _ ≤ r := (os_in HX.out hr).1
        omega) HO4.out HK4.out HB4.out (fun k hk => by have := HB.out; have := HGR.out.size; have := HG2.out.size; have := HG3.out.size; show B ≤ k; omega))
      have HGE : Hid (Grow w w4) := ((HGR.out.trans HG2.out).trans HG3.out).then HK4.out fun k hk e => by
        have h1 : B ≤ k := (os_in HRB.out.out e).1
        have := HB.out
        omega
      go_roundg (gk - 1)
      case measure => have := HG.out; have := HJ.out; omega
      case rel => exact ⟨j + 1, _, by have := HG.out; have := HJ.out; omega, by go_num, HPU.out, HGE.out⟩
    · obtain rfl : j = n := by have := HG.out; omega
      clear hj
      go_wp2
      go_ret
      exact ⟨⟨_, V, rfl, HRS.out⟩, HGR.out⟩
end
end Go.Proofs.YtbnkpnllgoghnaaGreat.PmK
