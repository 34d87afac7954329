/-
  Package script: step (the step of four bytes).
-/
import Derived.Test.YtigcjcgdakoonaaScRow
namespace Go.Proofs.Ytigcjcgdakoonaa.ScS
open Go.ChangeShapes Go.WideShapes Go.ChangeAt Go.RowKit
open Go.Proofs.Ytigcjcgdakoonaa.Mem Go.Proofs.Ytigcjcgdakoonaa.Blk Go.Proofs.Ytigcjcgdakoonaa.Cells Go.Proofs.Ytigcjcgdakoonaa.MdM Go.Proofs.Ytigcjcgdakoonaa.ScM Go.Proofs.Ytigcjcgdakoonaa.ScC Go.Proofs.Ytigcjcgdakoonaa.ScO Go.Proofs.Ytigcjcgdakoonaa.ScR Go.Proofs.Ytigcjcgdakoonaa.Stages

/-- A step is handed back; its slices are new. -/
def StP (s : Stp) (w : World) (e : Ending) (w' : World) : Prop := ∃ d, e = .returned (.agg (stl s d).toArray) ∧ StD w' (w.heap.size ≤ ·) s d ∧ Grow w w'
abbrev zsl : List Value := stl zst zad
section
variable {w w' : World} {F : Nat → Prop}
theorem three_new (w : World) (k x y z p f s c : Int) : ∃ w0 : World, ((w.alloc (.cells #[.int .u8 k, .int .u8 x, .int .u8 y, .int .u8 z] 43)).alloc (.cells #[.int .i64 p, .int .i64 f, .int .i64 s, .int .i64 c] 24)).alloc (.cells #[.int .i64 0, .int .i64 0, .int .i64 0, .int .i64 0, .int .i64 0, .int .i64 0, .int .i64 0, .int .i64 0, .int .i64 0, .slice none 0 0, .slice none 0 0] 33) = w0
    ∧ Blk w0 w.heap.size 43 [.int .u8 k, .int .u8 x, .int .u8 y, .int .u8 z] ∧ Blk w0 (w.heap.size + 1) 24 [.int .i64 p, .int .i64 f, .int .i64 s, .int .i64 c] ∧ Blk w0 (w.heap.size + 1 + 1) 33 zsl ∧ Grow w w0 := by
  refine ⟨_, rfl, ((Blk.new w _ _).alloc _).alloc _, Blk.alloc ?_ _, ?_, (((Kept.refl _ _).alloc _).alloc _).alloc _⟩
  · have := Blk.new (w.alloc (.cells #[.int .u8 k, .int .u8 x, .int .u8 y, .int .u8 z] 43)) 24 [.int .i64 p, .int .i64 f, .int .i64 s, .int .i64 c]
    rwa [show (w.alloc (.cells #[.int .u8 k, .int .u8 x, .int .u8 y, .int .u8 z] 43)).heap.size = w.heap.size + 1 by simp] at this
  · have := Blk.new ((w.alloc (.cells #[.int .u8 k, .int .u8 x, .int .u8 y, .int .u8 z] 43)).alloc (.cells #[.int .i64 p, .int .i64 f, .int .i64 s, .int .i64 c] 24)) 33 zsl
    rwa [show ((w.alloc (.cells #[.int .u8 k, .int .u8 x, .int .u8 y, .int .u8 z] 43)).alloc (.cells #[.int .i64 p, .int .i64 f, .int .i64 s, .int .i64 c] 24)).heap.size = w.heap.size + 1 + 1 by simp] at this
theorem stp_fin {s s' : Stp} {g : Nat} {d : Ad} {t : TypeId} {cs : List Value} (he : s = s') {x : Value} (hx : x = .agg (stl s' d).toArray) (hg : w.heap.size ≤ g) (hw : Grow w w') (hb : Blk w' (g + 1 + 1) t cs) (hd : StD w' (fun k => k ≠ g + 1 + 1 ∧ w.heap.size ≤ k) s' d) :
    StP s w (.returned x) (w'.setRow (g + 1 + 1) (stl s' d).toArray) := by
  subst he hx
  have hk := (set_row hb (stl s d).toArray).2
  exact ⟨d, rfl, (hd.kept hk fun k _ h e => h.1 e).mono fun _ _ h => h.2, hw.then hk fun k hk' e => by have e : k = g + 1 + 1 := e; omega⟩
theorem no_data (w : World) (X : Nat → Prop) {s : Stp} (h1 : s.o.d = []) (h2 : s.b = []) : StD w X s zad := ⟨by rw [h1]; exact Byt.nil _ _ _, by rw [h2]; exact Byt.nil _ _ _⟩
theorem two_bytes {b : Nat} {t : TypeId} {y z : Int} {X : Nat → Prop} (h : NBlk w b t .u8 [y, z]) (hy : 0 ≤ y ∧ y < 256) (hz : 0 ≤ z ∧ z < 256) (hX : ∀ u, u = b → X u) : Byt w X (some ⟨b, 0, none⟩) 2 [y, z] :=
  ⟨Sl.of_blk0 h rfl h.lt, fun c hc => by
    simp only [List.mem_cons, List.not_mem_nil, or_false] at hc
    rcases hc with rfl | rfl
    · exact hy
    · exact hz, by decide, fun _ u e => by injection e with e; rw [← e]; exact hX b rfl⟩
set_option maxHeartbeats 8000000 in
theorem step_any {c : Cf} (hc : c.may) {k x y z : Int} (hk : 0 ≤ k ∧ k < 256) (hx : 0 ≤ x ∧ x < 256) (hy : 0 ≤ y ∧ y < 256) (hz : 0 ≤ z ∧ z < 256) (w : World) :
    Calls Try.prog 16 #[.agg #[.int .u8 k, .int .u8 x, .int .u8 y, .int .u8 z], cfv c] w (StP (stepM c k x y z) w) := by
  have HC := Lib.hid hc
  unfold Cf.may at hc
  obtain ⟨cp, cf, cs, cc⟩ := c
  unfold cfv
  dsimp only at hc ⊢
  go_enter Try.func16, Try.ntmps16
  go_upto_region 1 with (fail)
  obtain ⟨w0, hw0, hb2, hb3, hb4, hg0⟩ := three_new w k x y z cp cf cs cc
  have HB2 := Lib.hid hb2
  have HB3 := Lib.hid hb3
  have HB4 := Lib.hid hb4
  have HG0 := Lib.hid hg0
  have a0 := hb2.cell 0
  have a1 := hb2.cell 1
  have a2 := hb2.cell 2
  have a3 := hb2.cell 3
  simp only [List.getElem?_cons_zero, List.getElem?_cons_succ] at a0 a1 a2 a3
  clear hb2 hb3 hb4 hg0
  rw [hw0]
  clear hw0
  obtain ⟨g, hgg⟩ : ∃ g, g = w.heap.size := ⟨_, rfl⟩
  rw [← hgg] at a0 a1 a2 a3 HB2 HB3 HB4 ⊢
  have HGE : Hid (w.heap.size ≤ g) := Nat.le_of_eq hgg.symm
  clear hgg
  go_quiet (fail)
  go_upto_region 3 with (fail)
  replace HB2 := Lib.hid (HB2.out.drewN nq)
  replace HB3 := Lib.hid (HB3.out.drewN nq)
  replace HB4 := Lib.hid (HB4.out.drewN nq)
  replace HG0 := Lib.hid (HG0.out.drewN nq)
  generalize w0.drewN nq = w1 at HB2 HB3 HB4 HG0 ⊢
  clear a0 a1 a2 a3
  have a2 := HB2.out.cell 2
  have a3 := HB2.out.cell 3
  have c0 := HB3.out.cell 0
  have c1 := HB3.out.cell 1
  have c2 := HB3.out.cell 2
  have c3 := HB3.out.cell 3
  simp only [List.getElem?_cons_zero, List.getElem?_cons_succ] at a2 a3 c0 c1 c2 c3
  -- ARMS (written by wip/tools/genscstep.py)
  by_cases h3 : k % 8 < 3
  · have HE : Hid (stepM ⟨cp, cf, cs, cc⟩ k x y z = ⟨1, x % cc, 0, 0, opM ⟨cp, cf, cs, cc⟩ (k / 8) y z, []⟩) := by unfold Hid stepM; simp [h3]
    have CO : Hid (∀ wx, Calls Try.prog 12 #[.int .u8 (k / 8), .int .u8 y, .int .u8 z, .agg #[.int .i64 cp, .int .i64 cf, .int .i64 cs, .int .i64 cc]] wx (OpP (opM ⟨cp, cf, cs, cc⟩ (k / 8) y z) wx)) := fun wx => op_any (c := ⟨cp, cf, cs, cc⟩) HC.out (by omega) hy hz wx
    have ub2 := up_cell (F := fun e => e = g + 1 + 1) (w := w1.drew) (p := ⟨g, 2, none⟩) a2 (fun e => by have e : g = g + 1 + 1 := e; omega)
    have ub3 := up_cell (F := fun e => e = g + 1 + 1) (w := w1.drew) (p := ⟨g, 3, none⟩) a3 (fun e => by have e : g = g + 1 + 1 := e; omega)
    have uc0 := up_cell (F := fun e => e = g + 1 + 1) (w := w1.drew) (p := ⟨g + 1, 0, none⟩) c0 (fun e => by have e : g + 1 = g + 1 + 1 := e; omega)
    have uc1 := up_cell (F := fun e => e = g + 1 + 1) (w := w1.drew) (p := ⟨g + 1, 1, none⟩) c1 (fun e => by have e : g + 1 = g + 1 + 1 := e; omega)
    have uc2 := up_cell (F := fun e => e = g + 1 + 1) (w := w1.drew) (p := ⟨g + 1, 2, none⟩) c2 (fun e => by have e : g + 1 = g + 1 + 1 := e; omega)
    have uc3 := up_cell (F := fun e => e = g + 1 + 1) (w := w1.drew) (p := ⟨g + 1, 3, none⟩) c3 (fun e => by have e : g + 1 = g + 1 + 1 := e; omega)
    have hcc0 : ¬ (cc = 0) := by omega
    have hx0 : 0 ≤ x := hx.1
    have hcc1 : 0 ≤ cc := by omega
    go_upto_region 4 with (fail)
    refine wp_region_stages (Kept (fun e => e = g + 1 + 1)) (kept_refl _) (kept_trans _) [([0, 1, 2, 3, 4, 5, 6, 7, 8, 9, 10], 11), ([12], 13)] [] (by kernel_rfl) (by kernel_rfl) ?_
    simp only [selSt, sel, List.map_cons, List.map_nil, List.getD_cons_succ, List.getD_cons_zero]
    refine st_cons fun K1 hK1 => ?_
    repeat (go_big_quiet_step (fail))
    refine wpQuiet_nil ?_
    go_wp2_with (go_at_call 12; (with_reducible refine (CO.out _).mono ?_); rintro e wo ⟨A, n, cap, rfl, hdat, hgr⟩; have HDAT := Lib.hid hdat; have HGR := Lib.hid hgr; clear hdat hgr)
    refine norm_up (hK1 _ _ (Grow.kept HGR.out) ?_)
    clear hK1 K1 ub2 ub3 uc0 uc1 uc2 uc3
    refine st_cons fun K2 hK2 => ?_
    repeat (go_big_quiet_step (fail))
    refine wpQuiet_nil ?_
    have q4 := (Blk.drew HB4.out).grow HGR.out
    go_wp2_with (refine wpList_store_row rfl 33 _ _ rfl (g + 1 + 1) #[.int .i64 1, .int .i64 (x % cc), .int .i64 0, .int .i64 0, .int .i64 (opM ⟨cp, cf, cs, cc⟩ (k / 8) y z).k, .int .i64 (opM ⟨cp, cf, cs, cc⟩ (k / 8) y z).p, .int .i64 (opM ⟨cp, cf, cs, cc⟩ (k / 8) y z).h, .int .i64 (opM ⟨cp, cf, cs, cc⟩ (k / 8) y z).o, .int .i64 (opM ⟨cp, cf, cs, cc⟩ (k / 8) y z).n, .slice A n cap, .slice none 0 0] rfl rfl _ _ q4 st_size rfl (by simp [Value.oneCell']) ?_)
    refine norm_up (hK2 _ _ (set_row q4 _).2 (st_nil fun K4 hK4 => wpQuiet_nil (hK4 _ ?_)))
    clear hK2 K2 hK4 K4
    go_wp2
    refine ret_stp (g := g + 1 + 1) (s := ⟨1, x % cc, 0, 0, opM ⟨cp, cf, cs, cc⟩ (k / 8) y z, []⟩) (d := ⟨A, n, cap, none, 0, 0⟩) rfl rfl (set_row q4 _).1 rfl ?_
    exact stp_fin HE.out rfl HGE.out ((HG0.out.drew).trans HGR.out) q4 ⟨Byt.of HDAT.out fun k' hk1 hk2 => ⟨by have h1 := HB4.out.lt; have h2 : w1.heap.size ≤ k' := hk2; omega, by have h1 := HG0.out.size; have h2 : w1.heap.size ≤ k' := hk2; omega⟩, Byt.nil _ _ _⟩
  by_cases h6 : k % 8 < 6
  · have HE : Hid (stepM ⟨cp, cf, cs, cc⟩ k x y z = ⟨2, 0, 256 * x + y, 0, zop, []⟩) := by unfold Hid stepM; simp [*]
    have q4 := HB4.out
    go_wp2_with (refine wpList_store_row rfl 33 _ _ rfl (g + 1 + 1) #[.int .i64 2, .int .i64 0, .int .i64 (256 * x + y), .int .i64 0, .int .i64 0, .int .i64 0, .int .i64 0, .int .i64 0, .int .i64 0, .slice none 0 0, .slice none 0 0] rfl rfl _ _ q4 st_size rfl (by simp [Value.oneCell']) ?_)
    refine ret_stp (g := g + 1 + 1) (s := ⟨2, 0, 256 * x + y, 0, zop, []⟩) (d := zad) rfl rfl (set_row q4 _).1 rfl ?_
    exact stp_fin HE.out rfl HGE.out HG0.out q4 (no_data _ _ rfl rfl)
  by_cases e6 : k % 8 = 6
  · by_cases hyy : y % 2 = 0
    · have HE : Hid (stepM ⟨cp, cf, cs, cc⟩ k x y z = ⟨3, 0, x % 16, 0, zop, []⟩) := by unfold Hid stepM; simp [*]
      have q4 := HB4.out
      go_wp2_with (refine wpList_store_row rfl 33 _ _ rfl (g + 1 + 1) #[.int .i64 3, .int .i64 0, .int .i64 (x % 16), .int .i64 0, .int .i64 0, .int .i64 0, .int .i64 0, .int .i64 0, .int .i64 0, .slice none 0 0, .slice none 0 0] rfl rfl _ _ q4 st_size rfl (by simp [Value.oneCell']) ?_)
      refine ret_stp (g := g + 1 + 1) (s := ⟨3, 0, x % 16, 0, zop, []⟩) (d := zad) rfl rfl (set_row q4 _).1 rfl ?_
      exact stp_fin HE.out rfl HGE.out HG0.out q4 (no_data _ _ rfl rfl)
    · have HE : Hid (stepM ⟨cp, cf, cs, cc⟩ k x y z = ⟨5, 0, cs + z % (32 - cs + 1), 0, zop, []⟩) := by unfold Hid stepM; simp [*]
      have q4 := HB4.out
      have hyb : (y % 2 == 0) = false := by simpa using hyy
      have uc2 := up_cell (F := fun e => e = g + 1 + 1) (w := w1.drew) (p := ⟨g + 1, 2, none⟩) c2 (fun e => by have e : g + 1 = g + 1 + 1 := e; omega)
      have hz0 : 0 ≤ z := hz.1
      have hs0 : ¬ (32 - cs + 1 = 0) := by omega
      have hs1 : 0 ≤ 32 - cs + 1 := by omega
      have hm0 : 0 ≤ z % (32 - cs + 1) := Int.emod_nonneg _ hs0
      have hm1 : z % (32 - cs + 1) < 32 - cs + 1 := Int.emod_lt_of_pos _ (by omega)
      go_upto_region 10 with (fail)
      refine wp_region_stages (Kept (fun e => e = g + 1 + 1)) (kept_refl _) (kept_trans _) [([0, 1, 2, 3, 4, 5, 6, 7, 8, 9], 10)] [] (by kernel_rfl) (by kernel_rfl) ?_
      simp only [selSt, sel, List.map_cons, List.map_nil, List.getD_cons_succ, List.getD_cons_zero]
      refine st_cons fun K1 hK1 => ?_
      repeat (go_big_quiet_step (fail))
      refine wpQuiet_nil ?_
      have q5 := Blk.drew HB4.out
      go_wp2_with (refine wpList_store_row rfl 33 _ _ rfl (g + 1 + 1) #[.int .i64 5, .int .i64 0, .int .i64 (cs + z % (32 - cs + 1)), .int .i64 0, .int .i64 0, .int .i64 0, .int .i64 0, .int .i64 0, .int .i64 0, .slice none 0 0, .slice none 0 0] rfl rfl _ _ q5 st_size rfl (by simp [Value.oneCell']) ?_)
      refine norm_up (hK1 _ _ (set_row q5 _).2 (st_nil fun K4 hK4 => wpQuiet_nil (hK4 _ ?_)))
      clear hK1 K1 hK4 K4
      go_wp2
      refine ret_stp (g := g + 1 + 1) (s := ⟨5, 0, cs + z % (32 - cs + 1), 0, zop, []⟩) (d := zad) rfl rfl (set_row q5 _).1 rfl ?_
      exact stp_fin HE.out rfl HGE.out HG0.out.drew q5 (no_data _ _ rfl rfl)
  have e7 : k % 8 = 7 := by omega
  by_cases hxx : x = 255
  · have HE : Hid (stepM ⟨cp, cf, cs, cc⟩ k x y z = ⟨4, 0, 0, 0, zop, [y, z]⟩) := by unfold Hid stepM; simp [e7, hxx]
    have n4 := NBlk.new w1 5 .u8 [y, z]
    have q4 := HB4.out.alloc (.cells #[.int .u8 y, .int .u8 z] 5)
    have HK : Hid (Grow w1 (w1.alloc (.cells #[.int .u8 y, .int .u8 z] 5))) := (Kept.refl _ _).alloc _
    have HN4 := Lib.hid n4
    clear n4 h3 h6 e6
    subst hxx
    go_wp2_with (refine wpList_store_row rfl 33 _ _ rfl (g + 1 + 1) #[.int .i64 4, .int .i64 0, .int .i64 0, .int .i64 0, .int .i64 0, .int .i64 0, .int .i64 0, .int .i64 0, .int .i64 0, .slice none 0 0, .slice (some ⟨w1.heap.size, 0, none⟩) 2 2] rfl rfl _ _ q4 st_size rfl (by simp [Value.oneCell']) ?_)
    refine ret_stp (g := g + 1 + 1) (s := ⟨4, 0, 0, 0, zop, [y, z]⟩) (d := ⟨none, 0, 0, some ⟨w1.heap.size, 0, none⟩, 2, 2⟩) rfl rfl (set_row q4 _).1 rfl ?_
    exact stp_fin HE.out rfl HGE.out (HG0.out.trans HK.out) q4 ⟨Byt.nil _ _ _, two_bytes HN4.out hy hz fun u hu => by subst hu; exact ⟨by have := HB4.out.lt; omega, by have := HG0.out.size; omega⟩⟩
  · have HE : Hid (stepM ⟨cp, cf, cs, cc⟩ k x y z = ⟨6, 0, x % 16, y % cs, zop, []⟩) := by unfold Hid stepM; simp [e7, hxx]
    have q4 := HB4.out
    have hxb : (x != 255) = true := by simpa using hxx
    have hs0 : ¬ (cs = 0) := by omega
    have hy0 : 0 ≤ y := hy.1
    have hs1 : 0 ≤ cs := by omega
    clear h3 h6 e6
    go_wp2_with (refine wpList_store_row rfl 33 _ _ rfl (g + 1 + 1) #[.int .i64 6, .int .i64 0, .int .i64 (x % 16), .int .i64 (y % cs), .int .i64 0, .int .i64 0, .int .i64 0, .int .i64 0, .int .i64 0, .slice none 0 0, .slice none 0 0] rfl rfl _ _ q4 st_size rfl (by simp [Value.oneCell']) ?_)
    refine ret_stp (g := g + 1 + 1) (s := ⟨6, 0, x % 16, y % cs, zop, []⟩) (d := zad) rfl rfl (set_row q4 _).1 rfl ?_
    exact stp_fin HE.out rfl HGE.out HG0.out q4 (no_data _ _ rfl rfl)
end
end Go.Proofs.Ytigcjcgdakoonaa.ScS
