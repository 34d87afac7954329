/-
  lavabolaw10.body and same: the program's frames and the document's are told to be the same, when they are.
-/
import Derived.Test.YtcebjeemganhdaaArRefNew
import Derived.Test.YtcebjeemganhdaaArNew
namespace Go.Proofs.Ytcebjeemganhdaa.ArSame
open Go.ChangeShapes Go.WideShapes Go.ChangeAt Go.RowKit
open Go.Proofs.Ytcebjeemganhdaa.Mem Go.Proofs.Ytcebjeemganhdaa.Blk Go.Proofs.Ytcebjeemganhdaa.Cells Go.Proofs.Ytcebjeemganhdaa.Orow Go.Proofs.Ytcebjeemganhdaa.TabM Go.Proofs.Ytcebjeemganhdaa.ArM Go.Proofs.Ytcebjeemganhdaa.ArC Go.Proofs.Ytcebjeemganhdaa.ArD Go.Proofs.Ytcebjeemganhdaa.ArB Go.Proofs.Ytcebjeemganhdaa.ArA Go.Proofs.Ytcebjeemganhdaa.ArRefC Go.Proofs.Ytcebjeemganhdaa.ArRefT Go.Proofs.Ytcebjeemganhdaa.ArRefA Go.Proofs.Ytcebjeemganhdaa.ArRefN Go.Proofs.Ytcebjeemganhdaa.Txt Go.Proofs.Ytcebjeemganhdaa.Stages Go.Proofs.Ytcebjeemganhdaa.Trees
open Go.Proofs.Ytcebjeemganhdaa.ListM (ints ints_len ints_get)

section
variable {w w' : World} {G H F : Nat → Prop} {d m : Nat} {a : Ar}
/-- What body tells. -/
def bodyOf (a : Ar) (f : Nat) : List Int := if (a.F f).st = 1 then a.B f else []
theorem body_law (h : RAt w H m a) (f : Nat) (hf : f < a.n) : Calls Try.prog 45 #[.pointer (some ⟨m, 0, none⟩), .int .i64 (f : Int)] w fun e w' => e = .returned (.string (strOfNums (bodyOf a f))) ∧ w = w' := by
  have hn := h.good.n
  obtain ⟨vL, vB, A, c, S, hb⟩ := h.mem
  obtain ⟨gL, cL, rfl, hfr, hgL⟩ := hb.fr.form (by omega)
  obtain ⟨gB, cB, rfl, hbo, hgB⟩ := hb.bo.form (by omega)
  have c0 := hb.c0
  have c1 := hb.c1
  have f0 := FR.c0 hfr hf
  have s0 := OR.cell hbo (i := f) (by omega)
  rw [scell_at] at s0
  have hfz : (f : Int) < (a.n : Int) := by omega
  have hnz : (a.n : Int) ≤ 32 := by omega
  by_cases hs : (a.F f).st = 1
  · rw [hb.sb f hf hs] at s0
    have e : bodyOf a f = a.B f := if_pos hs
    rw [e]
    rw [hs] at f0
    clear h hb hfr hbo e hs
    go_enter Try.func45, Try.ntmps45
    go_wp2
    go_ret
    exact ⟨rfl, rfl⟩
  · have e : bodyOf a f = [] := if_neg hs
    have hs' : ((a.F f).st == 1) = false := beq_eq_false_iff_ne.2 hs
    have hs'' : ((a.F f).st != 1) = true := by unfold bne; rw [hs']; rfl
    rw [e]
    clear h hb hfr hbo e hs s0
    generalize (a.F f).st = st at *
    go_enter Try.func45, Try.ntmps45
    go_wp2
    go_ret
    exact ⟨rfl, rfl⟩
theorem or_sl {w : World} {g c n : Nat} {t : TypeId} {b : List Int} (h : OR w g t 1 c n (bcell b)) (hb : b.length = n) : Sl w w.heap.size .u8 (some ⟨g, 0, none⟩) n b :=
  ⟨hb, fun _ => ⟨g, 0, rfl, h.lt, fun j hj => by rw [Nat.zero_add, h.cell (by omega)]; rfl⟩⟩
/-- Body's bytes, as a text. -/
def TextPost (b : List Int) (w : World) (e : Ending) (w' : World) : Prop := ∃ A n c, e = .returned (.slice A n c) ∧ Sl w' w'.heap.size .u8 A n b ∧ Grow w w'
theorem body_text (h : ArAt w G d a) (f : Nat) (hf : f < a.n) : Calls Try.prog 32 #[.pointer (some ⟨d, 0, none⟩), .int .i64 (f : Int)] w (TextPost (bodyOf a f) w) := by
  by_cases hs : (a.F f).st = 1
  · have hu : a.used (f : Int) = true := used_iff.2 ⟨f, rfl, hf, hs⟩
    refine (body_good h (f : Int) hu).mono fun e w' ⟨g, c, he, _, ho, hg⟩ => ?_
    rw [Int.toNat_natCast] at ho
    refine ⟨_, 16, c, he, ?_, hg⟩
    rw [show bodyOf a f = a.B f from if_pos hs]
    exact or_sl ho (h.good.b f)
  · have hu : a.used (f : Int) = false := by
      cases e : a.used (f : Int) with
      | false => rfl
      | true =>
        obtain ⟨f', e1, _, e2⟩ := used_iff.1 e
        obtain rfl : f = f' := by omega
        exact absurd e2 hs
    refine (body_bad h (f : Int) hu).mono fun e w' ⟨he, hw⟩ => ?_
    refine ⟨none, 0, 0, he, ?_, hw ▸ Kept.refl _ _⟩
    rw [show bodyOf a f = [] from if_neg hs]
    exact Sl.nil _ _ _ _
set_option maxHeartbeats 4000000 in
theorem same_true (h : ArAt w G d a) (h' : RAt w H m a) : Calls Try.prog 29 #[.pointer (some ⟨d, 0, none⟩), .pointer (some ⟨m, 0, none⟩)] w fun e w' => e = .returned (.bool true) ∧ Grow w w' := by
  have hn := h.good.n
  have hql : a.Q.length ≤ 32 := by rw [h.good.free]; exact Nat.le_trans (cnt_le _ _) hn
  have hqz : (a.Q.length : Int) ≤ 32 := by omega
  have hnz : (a.n : Int) ≤ 32 := by omega
  have HA := Lib.hid h
  have HR := Lib.hid h'
  have HFM := Lib.hid (frames_any h)
  clear h h' hql
  go_enter Try.func29, Try.ntmps29
  go_upto_region 2 with (go_at_call 31; (with_reducible refine HFM.out.mono ?_); rintro e w1 ⟨v, rfl, ho, hg⟩; have HO := Lib.hid ho; have HG1 := Lib.hid hg; clear ho hg)
  obtain ⟨A, c, rfl, hor⟩ := os_sl HO.out
  have HOR := Lib.hid hor
  have HA1 := Lib.hid (HA.out.grow HG1.out)
  have HR1 := Lib.hid (HR.out.grow HG1.out)
  obtain ⟨vL, vB, AQ, cQ, S, hb⟩ := HR1.out.mem
  obtain ⟨AL, cL, rfl, hL⟩ := os_sl hb.fr
  have HL := Lib.hid hL
  have q0 := up_cell (F := fun _ => False) (w := w1.drew) (p := ⟨m, 0, none⟩) hb.c0 id
  have q2 := up_cell (F := fun _ => False) (w := w1.drew) (p := ⟨m, 2, none⟩) hb.c2 id
  have HFQ := Lib.hid (free_any (HA1.out.grow (Kept.drew' w1)))
  have HC0 := Lib.hid hb.c0
  clear hor hL hb HO HFM HA HR
  refine wp_region_stages Grow (kept_refl _) (kept_trans _) [([0, 1, 2, 3, 4, 5, 6, 7, 8, 9, 11, 12, 13, 14, 15], 10)] [16, 17] (by kernel_rfl) (by kernel_rfl) ?_
  simp only [selSt, sel, List.map_cons, List.map_nil, List.getD_cons_succ, List.getD_cons_zero]
  refine st_cons fun K1 hK1 => ?_
  repeat (go_big_quiet_step (fail))
  refine wpQuiet_nil ?_
  clear q0 q2
  go_wp2_with (go_at_call 30; (with_reducible refine HFQ.out.mono ?_); rintro e w' ⟨rfl, rfl⟩)
  refine norm_up (hK1 _ _ (Kept.refl _ _) (st_nil fun K4 hK4 => ?_))
  clear hK1 K1
  repeat (go_big_quiet_step (fail))
  refine wpQuiet_nil (hK4 _ ?_)
  clear hK4 K4
  go_wp2
  go_loopg [6] a.n (fun gx i wr => ∃ j : Nat, j + gx = a.n ∧ i = .int .i64 (j : Int) ∧ Grow w1 wr)
  case atStart => exact ⟨0, by omega, rfl, Kept.drew' w1⟩
  case round =>
    obtain ⟨j, hg, rfl, hgr⟩ := hrel
    have HG := Lib.hid hg
    have HGR := Lib.hid hgr
    clear hg hgr
    by_cases hj : j < a.n
    · have HJ := Lib.hid hj
      have hjz : (j : Int) < (a.n : Int) := by omega
      obtain ⟨gx, rfl, ho⟩ := HOR.out (by omega)
      obtain ⟨gL, rfl, hoL⟩ := HL.out (by omega)
      have up := fun (p : Addr) (v : Value) (h : w1.cell? p = some v) => up_cell (F := fun _ => False) (w := wr.drew) (p := p) (v := v) (HGR.out.cellN h id) id
      have q0 := up _ _ HC0.out
      have x0 := up _ _ (FR.c0 ho hj)
      have x1 := up _ _ (FR.c1 ho hj)
      have x2 := up _ _ (FR.c2 ho hj)
      have x3 := up _ _ (FR.c3 ho hj)
      have x4 := up _ _ (FR.c4 ho hj)
      have y0 := up _ _ (FR.c0 hoL hj)
      have y1 := up _ _ (FR.c1 hoL hj)
      have y2 := up _ _ (FR.c2 hoL hj)
      have y3 := up _ _ (FR.c3 hoL hj)
      have y4 := up _ _ (FR.c4 hoL hj)
      have HBT := Lib.hid (body_text ((HA1.out.grow HGR.out).grow (Kept.drew' wr)) j hj)
      have HBL := Lib.hid fun (wx : World) (hk : Grow wr.drew wx) => body_law (((HR1.out.grow HGR.out).grow (Kept.drew' wr)).grow hk) j hj
      clear up ho hoL hj
      generalize bodyOf a j = bt at *
      generalize a.F j = fr at *
      obtain ⟨st, pg, pn, di⟩ := fr
      dsimp only at x0 x1 x2 x4 y0 y1 y2 y4
      go_upto_region 7 with (fail)
      refine wp_region_stages Grow (kept_refl _) (kept_trans _) [([0, 1, 2, 3, 4, 5, 6, 7, 8, 9, 10, 11, 12, 13, 14, 17, 18], 15), ([16], 19)] [20, 21] (by kernel_rfl) (by kernel_rfl) ?_
      simp only [selSt, sel, List.map_cons, List.map_nil, List.getD_cons_succ, List.getD_cons_zero]
      refine st_cons fun K1 hK1 => ?_
      repeat (go_big_quiet_step (fail))
      refine wpQuiet_nil ?_
      clear q0 x0 x1 x2 x3 x4 y0 y1 y2 y3 y4
      go_wp2_with (go_at_call 32; (with_reducible refine HBT.out.mono ?_); rintro e w2 ⟨Ab, nb, cb, rfl, hs, hg⟩; have HS2 := Lib.hid hs; have HG2 := Lib.hid hg; clear hs hg)
      refine norm_up (hK1 _ _ HG2.out (st_cons fun K2 hK2 => ?_))
      clear hK1 K1
      have q1 := up_run (F := fun _ => False) (P := Try.prog) (w := w2) fun w' hk => (Sl.kept HS2.out hk (Nat.le_refl _) (fun _ _ x => x)).str 28 9 5 Try.underlying28 Try.underlying5 Try.underlying9 cb
      repeat (go_big_quiet_step (fail))
      refine wpQuiet_nil ?_
      clear q1
      go_wp2_with (go_at_call 45; (with_reducible refine (HBL.out _ HG2.out).mono ?_); rintro e w' ⟨rfl, rfl⟩)
      refine norm_up (hK2 _ _ (Kept.refl _ _) (st_nil fun K4 hK4 => ?_))
      clear hK2 K2
      repeat (go_big_quiet_step (fail))
      refine wpQuiet_nil (hK4 _ ?_)
      clear hK4 K4
      go_wp2
      go_roundg (gk - 1)
      case measure => have := HG.out; have := HJ.out; omega
      case rel => exact ⟨j + 1, by have := HG.out; have := HJ.out; omega, by go_num, HGR.out.drew.trans HG2.out⟩
    · obtain rfl : j = a.n := by have := HG.out; omega
      go_wp2
      go_ret
      exact ⟨rfl, HG1.out.trans HGR.out⟩
end
end Go.Proofs.Ytcebjeemganhdaa.ArSame
