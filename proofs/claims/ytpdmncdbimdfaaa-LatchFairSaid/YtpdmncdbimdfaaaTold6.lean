/-
  lavabolaw6.told tells true, in every world.
-/
import Derived.Test.YtpdmncdbimdfaaaLatSame
namespace Go.Proofs.Ytpdmncdbimdfaaa.Told6
open Go.ChangeShapes Go.WideShapes Go.ChangeAt Go.RowKit
open Go.Proofs.Ytpdmncdbimdfaaa.Mem Go.Proofs.Ytpdmncdbimdfaaa.Blk Go.Proofs.Ytpdmncdbimdfaaa.Cells Go.Proofs.Ytpdmncdbimdfaaa.GsC Go.Proofs.Ytpdmncdbimdfaaa.LatM Go.Proofs.Ytpdmncdbimdfaaa.LatC Go.Proofs.Ytpdmncdbimdfaaa.LatY Go.Proofs.Ytpdmncdbimdfaaa.LatZ Go.Proofs.Ytpdmncdbimdfaaa.LatO Go.Proofs.Ytpdmncdbimdfaaa.LatI Go.Proofs.Ytpdmncdbimdfaaa.LatR Go.Proofs.Ytpdmncdbimdfaaa.LatN Go.Proofs.Ytpdmncdbimdfaaa.LatA Go.Proofs.Ytpdmncdbimdfaaa.LatL Go.Proofs.Ytpdmncdbimdfaaa.LatD Go.Proofs.Ytpdmncdbimdfaaa.LatF Go.Proofs.Ytpdmncdbimdfaaa.LatG Go.Proofs.Ytpdmncdbimdfaaa.RetC Go.Proofs.Ytpdmncdbimdfaaa.Stages Go.Proofs.Ytpdmncdbimdfaaa.Trees

/-- An answer of Lock or Share, its numbers in the open. -/
def AskX (w : World) (L : La) (W : Int) (n m : Nat) (b : Bool) (e : Ending) (w' : World) : Prop :=
  ∃ A c A' c', e = .returned (.tuple #[.agg #[.int .i64 W, .slice A n c, .slice A' m c'], .bool b]) ∧ Keeps w w' L (.agg #[.int .i64 W, .slice A n c, .slice A' m c']) ∧ Grow w w'
/-- An answer of Free, its numbers in the open. -/
def FreeX (w : World) (L : La) (i : List Int) (W : Int) (n m p : Nat) (e : Ending) (w' : World) : Prop :=
  ∃ A c A' c' D d, e = .returned (.tuple #[.agg #[.int .i64 W, .slice A n c, .slice A' m c'], .slice D p d, .int .i64 0]) ∧ Keeps w w' L (.agg #[.int .i64 W, .slice A n c, .slice A' m c']) ∧ (∀ F w'', Kept F w' w'' → (∀ k, w.heap.size ≤ k → ¬ F k) → Sl w'' w''.heap.size .i64 D p i) ∧ (p ≤ d ∧ d ≤ maxLen) ∧ Grow w w'
section
variable {w w' : World} {e : Ending} {r : La × List Int} {L : La} {W : Int} {n m p : Nat} {b : Bool} {i : List Int}
theorem AskX.of (h : AskP w r e w') (hL : r.1 = L) (hW : L.W = W) (hn : L.R.length = n) (hm : L.Q.length = m) (hb : decide (0 < r.2.length) = b) : AskX w L W n m b e w' := by
  obtain ⟨v, rfl, hk, hg⟩ := h
  rw [hL] at hk
  obtain ⟨A, c, A', c', rfl, _, _, _, _⟩ := hk.latv
  subst hW hn hm hb
  exact ⟨A, c, A', c', rfl, hk, hg⟩
theorem FreeX.of (h : FreeP w r e w') (hL : r.1 = L) (hi : r.2 = i) (hW : L.W = W) (hn : L.R.length = n) (hm : L.Q.length = m) (hp : i.length = p) : FreeX w L i W n m p e w' := by
  obtain ⟨v, D, d, rfl, hk, hs, hd, hg⟩ := h
  rw [hL] at hk
  rw [hi] at hs hd
  obtain ⟨A, c, A', c', rfl, _, _, _, _⟩ := hk.latv
  subst hW hn hm hp
  exact ⟨A, c, A', c', D, d, by rw [hi], hk, hs, hd, hg⟩
end

def la : La := ⟨1, [], []⟩
def lc : La := ⟨1, [], [-4]⟩
def le : La := ⟨1, [], [-4, -5]⟩
def lg : La := ⟨-1, [2, 3], []⟩
def lz : La := ⟨0, [], []⟩
def lw : La := ⟨-1, [], [3]⟩
theorem good_a : LatM.Good la := (goIn_spec (ask_pre (x := 1) (t := 1) good_free rfl rfl rfl (.inl rfl))).1
theorem good_c : LatM.Good lc := (goIn_spec (ask_pre (x := -4) (t := 2) good_a rfl rfl rfl (.inr rfl))).1
theorem good_e : LatM.Good le := (goIn_spec (ask_pre (x := -5) (t := 3) good_c rfl rfl rfl (.inr rfl))).1
theorem good_g : LatM.Good lg := (goIn_spec (free_pre (t := 1) good_e rfl)).1
theorem good_z : LatM.Good lz := ⟨⟨.inr ⟨rfl, rfl⟩, List.Pairwise.nil, by simp [lz], by simp [lz], by simp [lz], by simp [lz]⟩, fun x Q e => by cases e⟩
theorem pre_w : Pre lw.W lw.R lw.Q := ⟨.inl rfl, List.Pairwise.nil, by simp [lw], by simp [lw, who, task], by simp [lw], by simp [lw, who]⟩
#print axioms pre_w

section
variable {w : World} {v : Value}
theorem t_lock : Calls Try.prog 6 #[.agg #[.int .i64 (-1), .slice none 0 0, .slice none 0 0], .int .i64 1] w (AskX w la 1 0 0 true) :=
  (lock_any (latv_free w) good_free 1 rfl rfl rfl).mono fun _ _ h => AskX.of h rfl rfl rfl rfl rfl
theorem t_share1 (h : LatV w la v) : Calls Try.prog 7 #[v, .int .i64 2] w (AskX w lc 1 0 1 false) :=
  (share_any h good_a 2 rfl rfl rfl).mono fun _ _ h => AskX.of h rfl rfl rfl rfl rfl
theorem t_share2 (h : LatV w lc v) : Calls Try.prog 7 #[v, .int .i64 3] w (AskX w le 1 0 2 false) :=
  (share_any h good_c 3 rfl rfl rfl).mono fun _ _ h => AskX.of h rfl rfl rfl rfl rfl
theorem t_free1 (h : LatV w le v) : Calls Try.prog 8 #[v, .int .i64 1] w (FreeX w lg [2, 3] (-1) 2 0 2) :=
  (free_any h good_e 1 rfl).mono fun _ _ h => FreeX.of h rfl rfl rfl rfl rfl rfl
theorem latv_zero (w : World) : LatV w lz (.agg #[.int .i64 0, .slice none 0 0, .slice none 0 0]) :=
  ⟨none, 0, none, 0, rfl, Sl.nil _ _ _ _, Sl.nil _ _ _ _, ⟨Nat.le_refl _, Nat.zero_le _⟩, ⟨Nat.le_refl _, Nat.zero_le _⟩⟩
theorem latv_w (w : World) : LatV (w.alloc (.cells #[.int .i64 3] 3)) lw (.agg #[.int .i64 (-1), .slice none 0 0, .slice (some ⟨w.heap.size, 0, none⟩) 1 1]) := by
  refine ⟨none, 0, _, 1, rfl, Sl.nil _ _ _ _, ?_, ⟨Nat.le_refl _, Nat.zero_le _⟩, ⟨Nat.le_refl _, by decide⟩⟩
  have := Sl.new w .i64 3 (0, 0) [3]
  refine this.more ?_
  show _ ≤ (w.alloc _).heap.size
  simp
end

theorem told_any (w : World) : Calls Try.prog 10 #[] w fun e w' => e = .returned (.bool true) ∧ Grow w w' := by
  go_enter Try.func10, Try.ntmps10
  go_upto_region 2 with (first
    | (go_at_call 5; (with_reducible refine new_any.mono ?_); rintro e w1 ⟨rfl, hg⟩; have G1 := Lib.hid hg; clear hg)
    | (go_at_call 6; (with_reducible refine t_lock.mono ?_); rintro e w2 ⟨A1, c1, A2, c2, rfl, hk, hg⟩; have K2 := Lib.hid hk; have G2 := Lib.hid hg; clear hk hg))
  have hb := Blk.new w2 25 [.int .i64 1, .slice A1 0 c1, .slice A2 0 c2]
  have hg : Grow w2 (w2.alloc (.cells #[.int .i64 1, .slice A1 0 c1, .slice A2 0 c2] 25)) := (Kept.refl _ _).alloc _
  generalize w2.alloc (.cells #[.int .i64 1, .slice A1 0 c1, .slice A2 0 c2] 25) = w3 at *
  have B3 := Lib.hid hb
  have G3 := Lib.hid hg
  clear hb hg
  have k0 := B3.out.cell 0
  have k1 := B3.out.cell 1
  have k2 := B3.out.cell 2
  simp only [List.getElem?_cons_zero, List.getElem?_cons_succ] at k0 k1 k2
  go_upto_region 3 with (go_at_call 7; (with_reducible refine (t_share1 (K2.out.latv.grow G3.out)).mono ?_); rintro e w4 ⟨A3, c3, A4, c4, rfl, hk, hg⟩; have K4 := Lib.hid hk; have G4 := Lib.hid hg; clear hk hg)
  clear k0 k1 k2
  have hb := Blk.new w4 25 [.int .i64 1, .slice A3 0 c3, .slice A4 1 c4]
  have hg : Grow w4 (w4.alloc (.cells #[.int .i64 1, .slice A3 0 c3, .slice A4 1 c4] 25)) := (Kept.refl _ _).alloc _
  generalize w4.alloc (.cells #[.int .i64 1, .slice A3 0 c3, .slice A4 1 c4] 25) = w5 at *
  have B5 := Lib.hid hb
  have G5 := Lib.hid hg
  clear hb hg
  have k0 := B5.out.cell 0
  have k1 := B5.out.cell 1
  have k2 := B5.out.cell 2
  simp only [List.getElem?_cons_zero, List.getElem?_cons_succ] at k0 k1 k2
  go_upto_region 4 with (go_at_call 7; (with_reducible refine (t_share2 (K4.out.latv.grow G5.out)).mono ?_); rintro e w6 ⟨A5, c5, A6, c6, rfl, hk, hg⟩; have K6 := Lib.hid hk; have G6 := Lib.hid hg; clear hk hg)
  clear k0 k1 k2
  have hb := Blk.new w6 25 [.int .i64 1, .slice A5 0 c5, .slice A6 2 c6]
  have hg : Grow w6 (w6.alloc (.cells #[.int .i64 1, .slice A5 0 c5, .slice A6 2 c6] 25)) := (Kept.refl _ _).alloc _
  generalize w6.alloc (.cells #[.int .i64 1, .slice A5 0 c5, .slice A6 2 c6] 25) = w7 at *
  have B7 := Lib.hid hb
  have G7 := Lib.hid hg
  clear hb hg
  have k0 := B7.out.cell 0
  have k1 := B7.out.cell 1
  have k2 := B7.out.cell 2
  simp only [List.getElem?_cons_zero, List.getElem?_cons_succ] at k0 k1 k2
  go_upto_region 5 with (go_at_call 8; (with_reducible refine (t_free1 (K6.out.latv.grow G7.out)).mono ?_); rintro e w8 ⟨A7, c7, A8, c8, D, d, rfl, hk, hs, hd, hg⟩; have K8 := Lib.hid hk; have S8 := Lib.hid hs; have G8 := Lib.hid hg; clear hk hs hd hg)
  clear k0 k1 k2
  have hb := Blk.new w8 25 [.int .i64 (-1), .slice A7 2 c7, .slice A8 0 c8]
  have hg : Grow w8 (w8.alloc (.cells #[.int .i64 (-1), .slice A7 2 c7, .slice A8 0 c8] 25)) := (Kept.refl _ _).alloc _
  generalize w8.alloc (.cells #[.int .i64 (-1), .slice A7 2 c7, .slice A8 0 c8] 25) = w9 at *
  have B9 := Lib.hid hb
  have G9 := Lib.hid hg
  clear hb hg
  have k0 := B9.out.cell 0
  have k1 := B9.out.cell 1
  have k2 := B9.out.cell 2
  simp only [List.getElem?_cons_zero, List.getElem?_cons_succ] at k0 k1 k2
  -- what the last statement reads
  have hcq : ∃ b o, A4 = some ⟨b, o, none⟩ ∧ w4.cell? ⟨b, o, none⟩ = some (.int .i64 (-4)) := by
    obtain ⟨_, _, _, _, e, _, hs, _, _⟩ := K4.out.latv
    injection e with e
    injection e with e
    injection e with _ e
    injection e with _ e
    injection e with e _
    injection e with e1 _ _
    obtain ⟨b, o, e2, _, hc⟩ := hs.at_ (by decide)
    exact ⟨b, o, e1.trans e2, hc 0 (by decide)⟩
  have hds : ∃ b o, D = some ⟨b, o, none⟩ ∧ w8.cell? ⟨b, o, none⟩ = some (.int .i64 2) ∧ w8.cell? ⟨b, o + 1, none⟩ = some (.int .i64 3) := by
    obtain ⟨b, o, e2, _, hc⟩ := (S8.out (fun _ => False) w8 (Kept.refl _ _) fun _ _ => id).at_ (by decide)
    exact ⟨b, o, e2, hc 0 (by decide), hc 1 (by decide)⟩
  obtain ⟨qb, qo, rfl, hq⟩ := hcq
  obtain ⟨db, dw, rfl, hd0, hd1⟩ := hds
  have HQ := Lib.hid hq
  have HD0 := Lib.hid hd0
  have HD1 := Lib.hid hd1
  have HV9 := Lib.hid (K8.out.latv.grow G9.out)
  have GA := Lib.hid ((((G4.out.trans G5.out).trans G6.out).trans G7.out).trans (G8.out.trans G9.out))
  have GB := Lib.hid (((G5.out.trans G6.out).trans G7.out).trans (G8.out.trans G9.out))
  clear hq hd0 hd1
  go_upto_region 6 with (go_at_call 8; (with_reducible refine (free_not HV9.out good_g 1 rfl).mono ?_); rintro e w10 ⟨v, rfl, hk, hg⟩; have G10 := Lib.hid hg; obtain ⟨A9, c9, A10, c10, rfl, _, _, _, _⟩ := hk.latv; clear hk hg)
  clear k0 k1 k2
  have hg11 : Grow w10 (w10.alloc (.cells #[.int .i64 lg.W, .slice A9 lg.R.length c9, .slice A10 lg.Q.length c10] 25)) := (Kept.refl _ _).alloc _
  generalize w10.alloc (.cells #[.int .i64 lg.W, .slice A9 lg.R.length c9, .slice A10 lg.Q.length c10] 25) = w11 at *
  have G11 : Hid (Grow w9 w11) := G10.out.trans hg11
  clear hg11
  have GC := Lib.hid (GA.out.trans G11.out)
  have a0 := (B3.out.grow GC.out).cell 0
  have b2 := (B5.out.grow (((G6.out.trans G7.out).trans (G8.out.trans G9.out)).trans G11.out)).cell 2
  have hq := (GB.out.trans G11.out).cellN HQ.out id
  have hd0 := (G9.out.trans G11.out).cellN HD0.out id
  have hd1 := (G9.out.trans G11.out).cellN HD1.out id
  have B11 := Lib.hid (B9.out.grow G11.out)
  have k0 := B11.out.cell 0
  have k1 := B11.out.cell 1
  have k2 := B11.out.cell 2
  have HV11 := Lib.hid (HV9.out.grow G11.out)
  have HGW := Lib.hid ((((G1.out.trans G2.out).trans G3.out).trans GA.out).trans G11.out)
  simp only [List.getElem?_cons_zero, List.getElem?_cons_succ] at a0 b2 k0 k1 k2
  have HM1 := Lib.hid (may_any HV11.out good_g.pre)
  rw [settled_good good_g] at HM1
  have HH3 := Lib.hid fun (w' : World) (hk : Grow w11 w') => has_any (HV11.out.grow hk) 3 (by decide)
  have HH1 := Lib.hid fun (w' : World) (hk : Grow w11 w') => has_any (HV11.out.grow hk) 1 (by decide)
  have HZ0 := Lib.hid fun (w' : World) => has_any (latv_zero w') 0 (by decide)
  have hmz := fun (w' : World) => may_any (latv_zero w') good_z.pre
  rw [settled_good good_z] at hmz
  have HMZ := Lib.hid hmz
  have HMW := Lib.hid fun (w' : World) => may_any (latv_w w') pre_w
  have HSA := Lib.hid fun (w' : World) (hk : Grow w11 w') => same_true (HV11.out.grow hk) (HV11.out.grow hk) (by decide) (by decide)
  have e3 : lg.has 3 = true := rfl
  have e1 : lg.has 1 = false := rfl
  have e0 : lz.has 0 = true := rfl
  have ew : settled lw = false := rfl
  rw [e3] at HH3
  rw [e1] at HH1
  rw [e0] at HZ0
  rw [ew] at HMW
  clear hmz e3 e1 e0 ew
  simp only [List.append]
  go_wp2_with (first
    | (go_at_call 14; (with_reducible refine HM1.out.mono ?_); rintro e w12 ⟨rfl, hg⟩; have G12 := Lib.hid hg; clear hg a0 b2 hq hd0 hd1 k0 k1 k2; have k0 := (B11.out.grow G12.out).cell 0; have k1 := (B11.out.grow G12.out).cell 1; have k2 := (B11.out.grow G12.out).cell 2; simp only [List.getElem?_cons_zero, List.getElem?_cons_succ] at k0 k1 k2)
    | (go_at_call 9; (with_reducible refine (HH3.out _ G12.out).mono ?_); rintro e w13 ⟨rfl, hg⟩; have G13 := Lib.hid (G12.out.trans hg); clear hg k0 k1 k2; have k0 := (B11.out.grow G13.out).cell 0; have k1 := (B11.out.grow G13.out).cell 1; have k2 := (B11.out.grow G13.out).cell 2; simp only [List.getElem?_cons_zero, List.getElem?_cons_succ] at k0 k1 k2)
    | (go_at_call 9; (with_reducible refine (HH1.out _ G13.out).mono ?_); rintro e w14 ⟨rfl, hg⟩; have G14 := Lib.hid (G13.out.trans hg); clear hg k0 k1 k2)
    | (go_at_call 9; (with_reducible refine (HZ0.out _).mono ?_); rintro e w15 ⟨rfl, hg⟩; have G15 := Lib.hid (G14.out.trans hg); clear hg)
    | (go_at_call 14; (with_reducible refine (HMZ.out _).mono ?_); rintro e w16 ⟨rfl, hg⟩; have G16 := Lib.hid (G15.out.trans hg); clear hg)
    | (go_at_call 14; (with_reducible refine (HMW.out _).mono ?_); rintro e w17 ⟨rfl, hg⟩; have G17 := Lib.hid ((G16.out.alloc _).trans hg); clear hg; have k0 := (B11.out.grow G17.out).cell 0; have k1 := (B11.out.grow G17.out).cell 1; have k2 := (B11.out.grow G17.out).cell 2; simp only [List.getElem?_cons_zero, List.getElem?_cons_succ] at k0 k1 k2)
    | (go_at_call 20; (with_reducible refine (HSA.out _ G17.out).mono ?_); rintro e w18 ⟨rfl, hg⟩; have G18 := Lib.hid (G17.out.trans hg); clear hg))
  go_ret
  exact ⟨rfl, HGW.out.trans G18.out⟩
end Go.Proofs.Ytpdmncdbimdfaaa.Told6
