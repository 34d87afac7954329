/-
  Package model: New.
-/
import Derived.Test.YtjdlpknflhgkfaaPmOwn
import Derived.Test.YtjdlpknflhgkfaaRep
namespace Go.Proofs.Ytjdlpknflhgkfaa.PmN
open Go.ChangeShapes Go.WideShapes Go.ChangeAt Go.RowKit
open Go.Proofs.Ytjdlpknflhgkfaa.Mem Go.Proofs.Ytjdlpknflhgkfaa.Blk Go.Proofs.Ytjdlpknflhgkfaa.Cells Go.Proofs.Ytjdlpknflhgkfaa.Orow Go.Proofs.Ytjdlpknflhgkfaa.GrC Go.Proofs.Ytjdlpknflhgkfaa.MdM Go.Proofs.Ytjdlpknflhgkfaa.MdC Go.Proofs.Ytjdlpknflhgkfaa.PmC Go.Proofs.Ytjdlpknflhgkfaa.PmR Go.Proofs.Ytjdlpknflhgkfaa.PmK Go.Proofs.Ytjdlpknflhgkfaa.PmD Go.Proofs.Ytjdlpknflhgkfaa.RepN Go.Proofs.Ytjdlpknflhgkfaa.Stages Go.Proofs.Ytjdlpknflhgkfaa.Trees

/-- What New makes. -/
def NewP (n N : Nat) (w : World) (e : Ending) (w' : World) : Prop := ∃ v, e = .returned v ∧ PAt w' (w.heap.size ≤ ·) v (fresh n N) ∧ Grow w w'
def ZeroP (w : World) (e : Ending) (w' : World) : Prop := e = .returned (.agg #[.slice none 0 0, .slice none 0 0, .slice none 0 0]) ∧ Grow w w'
theorem made_bools (n : Nat) (hn : n ≤ 48) (w : World) : (Instr.makeSlice 35 (.int .i64 (n : Int)) (.int .i64 (n : Int))).run Try.prog w = .ok (.slice (some ⟨w.heap.size, 0, none⟩) n n) (w.alloc (.cells (madeCells #[.bool false] n) 4)) := by
  obtain ⟨i, hi, hz, hs, hb⟩ := info_parts infoclone_bools
  have := run_make (P := Try.prog) w 35 4 i _ Try.underlying35 hi hz .i64 .i64 (n : Int) (n : Int) (by omega) (Int.le_refl _) (by rw [hb]; omega) (by omega)
  rw [hs, Int.toNat_natCast, Nat.mul_one] at this
  exact this
theorem or_bools (w : World) (n : Nat) (hn : n ≤ 48) : OR (w.alloc (.cells (madeCells #[.bool false] n) 4)) w.heap.size 4 1 n n (tcell fun _ => false) := by
  have hl : (madeCells #[Value.bool false] n).toList = List.replicate n (Value.bool false) := toList_madeCells_one _ _
  refine ⟨_, heap_alloc_new w _, ?_, Nat.le_refl _, by unfold maxLen; omega, fun i hi => ?_⟩
  · rw [← Array.length_toList, hl, List.length_replicate, Nat.mul_one]
  · rw [← Array.getElem?_toList, hl]
    have hi : i < n := by omega
    simp [hi, tcell]
theorem or_zeros {w : World} {g : Nat} (h : NBlk w g 5 .u8 (List.replicate 16 0)) : OR w g 5 1 16 16 (ncl .u8 zeros) := by
  refine ⟨_, h, rfl, Nat.le_refl _, by unfold maxLen; omega, fun i hi => ?_⟩
  have hi : i < 16 := by omega
  unfold ncl zeros
  rw [show ((List.replicate 16 (0 : Int)).map (Value.int .u8)).toArray[i]? = ((List.replicate 16 (0 : Int)).map (Value.int .u8))[i]? by simp]
  rw [List.map_replicate]
  simp only [List.getElem?_replicate, if_pos hi, List.getD_eq_getElem?_getD]
  rfl
theorem new_bad (p c : Int) (w : World) (h : ¬ ((1 ≤ p ∧ p ≤ 48) ∧ 1 ≤ c ∧ c ≤ 6)) : Calls Try.prog 25 #[.int .i64 p, .int .i64 c] w (ZeroP w) := by
  by_cases h1 : p < 1
  · clear h
    go_enter Try.func25, Try.ntmps25
    go_wp2
    exact ret_st rfl rfl (Blk.new w 39 [.slice none 0 0, .slice none 0 0, .slice none 0 0]) rfl ⟨rfl, (Kept.refl _ _).alloc _⟩
  · have h1' : 1 ≤ p := by omega
    by_cases h2 : 48 < p
    · clear h h1
      go_enter Try.func25, Try.ntmps25
      go_wp2
      exact ret_st rfl rfl (Blk.new w 39 [.slice none 0 0, .slice none 0 0, .slice none 0 0]) rfl ⟨rfl, (Kept.refl _ _).alloc _⟩
    · have h2' : p ≤ 48 := by omega
      by_cases h3 : c < 1
      · clear h h1 h2
        go_enter Try.func25, Try.ntmps25
        go_wp2
        exact ret_st rfl rfl (Blk.new w 39 [.slice none 0 0, .slice none 0 0, .slice none 0 0]) rfl ⟨rfl, (Kept.refl _ _).alloc _⟩
      · have h3' : 1 ≤ c := by omega
        have h4 : 6 < c := by omega
        clear h h1 h2 h3
        go_enter Try.func25, Try.ntmps25
        go_wp2
        exact ret_st rfl rfl (Blk.new w 39 [.slice none 0 0, .slice none 0 0, .slice none 0 0]) rfl ⟨rfl, (Kept.refl _ _).alloc _⟩
/-- A state that is being made: its box, and what its parts are so far. -/
structure Nw (w : World) (B d gT m2 n j k : Nat) (vB vH : Value) (VB VH : Nat → Value) : Prop where
  bx : Blk w d 39 [.slice (some ⟨gT, 0, none⟩) n n, vB, vH]
  T : OR w gT 4 1 n n (tcell fun _ => false)
  RB : Rs w (fun x => d + 1 ≤ x ∧ x < m2) vB 23 5 .u8 j VB (fun _ => zeros)
  RH : Rs w (fun x => d + 1 ≤ x ∧ m2 ≤ x) vH 48 3 .i64 k VH (fun _ => six fun _ => -1)
  lt : B < gT ∧ gT < d
  rs : Blk w B 39 [.slice none 0 0, .slice none 0 0, .slice none 0 0]
section
variable {w w' w2 w3 : World} {B d gT m2 n N j k : Nat} {vB vH : Value} {VB VH : Nat → Value} {F : Nat → Prop}
theorem Nw.grow (h : Nw w B d gT m2 n j k vB vH VB VH) (hk : Grow w w') : Nw w' B d gT m2 n j k vB vH VB VH := ⟨h.bx.grow hk, h.T.grow hk, h.RB.grow hk, h.RH.grow hk, h.lt, h.rs.grow hk⟩
def NxB (w : World) (B d gT n j : Nat) (wx : World) : Prop := ∃ vB VB, Nw wx B d gT wx.heap.size n j 0 vB (.slice none 0 0) VB VB ∧ Grow w wx
def NxH (w : World) (B d gT m2 n k : Nat) (wx : World) : Prop := ∃ vB VB vH VH, Nw wx B d gT m2 n n k vB vH VB VH ∧ Grow w wx
set_option maxHeartbeats 8000000 in
theorem new_any (n N : Nat) (h1 : 1 ≤ n) (h2 : n ≤ 48) (h3 : 1 ≤ N) (h4 : N ≤ 6) (w : World) : Calls Try.prog 25 #[.int .i64 (n : Int), .int .i64 (N : Int)] w (NewP n N w) := by
  have hn1 : 1 ≤ (n : Int) := by omega
  have hn2 : (n : Int) ≤ 48 := by omega
  have hn3 : 1 ≤ (N : Int) := by omega
  have hn4 : (N : Int) ≤ 6 := by omega
  have HNn := Lib.hid (And.intro h1 h2)
  have HNN := Lib.hid (And.intro h3 h4)
  have km := made_bools n h2
  have hrb := Blk.new w 39 [.slice none 0 0, .slice none 0 0, .slice none 0 0]
  have hg0 : Grow w (w.alloc (.cells #[.slice none 0 0, .slice none 0 0, .slice none 0 0] 39)) := (Kept.refl _ _).alloc _
  obtain ⟨P, hP⟩ : ∃ P, P = NewP n N w := ⟨_, rfl⟩
  have HP := Lib.hid hP
  rw [← hP]
  have HRB := Lib.hid hrb
  have HG0 := Lib.hid hg0
  obtain ⟨B, hB⟩ : ∃ B, B = w.heap.size := ⟨_, rfl⟩
  have HB := Lib.hid hB
  clear h1 h2 h3 h4 hP hrb hg0 hB
  go_enter Try.func25, Try.ntmps25
  go_upto_region 3 with (fail)
  have hz1 : (w.alloc (.cells #[.slice none 0 0, .slice none 0 0, .slice none 0 0] 39)).heap.size = B + 1 := by rw [HB.out]; simp
  rw [← HB.out] at HRB ⊢
  generalize w.alloc (.cells #[.slice none 0 0, .slice none 0 0, .slice none 0 0] 39) = w1 at *
  have hT := or_bools w1 n HNn.out.2
  have hgT : Grow w1 (w1.alloc (.cells (madeCells #[Value.bool false] n) 4)) := (Kept.refl _ _).alloc _
  have hzT : (w1.alloc (.cells (madeCells #[Value.bool false] n) 4)).heap.size = B + 1 + 1 := by simp [hz1]
  rw [hz1] at hT
  have hbx := Blk.new (w1.alloc (.cells (madeCells #[Value.bool false] n) 4)) 39 [.slice (some ⟨B + 1, 0, none⟩) n n, .slice none 0 0, .slice none 0 0]
  have hgx : Grow (w1.alloc (.cells (madeCells #[Value.bool false] n) 4)) ((w1.alloc (.cells (madeCells #[Value.bool false] n) 4)).alloc (.cells #[.slice (some ⟨B + 1, 0, none⟩) n n, .slice none 0 0, .slice none 0 0] 39)) := (Kept.refl _ _).alloc _
  rw [hzT] at hbx
  have HN0 : Hid (Nw ((w1.alloc (.cells (madeCells #[Value.bool false] n) 4)).alloc (.cells #[.slice (some ⟨B + 1, 0, none⟩) n n, .slice none 0 0, .slice none 0 0] 39)) B (B + 1 + 1) (B + 1) (B + 1 + 1 + 1) n 0 0 (.slice none 0 0) (.slice none 0 0) (fun _ => .nilIface) (fun _ => .nilIface)) :=
    ⟨hbx, hT.grow hgx, rs_nil _ _ _ _ _ _ _, rs_nil _ _ _ _ _ _ _, by omega, (HRB.out.grow hgT).grow hgx⟩
  have HG1 : Hid (Grow w ((w1.alloc (.cells (madeCells #[Value.bool false] n) 4)).alloc (.cells #[.slice (some ⟨B + 1, 0, none⟩) n n, .slice none 0 0, .slice none 0 0] 39))) := (HG0.out.trans hgT).trans hgx
  have hzx : ((w1.alloc (.cells (madeCells #[Value.bool false] n) 4)).alloc (.cells #[.slice (some ⟨B + 1, 0, none⟩) n n, .slice none 0 0, .slice none 0 0] 39)).heap.size = B + 1 + 1 + 1 := by simp [hz1]
  have HZX := Lib.hid hzx
  rw [← hzx] at HN0
  clear hT hgT hbx hgx hzx HRB HG0
  go_upto_region 4 with (fail)
  generalize hd : B + 1 + 1 = d at *
  generalize hgt : B + 1 = gT at *
  generalize (w1.alloc (.cells (madeCells #[Value.bool false] n) 4)).alloc (.cells #[.slice (some ⟨gT, 0, none⟩) n n, .slice none 0 0, .slice none 0 0] 39) = w2 at *
  have HGT := Lib.hid hgt
  have HD := Lib.hid hd
  clear hz1 hzT km hd hgt
  have km := made16
  go_wp2
  go_loopg [25] n (fun gx i wr => ∃ j : Nat, j + gx = n ∧ i = .int .i64 (j : Int) ∧ NxB w B d gT n j wr)
  case atStart => exact ⟨0, by omega, rfl, _, _, HN0.out, HG1.out⟩
  case round =>
    obtain ⟨j, hg, rfl, vB, VB, hnw, hgr⟩ := hrel
    have HG := Lib.hid hg
    have HNW := Lib.hid hnw
    have HGR := Lib.hid hgr
    clear hg hnw hgr
    by_cases hj : j < n
    · have hjz : (j : Int) < (n : Int) := by omega
      have HJ := Lib.hid hj
      obtain ⟨Av, cv, rfl⟩ := os_form HNW.out.RB.out
      have c0 := HNW.out.bx.cell 1
      simp only [List.getElem?_cons_zero, List.getElem?_cons_succ] at c0
      have HOD : Hid (∀ k, (Value.slice Av j cv).ownBlock = some k → d + 1 ≤ k) := fun k e => (PmR.os_in HNW.out.RB.out e).1.1
      have q0 := up_cell (F := fun k => (Value.slice Av j cv).ownBlock = some k) (w := wr.drew) (p := ⟨d, 1, none⟩) c0 (fun e => by have := HOD.out d e; omega)
      clear c0 hj
      go_upto_region 6 with (fail)
      refine wp_region_tree (Kept fun k => (Value.slice Av j cv).ownBlock = some k) (Kept fun k => (Value.slice Av j cv).ownBlock = some k ∨ k = d) (kept_refl _) (kept_trans _) (kept_refl _) (kept_trans _) (fun _ _ h => h.mono fun _ _ x => .inl x) [6]
        (.one true [0, 1] 2 (.one true [] 3 (.one true [] 4 (.one false [5] 6 (.last false []))))) (by kernel_rfl) (by kernel_rfl) ?_
      refine tr_oneE fun K hK => ?_
      simp only [sel, List.map_cons, List.map_nil, List.getD_cons_succ, List.getD_cons_zero]
      repeat (go_big_quiet_step (fail))
      refine wpQuiet_nil ?_
      clear q0
      go_wp2
      refine norm_up (hK _ _ (Lr_early (by decide) (show Kept _ wr.drew (wr.alloc (.cells (madeCells #[Value.int .u8 0] 16) 5)).drew from (Kept.refl _ wr.drew).alloc (.cells (madeCells #[Value.int .u8 0] 16) 5))) ?_)
      clear hK K
      have HRO : Hid (OS (wr.alloc (.cells (madeCells #[Value.int .u8 0] 16) 5)).drew (wr.heap.size ≤ ·) (.slice (some ⟨wr.heap.size, 0, none⟩) 16 16) 5 1 16 (ncl .u8 zeros)) := .inr ⟨wr.heap.size, 16, rfl, or_zeros (Blk.drew (NBlk.made wr 5 .u8 16)), Nat.le_refl _⟩
      have HG2 : Hid (Grow wr (wr.alloc (.cells (madeCells #[Value.int .u8 0] 16) 5)).drew) := ((Kept.refl _ wr).alloc _).drew
      have HN2 := Lib.hid (HNW.out.grow HG2.out)
      generalize (wr.alloc (.cells (madeCells #[Value.int .u8 0] 16) 5)).drew = x2 at HRO HG2 HN2 ⊢
      refine tr_oneE fun K hK => ?_
      simp only [sel, List.map_cons, List.map_nil, List.getD_cons_succ, List.getD_cons_zero]
      refine wpQuiet_nil ?_
      go_wp2
      refine norm_up (hK _ _ (Lr_early (by decide) ((Kept.refl _ _).alloc _)) ?_)
      clear hK K
      have HX3 : Hid ((x2.alloc (.cells #[.slice (some ⟨wr.heap.size, 0, none⟩) 16 16] 23)).cell? ⟨x2.heap.size, 0, none⟩ = some (.slice (some ⟨wr.heap.size, 0, none⟩) 16 16)) := cell_new1 _ _ _
      have HG3 : Hid (Grow x2 (x2.alloc (.cells #[.slice (some ⟨wr.heap.size, 0, none⟩) 16 16] 23))) := (Kept.refl _ x2).alloc _
      generalize x2.alloc (.cells #[.slice (some ⟨wr.heap.size, 0, none⟩) 16 16] 23) = x3 at HX3 HG3 ⊢
      have HN3 := Lib.hid (HN2.out.grow HG3.out)
      have HR3 := Lib.hid (os_grow HRO.out HG3.out)
      obtain ⟨i0, hi0, hz0, hz1', hz2⟩ := info_parts inforows_bytes
      obtain ⟨g4, cap4, x4, hr4, ho4, hk4, hb4⟩ := append_or (P := Try.prog) 36 0 i0 _ 24 Try.underlying36 hi0 hz0 hz1' hz2 rfl (by omega) HN3.out.RB.out (by have := HJ.out; have := HNn.out; have := HNN.out; omega) (by omega) x2.heap.size 1 (u := fun _ => .slice (some ⟨wr.heap.size, 0, none⟩) 16 16) (fun q hq => by obtain rfl : q = 0 := (by omega); exact HX3.out) (fun q hq => rfl)
      have HR4 : Hid (∀ ty, (Builtin.append_ #[36, 36] ty #[.slice Av j cv, .slice (some ⟨x2.heap.size, 0, none⟩) 1 1]).run Try.prog x3 = .ok (.slice (some ⟨g4, 0, none⟩) (j + 1) cap4) x4) := fun ty => hr4
      have HO4 := Lib.hid ho4
      have HK4 := Lib.hid hk4
      have HB4 := Lib.hid hb4
      clear hr4 ho4 hk4 hb4 hi0 hz0 hz1' hz2
      refine tr_oneE fun K hK => ?_
      simp only [sel, List.map_cons, List.map_nil, List.getD_cons_succ, List.getD_cons_zero]
      refine wpQuiet_nil ?_
      go_wp2_with (at_builtin; refine Lib.wpList_append_run _ rfl _ _ _ _ rfl _ _ rfl rfl _ _ (HR4.out _) ?_)
      refine norm_up (hK _ _ (Lr_early (by decide) HK4.out) ?_)
      clear hK K
      have hcd := (HN3.out.bx.kept HK4.out (fun e => by have := HOD.out d e; omega))
      have HCD := Lib.hid hcd
      have c0 := hcd.cell 1
      have f0 := hcd.frozen 1
      simp only [List.getElem?_cons_zero, List.getElem?_cons_succ] at c0
      clear hcd
      have HPU := Lib.hid ((rs_mono (X := fun x => d + 1 ≤ x) HN3.out.RB fun k _ x => x.1).push (L := fun _ => zeros) (x := .slice (some ⟨wr.heap.size, 0, none⟩) 16 16) (PmR.os_mono HR3.out fun k _ (x : _ ≤ k) => by have := HNW.out.bx.lt; show d + 1 ≤ k; omega) (fun i hi r hr e => by
        have h1 := (PmR.os_in (HNW.out.RB.row i hi) hr).2
        have h2 : _ ≤ r := (PmR.os_in HRO.out e).1
        omega) (fun r hr e => by
        have h1 := (PmR.os_in HNW.out.RB.out e).2
        have h2 : _ ≤ r := (PmR.os_in HRO.out hr).1
        omega) HO4.out HK4.out HB4.out (fun k hk => by have := HN3.out.bx.lt; show d + 1 ≤ k; omega))
      have HK5 : Hid (Kept (fun k => k = d) x4 (x4.setCell ⟨d, 1, none⟩ (.slice (some ⟨g4, 0, none⟩) (j + 1) cap4))) := kept_set x4 d 1 _
      have HBX : Hid (Blk (x4.setCell ⟨d, 1, none⟩ (.slice (some ⟨g4, 0, none⟩) (j + 1) cap4)) d 39 [.slice (some ⟨gT, 0, none⟩) n n, .slice (some ⟨g4, 0, none⟩) (j + 1) cap4, .slice none 0 0]) := HCD.out.set 1 _
      have HRS5 := Lib.hid ((HN3.out.rs.kept HK4.out (fun e => by have := HOD.out B e; have := HNW.out.lt; omega)).kept HK5.out (fun e => by have e : B = d := e; have := HNW.out.lt; omega))
      have HT5 := Lib.hid ((HN3.out.T.kept HK4.out (fun e => by have := HOD.out gT e; have := HNW.out.lt; omega)).kept HK5.out (fun e => by have e : gT = d := e; have := HNW.out.lt; omega))
      have HRB5 := Lib.hid (rs_kept HPU.out HK5.out (fun k hk e => by have e : k = d := e; have hk : d + 1 ≤ k := hk; omega))
      have HGE : Hid (Grow w (x4.setCell ⟨d, 1, none⟩ (.slice (some ⟨g4, 0, none⟩) (j + 1) cap4))) := (((HGR.out.trans HG2.out).trans HG3.out).then HK4.out fun k hk e => by
        have := HOD.out k e
        have := HB.out
        have := HNW.out.lt
        omega).then HK5.out fun k hk e => by
        have e : k = d := e
        have := HB.out
        have := HNW.out.lt
        omega
      refine tr_oneL fun K hK => ?_
      simp only [sel, List.map_cons, List.map_nil, List.getD_cons_succ, List.getD_cons_zero]
      repeat (go_big_quiet_step (fail))
      refine wpQuiet_nil ?_
      go_wp2
      refine norm_up (hK _ _ (Lr_late (by decide) (HK5.out.mono fun x _ e => .inr e)) ?_)
      clear hK K c0 f0
      refine tr_lastL fun K hK => ?_
      simp only [sel, List.map_nil]
      refine wpQuiet_nil (hK _ ?_)
      clear hK K
      generalize x4.setCell ⟨d, 1, none⟩ (.slice (some ⟨g4, 0, none⟩) (j + 1) cap4) = x5 at *
      go_wp2
      go_roundg (gk - 1)
      case measure => have := HG.out; have := HJ.out; omega
      case rel => exact ⟨j + 1, by have := HG.out; have := HJ.out; omega, by go_num, _, _, ⟨HBX.out, HT5.out, rs_mono HRB5.out (fun k hk x => ⟨x, hk⟩), rs_nil _ _ _ _ _ _ _, HNW.out.lt, HRS5.out⟩, HGE.out⟩
    · obtain rfl : j = n := by have := HG.out; omega
      clear hj HG HN0 HG1 HZX
      obtain ⟨wq, rfl⟩ : ∃ wq, wq = wr := ⟨_, rfl⟩
      have HNW0 : Hid (Nw wq B d gT wq.heap.size j j 0 vB (.slice none 0 0) VB (fun _ => .nilIface)) := ⟨HNW.out.bx, HNW.out.T, HNW.out.RB, rs_nil _ _ _ _ _ _ _, HNW.out.lt, HNW.out.rs⟩
      clear HNW
      go_wp2
      go_loopg [35] N (fun gx i wr => ∃ k : Nat, k + gx = N ∧ i = .int .i64 (k : Int) ∧ NxH w B d gT wq.heap.size j k wr ∧ wq.heap.size ≤ wr.heap.size)
      case atStart => exact ⟨0, by omega, rfl, ⟨_, _, _, _, HNW0.out, HGR.out⟩, Nat.le_refl _⟩
      case round =>
        obtain ⟨k, hg, rfl, ⟨vB, VB, vH, VH, hnw, hgr⟩, hle⟩ := hrel
        have HG := Lib.hid hg
        have HNW := Lib.hid hnw
        have HGR := Lib.hid hgr
        have HLE := Lib.hid hle
        clear hg hnw hgr hle HNW0
        by_cases hj : k < N
        · have hjz : (k : Int) < (N : Int) := by omega
          have HJ := Lib.hid hj
          obtain ⟨Av, cv, rfl⟩ := os_form HNW.out.RH.out
          have c0 := HNW.out.bx.cell 2
          simp only [List.getElem?_cons_zero, List.getElem?_cons_succ] at c0
          have HOD : Hid (∀ x, (Value.slice Av k cv).ownBlock = some x → d + 1 ≤ x ∧ wq.heap.size ≤ x) := fun x e => (PmR.os_in HNW.out.RH.out e).1
          have q0 := up_cell (F := fun x => (Value.slice Av k cv).ownBlock = some x) (w := wr.drew) (p := ⟨d, 2, none⟩) c0 (fun e => by have := (HOD.out d e).1; omega)
          clear c0 hj
          go_upto_region 10 with (fail)
          refine wp_region_tree (Kept fun x => (Value.slice Av k cv).ownBlock = some x) (Kept fun x => (Value.slice Av k cv).ownBlock = some x ∨ x = d) (kept_refl _) (kept_trans _) (kept_refl _) (kept_trans _) (fun _ _ h => h.mono fun _ _ x => .inl x) [7]
            (.one true [0, 1] 2 (.one true [] 3 (.one true [] 4 (.one true [] 5 (.one false [6] 7 (.last false [])))))) (by kernel_rfl) (by kernel_rfl) ?_
          refine tr_oneE fun K hK => ?_
          simp only [sel, List.map_cons, List.map_nil, List.getD_cons_succ, List.getD_cons_zero]
          repeat (go_big_quiet_step (fail))
          refine wpQuiet_nil ?_
          clear q0
          go_wp2
          refine norm_up (hK _ _ (Lr_early (by decide) (show Kept _ wr.drew (wr.alloc (.cells #[.int .i64 (-1)] 3)).drew from (Kept.refl _ wr.drew).alloc (.cells #[.int .i64 (-1)] 3))) ?_)
          clear hK K
          have HX : Hid (NBlk (wr.alloc (.cells #[.int .i64 (-1)] 3)).drew wr.heap.size 3 .i64 [-1]) := Blk.drew (NBlk.new wr 3 .i64 [-1])
          have HG1 : Hid (Grow wr (wr.alloc (.cells #[.int .i64 (-1)] 3)).drew) := ((Kept.refl _ wr).alloc _).drew
          generalize (wr.alloc (.cells #[.int .i64 (-1)] 3)).drew = x1 at HX HG1 ⊢
          have CR := Lib.hid (repeat_any (w := x1) (b := wr.heap.size) (Sl.of_blk0 (B := x1.heap.size) HX.out rfl HX.out.lt) (Nat.le_refl _))
          refine tr_oneE fun K hK => ?_
          simp only [sel, List.map_cons, List.map_nil, List.getD_cons_succ, List.getD_cons_zero]
          refine wpQuiet_nil ?_
          go_wp2_with (go_at_call 39; (with_reducible refine CR.out.mono ?_); rintro e x2 ⟨r, rfl, hlt, hrow, hgr⟩; have HLT := Lib.hid hlt; have HRW := Lib.hid hrow; have HG2 := Lib.hid hgr; clear hlt hrow hgr)
          refine norm_up (hK _ _ (Lr_early (by decide) (Grow.kept HG2.out)) ?_)
          clear hK K CR
          have HRO : Hid (OS x2 (wr.heap.size ≤ ·) (.slice (some ⟨r, 0, none⟩) 6 6) 3 1 6 (ncl .i64 (six fun _ => -1))) := .inr ⟨r, 6, rfl, HRW.out.congr fun i hi => (by
            show Value.int .i64 (-1) = .int .i64 ((six fun _ => -1).getD i 0)
            rw [six_get _ (by omega)]), by have := HLT.out; have := HG1.out.size; show wr.heap.size ≤ r; omega⟩
          have HN2 := Lib.hid ((HNW.out.grow HG1.out).grow HG2.out)
          refine tr_oneE fun K hK => ?_
          simp only [sel, List.map_cons, List.map_nil, List.getD_cons_succ, List.getD_cons_zero]
          refine wpQuiet_nil ?_
          go_wp2
          refine norm_up (hK _ _ (Lr_early (by decide) ((Kept.refl _ _).alloc _)) ?_)
          clear hK K
          have HX3 : Hid ((x2.alloc (.cells #[.slice (some ⟨r, 0, none⟩) 6 6] 48)).cell? ⟨x2.heap.size, 0, none⟩ = some (.slice (some ⟨r, 0, none⟩) 6 6)) := cell_new1 _ _ _
          have HG3 : Hid (Grow x2 (x2.alloc (.cells #[.slice (some ⟨r, 0, none⟩) 6 6] 48))) := (Kept.refl _ x2).alloc _
          generalize x2.alloc (.cells #[.slice (some ⟨r, 0, none⟩) 6 6] 48) = x3 at HX3 HG3 ⊢
          have HN3 := Lib.hid (HN2.out.grow HG3.out)
          have HR3 := Lib.hid (os_grow HRO.out HG3.out)
          obtain ⟨i0, hi0, hz0, hz1', hz2⟩ := info_parts inforows_ints
          obtain ⟨g4, cap4, x4, hr4, ho4, hk4, hb4⟩ := append_or (P := Try.prog) 37 0 i0 _ 24 Try.underlying37 hi0 hz0 hz1' hz2 rfl (by omega) HN3.out.RH.out (by have := HJ.out; have := HNn.out; have := HNN.out; omega) (by omega) x2.heap.size 1 (u := fun _ => .slice (some ⟨r, 0, none⟩) 6 6) (fun q hq => by obtain rfl : q = 0 := (by omega); exact HX3.out) (fun q hq => rfl)
          have HR4 : Hid (∀ ty, (Builtin.append_ #[37, 37] ty #[.slice Av k cv, .slice (some ⟨x2.heap.size, 0, none⟩) 1 1]).run Try.prog x3 = .ok (.slice (some ⟨g4, 0, none⟩) (k + 1) cap4) x4) := fun ty => hr4
          have HO4 := Lib.hid ho4
          have HK4 := Lib.hid hk4
          have HB4 := Lib.hid hb4
          clear hr4 ho4 hk4 hb4 hi0 hz0 hz1' hz2
          refine tr_oneE fun K hK => ?_
          simp only [sel, List.map_cons, List.map_nil, List.getD_cons_succ, List.getD_cons_zero]
          refine wpQuiet_nil ?_
          go_wp2_with (at_builtin; refine Lib.wpList_append_run _ rfl _ _ _ _ rfl _ _ rfl rfl _ _ (HR4.out _) ?_)
          refine norm_up (hK _ _ (Lr_early (by decide) HK4.out) ?_)
          clear hK K
          have hcd := (HN3.out.bx.kept HK4.out (fun e => by have := (HOD.out d e).1; omega))
          have HCD := Lib.hid hcd
          have c0 := hcd.cell 2
          have f0 := hcd.frozen 2
          simp only [List.getElem?_cons_zero, List.getElem?_cons_succ] at c0
          clear hcd
          have HPU := Lib.hid ((rs_mono (X := fun x => d + 1 ≤ x ∧ wq.heap.size ≤ x) HN3.out.RH fun k _ x => x).push (L := fun _ => six fun _ => -1) (x := .slice (some ⟨r, 0, none⟩) 6 6) (PmR.os_mono HR3.out fun y _ (x : _ ≤ y) => by have := HNW.out.bx.lt; have := HLE.out; show d + 1 ≤ y ∧ wq.heap.size ≤ y; omega) (fun i hi r hr e => by
            have h1 := (PmR.os_in (HNW.out.RH.row i hi) hr).2
            have h2 : _ ≤ r := (PmR.os_in HRO.out e).1
            omega) (fun r hr e => by
            have h1 := (PmR.os_in HNW.out.RH.out e).2
            have h2 : _ ≤ r := (PmR.os_in HRO.out hr).1
            omega) HO4.out HK4.out HB4.out (fun y hk => by have := HN3.out.bx.lt; have := HLE.out; have := HG1.out.size; have := HG2.out.size; have := HG3.out.size; show d + 1 ≤ y ∧ wq.heap.size ≤ y; omega))
          have HK5 : Hid (Kept (fun y => y = d) x4 (x4.setCell ⟨d, 2, none⟩ (.slice (some ⟨g4, 0, none⟩) (k + 1) cap4))) := kept_set x4 d 2 _
          have HBX : Hid (Blk (x4.setCell ⟨d, 2, none⟩ (.slice (some ⟨g4, 0, none⟩) (k + 1) cap4)) d 39 [.slice (some ⟨gT, 0, none⟩) j j, vB, .slice (some ⟨g4, 0, none⟩) (k + 1) cap4]) := HCD.out.set 2 _
          have HRS5 := Lib.hid ((HN3.out.rs.kept HK4.out (fun e => by have := (HOD.out B e).1; have := HNW.out.lt; omega)).kept HK5.out (fun e => by have e : B = d := e; have := HNW.out.lt; omega))
          have HT5 := Lib.hid ((HN3.out.T.kept HK4.out (fun e => by have := (HOD.out gT e).1; have := HNW.out.lt; omega)).kept HK5.out (fun e => by have e : gT = d := e; have := HNW.out.lt; omega))
          have HRB6 := Lib.hid (rs_kept (rs_kept HN3.out.RB HK4.out (fun y hk e => by have h1 := (HOD.out y e).2; have h2 := hk.2; omega)) HK5.out (fun y hk e => by have e : y = d := e; have hk := hk.1; omega))
          have HRB5 := Lib.hid (rs_kept HPU.out HK5.out (fun y hk e => by have e : y = d := e; have hk := hk.1; omega))
          have HGE : Hid (Grow w (x4.setCell ⟨d, 2, none⟩ (.slice (some ⟨g4, 0, none⟩) (k + 1) cap4))) := ((((HGR.out.trans HG1.out).trans HG2.out).trans HG3.out).then HK4.out fun y hk e => by
            have := (HOD.out _ e).1
            have := HB.out
            have := HNW.out.lt
            omega).then HK5.out fun y hk e => by
            have e : y = d := e
            have := HB.out
            have := HNW.out.lt
            omega
          refine tr_oneL fun K hK => ?_
          simp only [sel, List.map_cons, List.map_nil, List.getD_cons_succ, List.getD_cons_zero]
          repeat (go_big_quiet_step (fail))
          refine wpQuiet_nil ?_
          go_wp2
          refine norm_up (hK _ _ (Lr_late (by decide) (HK5.out.mono fun x _ e => .inr e)) ?_)
          clear hK K c0 f0
          refine tr_lastL fun K hK => ?_
          simp only [sel, List.map_nil]
          refine wpQuiet_nil (hK _ ?_)
          clear hK K
          have HLE5 : Hid (wq.heap.size ≤ (x4.setCell ⟨d, 2, none⟩ (.slice (some ⟨g4, 0, none⟩) (k + 1) cap4)).heap.size) := by
            have h1 := HLE.out
            have h2 := HG1.out.size
            have h3 := HG2.out.size
            have h4 := HG3.out.size
            have h5 := HK4.out.size
            have h6 := HK5.out.size
            show wq.heap.size ≤ _
            omega
          generalize x4.setCell ⟨d, 2, none⟩ (.slice (some ⟨g4, 0, none⟩) (k + 1) cap4) = x5 at *
          go_wp2
          go_roundg (gk - 1)
          case measure => have := HG.out; have := HJ.out; omega
          case rel => exact ⟨k + 1, by have := HG.out; have := HJ.out; omega, by go_num, ⟨_, _, _, _, ⟨HBX.out, HT5.out, HRB6.out, HRB5.out, HNW.out.lt, HRS5.out⟩, HGE.out⟩, HLE5.out⟩
        · obtain rfl : k = N := by have := HG.out; omega
          clear hj
          obtain ⟨Ab, cb, rfl⟩ := os_form HNW.out.RB.out
          obtain ⟨Ah, ch, rfl⟩ := os_form HNW.out.RH.out
          have c0 := HNW.out.bx.cell 0
          have c1 := HNW.out.bx.cell 1
          have c2 := HNW.out.bx.cell 2
          simp only [List.getElem?_cons_zero, List.getElem?_cons_succ] at c0 c1 c2
          have hr := HNW.out.rs
          have t0 := hr.cell 0
          have t1 := hr.cell 1
          have t2 := hr.cell 2
          have tf := hr.frozen
          simp only [List.getElem?_cons_zero, List.getElem?_cons_succ] at t0 t1 t2
          clear hr
          go_wp2
          have hb5 := put3_blk (x := .slice (some ⟨gT, 0, none⟩) j j) (y := .slice Ab j cb) (u := .slice Ah k ch) HNW.out.rs
          have hk5 : Kept (fun x => x = B) wr (put3 wr B (.slice (some ⟨gT, 0, none⟩) j j) (.slice Ab j cb) (.slice Ah k ch)) := put3_kept wr B _ _ _ (fun x e => e)
          rw [HP.out]
          have hgood : MdM.Good (fresh j k) := good_fresh HNn.out.1 HNn.out.2 HNN.out.1 HNN.out.2
          have how : Own wr (fun y => w.heap.size ≤ y ∧ y ≠ B) (.agg #[.slice (some ⟨gT, 0, none⟩) j j, .slice Ab j cb, .slice Ah k ch]) (stOf (fresh j k)) := by
            have hb := HB.out
            have hlt := HNW.out.lt
            refine ⟨d, wq.heap.size, _, _, _, VB, VH, rfl, .inr ⟨gT, j, rfl, HNW.out.T, ⟨by omega, by omega⟩, hlt.2⟩, rs_mono HNW.out.RB fun y _ h => ⟨⟨⟨by omega, by omega⟩, by omega⟩, h.2⟩, rs_mono HNW.out.RH fun y _ h => ⟨⟨⟨by omega, by omega⟩, by omega⟩, h.2⟩⟩
          have hpa := ((how.kept hk5 fun y hk e => hk.2 e).patZ rfl hgood).mono (X := fun y => w.heap.size ≤ y) fun y _ h => h.1
          exact ret_st rfl rfl hb5 rfl ⟨_, rfl, hpa, HGR.out.then hk5 fun y hk e => by have e : y = B := e; have := HB.out; omega⟩
end
end Go.Proofs.Ytjdlpknflhgkfaa.PmN
