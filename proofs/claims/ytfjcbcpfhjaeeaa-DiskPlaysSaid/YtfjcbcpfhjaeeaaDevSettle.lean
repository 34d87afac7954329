/-
  What the methods of package disk compute (chapter 3), more: settle.
-/
import Derived.Test.YtfjcbcpfhjaeeaaDevSync
namespace Go.Proofs.Ytfjcbcpfhjaeeaa.DevK
open Go.ChangeShapes Go.WideShapes Go.ChangeAt Go.RowKit
open Go.Proofs.Ytfjcbcpfhjaeeaa.SumM Go.Proofs.Ytfjcbcpfhjaeeaa.Mem Go.Proofs.Ytfjcbcpfhjaeeaa.Blk Go.Proofs.Ytfjcbcpfhjaeeaa.PageM Go.Proofs.Ytfjcbcpfhjaeeaa.Str Go.Proofs.Ytfjcbcpfhjaeeaa.Dev Go.Proofs.Ytfjcbcpfhjaeeaa.LibC Go.Proofs.Ytfjcbcpfhjaeeaa.DevC Go.Proofs.Ytfjcbcpfhjaeeaa.DevM Go.Proofs.Ytfjcbcpfhjaeeaa.DevY Go.Proofs.Ytfjcbcpfhjaeeaa.Stages

section
variable {w : World} {d D W : Nat} {G : Nat → Prop} {S : Dv}

/-- The device behind the settling of page k. -/
def setS (S : Dv) (k f : Nat) (y : List Int) : Dv := { S with dur := fun q => if q = k then settleI f (S.dur k) y else S.dur q }
/-- What settle leaves. -/
def SetPost (d D W : Nat) (G : Nat → Prop) (w : World) (S' : Dv) (e : Ending) (w' : World) : Prop :=
  e = .returned (.tuple #[]) ∧ DevAt w' d D W G S' ∧ Kept (Own d D W) w w'

theorem take_sl {B n m b o c : Nat} {zs : List Int} (h : Sl w B .u8 (some ⟨b, o, none⟩) n zs) (hm : m ≤ n) : Sl w B .u8 (some ⟨b, o, none⟩) m (zs.take m) := h.take hm
theorem drop_sl {B b c : Nat} {zs : List Int} (h : Sl w B .u8 (some ⟨b, 0, none⟩) 24 zs) (hc : 24 ≤ c) : Sl w B .u8 (some ⟨b, 12, none⟩) 12 (zs.drop 12) := by
  have := h.cut (m := 12) (cap := c) (by omega) hc
  rw [if_neg (by omega)] at this
  simpa [Addr.add] using this

set_option maxHeartbeats 1000000 in
theorem settle_0 (h : DevAt w d D W G S) (k : Nat) (hk : k < S.N) (y : List Int) (hy : S.wr k = some y) (low : ∀ x, G x → x < w.heap.size) :
    Calls Try.prog 34 #[.pointer (some ⟨d, 0, none⟩), .int .i64 (k : Int), .int .u8 0] w (SetPost d D W G w (setS S k 0 y)) := by
  have hN := h.size
  have H := Lib.hid h
  have c0 := h.c0
  have c1 := h.c1
  obtain ⟨dv, hdr, hdi⟩ := h.dur
  obtain ⟨wv, hwr, hwi⟩ := h.wr
  have hdk := hdi k hk
  have hwk := hwi k hk
  rw [hy] at hwk
  have hwk' : Img w G (wv k) y := hwk
  have r0 := hdr.cell (i := k) hk
  have r1 := hwr.cell (i := k) hk
  have hf := hdr.frozen k
  have hkz : (k : Int) < (S.N : Int) := by omega
  have HI := Lib.hid hwk'
  obtain ⟨b0, e0, hv0, h24, hm0, hs0⟩ := hdk.sl
  obtain ⟨b1, e1, hv1, h24', hm1, hs1⟩ := hwk'.sl
  rw [hv0] at r0
  rw [hv1] at r1 HI
  have HZ0 := Lib.hid (And.intro hdk.len hdk.bytes)
  have HZ1 := Lib.hid (And.intro hwk'.len hwk'.bytes)
  have HS0 := Lib.hid hs0
  have HS1 := Lib.hid hs1
  have HLOW := Lib.hid low
  have HNE := Lib.hid h.ne
  unfold maxLen at hm0 hm1
  clear h hdi hwi hdr hwr hdk hwk hwk' hy hv0 hv1 hs0 hs1 low
  have HX : Hid (S.dur k = S.dur k) := rfl
  revert HX
  generalize hx : S.dur k = x at *
  intro _
  have HX := Lib.hid hx
  clear hx
  go_enter Try.func34, Try.ntmps34
  go_upto_region 0 with (fail)
  have q0 := up_cell (F := fun _ => False) (w := w.drew) c0 id
  have q1 := up_cell (F := fun _ => False) (w := w.drew) c1 id
  have q2 := up_cell (F := fun _ => False) (w := w.drew) r0 id
  have q3 := up_cell (F := fun _ => False) (w := w.drew) r1 id
  refine wp_region_stages Grow (kept_refl _) (kept_trans _) [] [0, 1, 2, 3, 4, 5, 6, 7, 8, 9, 10, 11, 12, 13, 14, 15] (by kernel_rfl) (by kernel_rfl) ?_
  simp only [selSt, sel, List.map_cons, List.map_nil, List.getD_cons_succ, List.getD_cons_zero]
  refine st_nil fun K2 hK2 => ?_
  repeat (go_big_quiet_step (fail))
  refine wpQuiet_nil (hK2 _ ?_)
  clear q0 q1 q2 q3 hK2 K2
  have HF : Hid (DevAt w.drew d D W G (setS S k 0 y)) := H.out.drew.congr rfl rfl rfl rfl (fun p _ => by
    show (if p = k then settleI 0 (S.dur k) y else S.dur p) = S.dur p
    by_cases e : p = k
    · rw [if_pos e, e]; rfl
    · rw [if_neg e]) (fun _ _ => rfl)
  go_wp2
  go_end0
  exact ⟨rfl, HF.out, Kept.drew' w⟩

set_option maxHeartbeats 1000000 in
theorem settle_1 (h : DevAt w d D W G S) (k : Nat) (hk : k < S.N) (y : List Int) (hy : S.wr k = some y) (low : ∀ x, G x → x < w.heap.size) :
    Calls Try.prog 34 #[.pointer (some ⟨d, 0, none⟩), .int .i64 (k : Int), .int .u8 1] w (SetPost d D W G w (setS S k 1 y)) := by
  have hN := h.size
  have H := Lib.hid h
  have c0 := h.c0
  have c1 := h.c1
  obtain ⟨dv, hdr, hdi⟩ := h.dur
  obtain ⟨wv, hwr, hwi⟩ := h.wr
  have hdk := hdi k hk
  have hwk := hwi k hk
  rw [hy] at hwk
  have hwk' : Img w G (wv k) y := hwk
  have r0 := hdr.cell (i := k) hk
  have r1 := hwr.cell (i := k) hk
  have hf := hdr.frozen k
  have hkz : (k : Int) < (S.N : Int) := by omega
  have HI := Lib.hid hwk'
  obtain ⟨b0, e0, hv0, h24, hm0, hs0⟩ := hdk.sl
  obtain ⟨b1, e1, hv1, h24', hm1, hs1⟩ := hwk'.sl
  rw [hv0] at r0
  rw [hv1] at r1 HI
  have HZ0 := Lib.hid (And.intro hdk.len hdk.bytes)
  have HZ1 := Lib.hid (And.intro hwk'.len hwk'.bytes)
  have HS0 := Lib.hid hs0
  have HS1 := Lib.hid hs1
  have HLOW := Lib.hid low
  have HNE := Lib.hid h.ne
  unfold maxLen at hm0 hm1
  clear h hdi hwi hdr hwr hdk hwk hwk' hy hv0 hv1 hs0 hs1 low
  have HX : Hid (S.dur k = S.dur k) := rfl
  revert HX
  generalize hx : S.dur k = x at *
  intro _
  have HX := Lib.hid hx
  clear hx
  go_enter Try.func34, Try.ntmps34
  go_upto_region 0 with (fail)
  have q0 := up_cell (F := fun _ => False) (w := w.drew) c0 id
  have q1 := up_cell (F := fun _ => False) (w := w.drew) c1 id
  have q2 := up_cell (F := fun _ => False) (w := w.drew) r0 id
  have q3 := up_cell (F := fun _ => False) (w := w.drew) r1 id
  refine wp_region_stages Grow (kept_refl _) (kept_trans _) [] [0, 1, 2, 3, 4, 5, 6, 7, 8, 9, 10, 11, 12, 13, 14, 15] (by kernel_rfl) (by kernel_rfl) ?_
  simp only [selSt, sel, List.map_cons, List.map_nil, List.getD_cons_succ, List.getD_cons_zero]
  refine st_nil fun K2 hK2 => ?_
  repeat (go_big_quiet_step (fail))
  refine wpQuiet_nil (hK2 _ ?_)
  clear q0 q1 q2 q3 hK2 K2
  have HF : Hid (DevAt (w.drew.setCell ⟨D, k, none⟩ (.slice (some ⟨b1, 0, none⟩) 24 e1)) d D W G (setS S k 1 y)) := H.out.drew.putD (HI.out.kept (Kept.drew' (F := fun _ => False) w) (fun _ x => x.elim))
  have HK : Hid (Kept (Own d D W) w (w.drew.setCell ⟨D, k, none⟩ (.slice (some ⟨b1, 0, none⟩) 24 e1))) := (Kept.drew' w).setCell (fun _ => .inr (.inl rfl)) _
  go_wp2
  go_end0
  exact ⟨rfl, HF.out, HK.out⟩

set_option maxHeartbeats 1000000 in
theorem settle_2 (h : DevAt w d D W G S) (k : Nat) (hk : k < S.N) (y : List Int) (hy : S.wr k = some y) (low : ∀ x, G x → x < w.heap.size) :
    Calls Try.prog 34 #[.pointer (some ⟨d, 0, none⟩), .int .i64 (k : Int), .int .u8 2] w (SetPost d D W G w (setS S k 2 y)) := by
  have hN := h.size
  have H := Lib.hid h
  have c0 := h.c0
  have c1 := h.c1
  obtain ⟨dv, hdr, hdi⟩ := h.dur
  obtain ⟨wv, hwr, hwi⟩ := h.wr
  have hdk := hdi k hk
  have hwk := hwi k hk
  rw [hy] at hwk
  have hwk' : Img w G (wv k) y := hwk
  have r0 := hdr.cell (i := k) hk
  have r1 := hwr.cell (i := k) hk
  have hf := hdr.frozen k
  have hkz : (k : Int) < (S.N : Int) := by omega
  have HI := Lib.hid hwk'
  obtain ⟨b0, e0, hv0, h24, hm0, hs0⟩ := hdk.sl
  obtain ⟨b1, e1, hv1, h24', hm1, hs1⟩ := hwk'.sl
  rw [hv0] at r0
  rw [hv1] at r1 HI
  have HZ0 := Lib.hid (And.intro hdk.len hdk.bytes)
  have HZ1 := Lib.hid (And.intro hwk'.len hwk'.bytes)
  have HS0 := Lib.hid hs0
  have HS1 := Lib.hid hs1
  have HLOW := Lib.hid low
  have HNE := Lib.hid h.ne
  unfold maxLen at hm0 hm1
  clear h hdi hwi hdr hwr hdk hwk hwk' hy hv0 hv1 hs0 hs1 low
  have HX : Hid (S.dur k = S.dur k) := rfl
  revert HX
  generalize hx : S.dur k = x at *
  intro _
  have HX := Lib.hid hx
  clear hx
  go_enter Try.func34, Try.ntmps34
  go_upto_region 0 with (fail)
  have q0 := up_cell (F := fun _ => False) (w := w.drew) c0 id
  have q1 := up_cell (F := fun _ => False) (w := w.drew) c1 id
  have q2 := up_cell (F := fun _ => False) (w := w.drew) r0 id
  have q3 := up_cell (F := fun _ => False) (w := w.drew) r1 id
  refine wp_region_stages Grow (kept_refl _) (kept_trans _) [] [0, 1, 2, 3, 4, 5, 6, 7, 8, 9, 10, 11, 12, 13, 14, 15] (by kernel_rfl) (by kernel_rfl) ?_
  simp only [selSt, sel, List.map_cons, List.map_nil, List.getD_cons_succ, List.getD_cons_zero]
  refine st_nil fun K2 hK2 => ?_
  repeat (go_big_quiet_step (fail))
  refine wpQuiet_nil (hK2 _ ?_)
  clear q0 q1 q2 q3 hK2 K2
  go_upto_region 5 with (fail)
  have q0 := up_cell (F := (· = D)) (w := w.drew.drew) c0 HNE.out.1
  refine wp_region_stages (Kept (· = D)) (kept_refl _) (kept_trans _) [([0, 1, 2, 3, 4, 5, 6, 7, 8], 9), ([], 10), ([11], 12)] [] (by kernel_rfl) (by kernel_rfl) ?_
  simp only [selSt, sel, List.map_cons, List.map_nil, List.getD_cons_succ, List.getD_cons_zero]
  refine st_cons fun K1 hK1 => ?_
  repeat (go_big_quiet_step (fail))
  refine wpQuiet_nil ?_
  clear q0
  go_wp2
  refine norm_up (hK1 _ _ ((Kept.refl _ _).alloc _) ?_)
  clear hK1 K1
  have hblk : Blk ((w.alloc (.cells #[.slice (some ⟨b1, 0, none⟩) 12 e1, .slice (some ⟨b0, 12, none⟩) 12 (e0 - 12)] 28)).drew.drew) w.heap.size 28 [.slice (some ⟨b1, 0, none⟩) 12 e1, .slice (some ⟨b0, 12, none⟩) 12 (e0 - 12)] := Blk.new w _ _
  have HGA : Hid (Grow w ((w.alloc (.cells #[.slice (some ⟨b1, 0, none⟩) 12 e1, .slice (some ⟨b0, 12, none⟩) 12 (e0 - 12)] 28)).drew.drew)) := (((Kept.refl _ w).alloc _).drew).drew
  have k0 := Blk.cell hblk 0
  have k1 := Blk.cell hblk 1
  simp only [List.getElem?_cons_zero, List.getElem?_cons_succ] at k0 k1
  have CC := Lib.hid (concat_any (some ⟨b1, 0, none⟩) (some ⟨b0, 12, none⟩) 12 12 e1 (e0 - 12) w.heap.size w.heap.size _ _ _ (by omega) (by omega) (by omega) (by omega)
    (Sl.kept (take_sl HS1.out (m := 12) (c := 0) (by omega)) HGA.out (Nat.le_refl _) (fun _ _ x => x)) (Sl.kept (drop_sl HS0.out (c := e0) (by omega)) HGA.out (Nat.le_refl _) (fun _ _ x => x)) k0 k1 HGA.out.size)
  clear hblk k0 k1
  refine st_cons fun K1 hK1 => wpQuiet_nil ?_
  go_wp2_with (go_at_call 36; (with_reducible refine CC.out.mono ?_); rintro e w4 ⟨g, c, rfl, hg, hrow, hc1, hc2, hgr⟩; have HG := Lib.hid hg; have HR := Lib.hid hrow; have HGR := Lib.hid hgr; clear hg hrow hgr)
  refine norm_up (hK1 _ _ HGR.out.kept ?_)
  clear hK1 K1 CC
  have HD4 : Hid (DevAt w4 d D W G S) := H.out.grow (HGA.out.trans HGR.out)
  have r0' := (HGA.out.trans HGR.out).cellN r0 id
  have hf' : w4.frozen? ⟨D, k, none⟩ = false := by rw [(HGA.out.trans HGR.out).frozen (p := ⟨D, k, none⟩) (block_lt_of_cell r0) id]; exact hf
  have hl : (y.take 12 ++ x.drop 12).length = 24 := by rw [List.length_append, List.length_take, List.length_drop, HZ0.out.1, HZ1.out.1]; decide
  have hbz : Bytes (y.take 12 ++ x.drop 12) := fun c hc => by
    rcases List.mem_append.1 hc with h | h
    · exact HZ1.out.2 c (List.mem_of_mem_take h)
    · exact HZ0.out.2 c (List.mem_of_mem_drop h)
  have HI4 : Hid (Img w4 G (.slice (some ⟨g, 0, none⟩) 24 c) (y.take 12 ++ x.drop 12)) := Img.of_row HR.out hl hbz hc1 hc2 (fun x => by have := HLOW.out g x; have := HG.out; have := HGA.out.size; omega)
  have HF : Hid (DevAt (w4.setCell ⟨D, k, none⟩ (.slice (some ⟨g, 0, none⟩) 24 c)) d D W G (setS S k 2 y)) := (HD4.out.putD (k := k) HI4.out).congr rfl rfl rfl rfl (fun p _ => by
    show (if p = k then settleI 2 (S.dur k) y else S.dur p) = (if p = k then y.take 12 ++ x.drop 12 else S.dur p)
    rw [HX.out]; rfl) (fun _ _ => rfl)
  have HK : Hid (Kept (Own d D W) w (w4.setCell ⟨D, k, none⟩ (.slice (some ⟨g, 0, none⟩) 24 c))) := (Grow.kept (HGA.out.trans HGR.out)).setCell (fun _ => .inr (.inl rfl)) _
  clear hl hbz
  refine st_cons fun K2 hK2 => ?_
  repeat (go_big_quiet_step (fail))
  refine wpQuiet_nil ?_
  go_wp2
  refine norm_up (hK2 _ _ (kept_set _ _ _ _) (st_nil fun K3 hK3 => wpQuiet_nil (hK3 _ ?_)))
  clear hK2 K2 K3 hK3 r0' hf'
  go_wp2
  go_end0
  exact ⟨rfl, HF.out, HK.out⟩

set_option maxHeartbeats 1000000 in
theorem settle_3 (h : DevAt w d D W G S) (k : Nat) (hk : k < S.N) (y : List Int) (hy : S.wr k = some y) (low : ∀ x, G x → x < w.heap.size) :
    Calls Try.prog 34 #[.pointer (some ⟨d, 0, none⟩), .int .i64 (k : Int), .int .u8 3] w (SetPost d D W G w (setS S k 3 y)) := by
  have hN := h.size
  have H := Lib.hid h
  have c0 := h.c0
  have c1 := h.c1
  obtain ⟨dv, hdr, hdi⟩ := h.dur
  obtain ⟨wv, hwr, hwi⟩ := h.wr
  have hdk := hdi k hk
  have hwk := hwi k hk
  rw [hy] at hwk
  have hwk' : Img w G (wv k) y := hwk
  have r0 := hdr.cell (i := k) hk
  have r1 := hwr.cell (i := k) hk
  have hf := hdr.frozen k
  have hkz : (k : Int) < (S.N : Int) := by omega
  have HI := Lib.hid hwk'
  obtain ⟨b0, e0, hv0, h24, hm0, hs0⟩ := hdk.sl
  obtain ⟨b1, e1, hv1, h24', hm1, hs1⟩ := hwk'.sl
  rw [hv0] at r0
  rw [hv1] at r1 HI
  have HZ0 := Lib.hid (And.intro hdk.len hdk.bytes)
  have HZ1 := Lib.hid (And.intro hwk'.len hwk'.bytes)
  have HS0 := Lib.hid hs0
  have HS1 := Lib.hid hs1
  have HLOW := Lib.hid low
  have HNE := Lib.hid h.ne
  unfold maxLen at hm0 hm1
  clear h hdi hwi hdr hwr hdk hwk hwk' hy hv0 hv1 hs0 hs1 low
  have HX : Hid (S.dur k = S.dur k) := rfl
  revert HX
  generalize hx : S.dur k = x at *
  intro _
  have HX := Lib.hid hx
  clear hx
  go_enter Try.func34, Try.ntmps34
  go_upto_region 0 with (fail)
  have q0 := up_cell (F := fun _ => False) (w := w.drew) c0 id
  have q1 := up_cell (F := fun _ => False) (w := w.drew) c1 id
  have q2 := up_cell (F := fun _ => False) (w := w.drew) r0 id
  have q3 := up_cell (F := fun _ => False) (w := w.drew) r1 id
  refine wp_region_stages Grow (kept_refl _) (kept_trans _) [] [0, 1, 2, 3, 4, 5, 6, 7, 8, 9, 10, 11, 12, 13, 14, 15] (by kernel_rfl) (by kernel_rfl) ?_
  simp only [selSt, sel, List.map_cons, List.map_nil, List.getD_cons_succ, List.getD_cons_zero]
  refine st_nil fun K2 hK2 => ?_
  repeat (go_big_quiet_step (fail))
  refine wpQuiet_nil (hK2 _ ?_)
  clear q0 q1 q2 q3 hK2 K2
  go_upto_region 7 with (fail)
  have q0 := up_cell (F := (· = D)) (w := w.drew.drew) c0 HNE.out.1
  refine wp_region_stages (Kept (· = D)) (kept_refl _) (kept_trans _) [([0, 1, 2, 3, 4, 5, 6, 7, 8], 9), ([], 10), ([11], 12)] [] (by kernel_rfl) (by kernel_rfl) ?_
  simp only [selSt, sel, List.map_cons, List.map_nil, List.getD_cons_succ, List.getD_cons_zero]
  refine st_cons fun K1 hK1 => ?_
  repeat (go_big_quiet_step (fail))
  refine wpQuiet_nil ?_
  clear q0
  go_wp2
  refine norm_up (hK1 _ _ ((Kept.refl _ _).alloc _) ?_)
  clear hK1 K1
  have hblk : Blk ((w.alloc (.cells #[.slice (some ⟨b0, 0, none⟩) 12 e0, .slice (some ⟨b1, 12, none⟩) 12 (e1 - 12)] 28)).drew.drew) w.heap.size 28 [.slice (some ⟨b0, 0, none⟩) 12 e0, .slice (some ⟨b1, 12, none⟩) 12 (e1 - 12)] := Blk.new w _ _
  have HGA : Hid (Grow w ((w.alloc (.cells #[.slice (some ⟨b0, 0, none⟩) 12 e0, .slice (some ⟨b1, 12, none⟩) 12 (e1 - 12)] 28)).drew.drew)) := (((Kept.refl _ w).alloc _).drew).drew
  have k0 := Blk.cell hblk 0
  have k1 := Blk.cell hblk 1
  simp only [List.getElem?_cons_zero, List.getElem?_cons_succ] at k0 k1
  have CC := Lib.hid (concat_any (some ⟨b0, 0, none⟩) (some ⟨b1, 12, none⟩) 12 12 e0 (e1 - 12) w.heap.size w.heap.size _ _ _ (by omega) (by omega) (by omega) (by omega)
    (Sl.kept (take_sl HS0.out (m := 12) (c := 0) (by omega)) HGA.out (Nat.le_refl _) (fun _ _ x => x)) (Sl.kept (drop_sl HS1.out (c := e1) (by omega)) HGA.out (Nat.le_refl _) (fun _ _ x => x)) k0 k1 HGA.out.size)
  clear hblk k0 k1
  refine st_cons fun K1 hK1 => wpQuiet_nil ?_
  go_wp2_with (go_at_call 36; (with_reducible refine CC.out.mono ?_); rintro e w4 ⟨g, c, rfl, hg, hrow, hc1, hc2, hgr⟩; have HG := Lib.hid hg; have HR := Lib.hid hrow; have HGR := Lib.hid hgr; clear hg hrow hgr)
  refine norm_up (hK1 _ _ HGR.out.kept ?_)
  clear hK1 K1 CC
  have HD4 : Hid (DevAt w4 d D W G S) := H.out.grow (HGA.out.trans HGR.out)
  have r0' := (HGA.out.trans HGR.out).cellN r0 id
  have hf' : w4.frozen? ⟨D, k, none⟩ = false := by rw [(HGA.out.trans HGR.out).frozen (p := ⟨D, k, none⟩) (block_lt_of_cell r0) id]; exact hf
  have hl : (x.take 12 ++ y.drop 12).length = 24 := by rw [List.length_append, List.length_take, List.length_drop, HZ0.out.1, HZ1.out.1]; decide
  have hbz : Bytes (x.take 12 ++ y.drop 12) := fun c hc => by
    rcases List.mem_append.1 hc with h | h
    · exact HZ0.out.2 c (List.mem_of_mem_take h)
    · exact HZ1.out.2 c (List.mem_of_mem_drop h)
  have HI4 : Hid (Img w4 G (.slice (some ⟨g, 0, none⟩) 24 c) (x.take 12 ++ y.drop 12)) := Img.of_row HR.out hl hbz hc1 hc2 (fun x => by have := HLOW.out g x; have := HG.out; have := HGA.out.size; omega)
  have HF : Hid (DevAt (w4.setCell ⟨D, k, none⟩ (.slice (some ⟨g, 0, none⟩) 24 c)) d D W G (setS S k 3 y)) := (HD4.out.putD (k := k) HI4.out).congr rfl rfl rfl rfl (fun p _ => by
    show (if p = k then settleI 3 (S.dur k) y else S.dur p) = (if p = k then x.take 12 ++ y.drop 12 else S.dur p)
    rw [HX.out]; rfl) (fun _ _ => rfl)
  have HK : Hid (Kept (Own d D W) w (w4.setCell ⟨D, k, none⟩ (.slice (some ⟨g, 0, none⟩) 24 c))) := (Grow.kept (HGA.out.trans HGR.out)).setCell (fun _ => .inr (.inl rfl)) _
  clear hl hbz
  refine st_cons fun K2 hK2 => ?_
  repeat (go_big_quiet_step (fail))
  refine wpQuiet_nil ?_
  go_wp2
  refine norm_up (hK2 _ _ (kept_set _ _ _ _) (st_nil fun K3 hK3 => wpQuiet_nil (hK3 _ ?_)))
  clear hK2 K2 K3 hK3 r0' hf'
  go_wp2
  go_end0
  exact ⟨rfl, HF.out, HK.out⟩

theorem settle_any (h : DevAt w d D W G S) (k : Nat) (hk : k < S.N) (y : List Int) (hy : S.wr k = some y) (low : ∀ x, G x → x < w.heap.size) (F : Int) (f : Nat) (hF : F = (f : Int)) (hf : f < 4) :
    Calls Try.prog 34 #[.pointer (some ⟨d, 0, none⟩), .int .i64 (k : Int), .int .u8 F] w (SetPost d D W G w (setS S k f y)) := by
  subst hF
  match f, hf with
  | 0, _ => exact settle_0 h k hk y hy low
  | 1, _ => exact settle_1 h k hk y hy low
  | 2, _ => exact settle_2 h k hk y hy low
  | 3, _ => exact settle_3 h k hk y hy low
end
end Go.Proofs.Ytfjcbcpfhjaeeaa.DevK
