/-
  Package latch: Lock, Share, New.
-/
import Derived.Test.YtpdmncdbimdfaaaLatAsk
namespace Go.Proofs.Ytpdmncdbimdfaaa.LatL
open Go.ChangeShapes Go.WideShapes Go.ChangeAt Go.RowKit
open Go.Proofs.Ytpdmncdbimdfaaa.Mem Go.Proofs.Ytpdmncdbimdfaaa.Blk Go.Proofs.Ytpdmncdbimdfaaa.Cells Go.Proofs.Ytpdmncdbimdfaaa.GsC Go.Proofs.Ytpdmncdbimdfaaa.LatM Go.Proofs.Ytpdmncdbimdfaaa.LatC Go.Proofs.Ytpdmncdbimdfaaa.LatY Go.Proofs.Ytpdmncdbimdfaaa.LatZ Go.Proofs.Ytpdmncdbimdfaaa.LatO Go.Proofs.Ytpdmncdbimdfaaa.LatI Go.Proofs.Ytpdmncdbimdfaaa.LatR Go.Proofs.Ytpdmncdbimdfaaa.LatN Go.Proofs.Ytpdmncdbimdfaaa.LatA Go.Proofs.Ytpdmncdbimdfaaa.RetC Go.Proofs.Ytpdmncdbimdfaaa.Stages Go.Proofs.Ytpdmncdbimdfaaa.Trees

section
variable {w w' wx : World} {L : La} {v : Value}
/-- Two blocks that a call has just laid. -/
structure Boxes (w w0 : World) (t : TypeId) (X Z : List Value) : Prop where
  b : Blk w0 w.heap.size t X
  z : Blk w0 (w.heap.size + 1) t Z
  g : Grow w w0
  s : w0.heap.size = w.heap.size + 2
theorem boxes (w : World) (t : TypeId) (X Z : List Value) : Boxes w ((w.alloc (.cells X.toArray t)).alloc (.cells Z.toArray t)) t X Z := by
  refine ⟨(Blk.new w t X).alloc _, ?_, ((Kept.refl _ _).alloc _).alloc _, by simp⟩
  have := Blk.new (w.alloc (.cells X.toArray t)) t Z
  rwa [show (w.alloc (.cells X.toArray t)).heap.size = w.heap.size + 1 by simp] at this

theorem lock_any (h : LatV w L v) (hg : LatM.Good L) (t : Int) (ht : task t = true) (h1 : L.has t = false) (h2 : L.waits t = false) :
    Calls Try.prog 6 #[v, .int .i64 t] w (AskP w (goIn L.W L.R (L.Q ++ [t]))) := by
  have HA := Lib.hid fun (w' : World) (hk : Grow w w') => ask_any (h.grow hk) hg t t ht h1 h2 (.inl rfl)
  obtain ⟨A0, c0, A0', c0', rfl, _, _, _, _⟩ := h
  generalize goIn L.W L.R (L.Q ++ [t]) = r at *
  generalize L.R.length = n at *
  generalize L.Q.length = m at *
  generalize L.W = W at *
  clear hg ht h1 h2
  generalize hP : AskP w r = P
  have HP := Lib.hid hP
  clear hP
  go_enter Try.func6, Try.ntmps6
  go_upto_region 1 with (fail)
  have hb := boxes w 25 [.int .i64 W, .slice A0 n c0, .slice A0' m c0'] [.int .i64 0, .slice none 0 0, .slice none 0 0]
  generalize (w.alloc (.cells #[.int .i64 W, .slice A0 n c0, .slice A0' m c0'] 25)).alloc (.cells #[.int .i64 0, .slice none 0 0, .slice none 0 0] 25) = w0 at *
  have HB := Lib.hid hb
  have k0 := hb.b.cell 0
  have k1 := hb.b.cell 1
  have k2 := hb.b.cell 2
  simp only [List.getElem?_cons_zero, List.getElem?_cons_succ] at k0 k1 k2
  clear hb
  go_wp2_with (go_at_call 11; (with_reducible refine (HA.out _ HB.out.g).mono ?_); rintro e w1 ⟨v, rfl, hv, hgr⟩; have HV := Lib.hid hv; have G1 := Lib.hid hgr; obtain ⟨D1, d1, D2, d2, rfl, _, _, _, _⟩ := Keeps.latv hv; clear hv hgr k0 k1 k2; have j0 := (HB.out.z.grow G1.out).cell 0; have j1 := (HB.out.z.grow G1.out).cell 1; have j2 := (HB.out.z.grow G1.out).cell 2; have fz := (HB.out.z.grow G1.out).frozenAll; simp only [List.getElem?_cons_zero, List.getElem?_cons_succ] at j0 j1 j2)
  have ZZ : Blk (((w1.setCell ⟨w.heap.size + 1, 0, none⟩ (.int .i64 r.1.W)).setCell ⟨w.heap.size + 1, 1, none⟩ (.slice D1 r.1.R.length d1)).setCell ⟨w.heap.size + 1, 2, none⟩ (.slice D2 r.1.Q.length d2)) (w.heap.size + 1) 25 [.int .i64 r.1.W, .slice D1 r.1.R.length d1, .slice D2 r.1.Q.length d2] := (((HB.out.z.grow G1.out).set 0 _).set 1 _).set 2 _
  have hkz := ((kept_set w1 (w.heap.size + 1) 0 (.int .i64 r.1.W)).trans (kept_set _ (w.heap.size + 1) 1 (.slice D1 r.1.R.length d1))).trans (kept_set _ (w.heap.size + 1) 2 (.slice D2 r.1.Q.length d2))
  refine ret_cell2 rfl rfl ZZ rfl ?_
  rw [← HP.out]
  have hs := HB.out.s
  exact ⟨_, rfl, Keeps.after HV.out hkz (fun k h1 e => by omega) (by omega), (HB.out.g.trans G1.out).then hkz fun k h1 e => by omega⟩

theorem share_any (h : LatV w L v) (hg : LatM.Good L) (t : Int) (ht : task t = true) (h1 : L.has t = false) (h2 : L.waits t = false) :
    Calls Try.prog 7 #[v, .int .i64 t] w (AskP w (goIn L.W L.R (L.Q ++ [-2 - t]))) := by
  have HA := Lib.hid fun (w' : World) (hk : Grow w w') => ask_any (h.grow hk) hg t (-2 - t) ht h1 h2 (.inr rfl)
  have htb := task_iff.1 ht
  have HT := Lib.hid fun (w : World) => toRead_any (w := w) t (by omega) (by omega)
  obtain ⟨A0, c0, A0', c0', rfl, _, _, _, _⟩ := h
  generalize goIn L.W L.R (L.Q ++ [-2 - t]) = r at *
  generalize L.R.length = n at *
  generalize L.Q.length = m at *
  generalize L.W = W at *
  clear hg ht h1 h2 htb
  generalize hP : AskP w r = P
  have HP := Lib.hid hP
  clear hP
  go_enter Try.func7, Try.ntmps7
  go_upto_region 1 with (fail)
  have hb := boxes w 25 [.int .i64 W, .slice A0 n c0, .slice A0' m c0'] [.int .i64 0, .slice none 0 0, .slice none 0 0]
  generalize (w.alloc (.cells #[.int .i64 W, .slice A0 n c0, .slice A0' m c0'] 25)).alloc (.cells #[.int .i64 0, .slice none 0 0, .slice none 0 0] 25) = w0 at *
  have HB := Lib.hid hb
  have hne : ¬ (fun k => k = w.heap.size + 1) w.heap.size := by show ¬ w.heap.size = w.heap.size + 1; omega
  have q0 := up_cell (F := fun k => k = w.heap.size + 1) (w := w0.drew) (hb.b.cell 0) hne
  have q1 := up_cell (F := fun k => k = w.heap.size + 1) (w := w0.drew) (hb.b.cell 1) hne
  have q2 := up_cell (F := fun k => k = w.heap.size + 1) (w := w0.drew) (hb.b.cell 2) hne
  clear hb hne
  refine wp_region_stages (Kept fun k => k = w.heap.size + 1) (kept_refl _) (kept_trans _) [([0, 1, 2], 3), ([], 4), ([5, 6], 7)] [8] (by kernel_rfl) (by kernel_rfl) ?_
  simp only [selSt, sel, List.map_cons, List.map_nil, List.getD_cons_succ, List.getD_cons_zero]
  refine st_cons fun K1 hK1 => ?_
  repeat (go_big_quiet_step (fail))
  refine wpQuiet_nil ?_
  go_wp2_with (go_at_call 12; (with_reducible refine (HT.out _).mono ?_); rintro e w' ⟨rfl, rfl⟩)
  refine norm_up (hK1 _ _ (Kept.refl _ _) ?_)
  clear hK1 K1 q0 q1 q2
  refine st_cons fun K1 hK1 => ?_
  refine wpQuiet_nil ?_
  go_wp2_with (go_at_call 11; (with_reducible refine (HA.out _ HB.out.g.drew).mono ?_); rintro e w1 ⟨v, rfl, hv, hgr⟩; have HV := Lib.hid hv; have G1 := Lib.hid hgr; obtain ⟨D1, d1, D2, d2, rfl, _, _, _, _⟩ := Keeps.latv hv; clear hv hgr)
  refine norm_up (hK1 _ _ (Grow.kept G1.out) ?_)
  clear hK1 K1
  have HZ := Lib.hid (HB.out.z.drew.grow G1.out)
  have j0 := HZ.out.cell 0
  have j1 := HZ.out.cell 1
  have j2 := HZ.out.cell 2
  have fz := HZ.out.frozenAll
  simp only [List.getElem?_cons_zero, List.getElem?_cons_succ] at j0 j1 j2
  refine st_cons fun K1 hK1 => ?_
  repeat (go_big_quiet_step (fail))
  refine wpQuiet_nil ?_
  go_wp2
  have HKZ := Lib.hid (((kept_set w1 (w.heap.size + 1) 0 (.int .i64 r.1.W)).trans (kept_set _ (w.heap.size + 1) 1 (.slice D1 r.1.R.length d1))).trans (kept_set _ (w.heap.size + 1) 2 (.slice D2 r.1.Q.length d2)))
  refine norm_up (hK1 _ _ HKZ.out (st_nil fun K2 hK2 => ?_))
  repeat (go_big_quiet_step (fail))
  refine wpQuiet_nil (hK2 _ ?_)
  clear hK1 K1 hK2 K2
  have ZZ : Blk (((w1.setCell ⟨w.heap.size + 1, 0, none⟩ (.int .i64 r.1.W)).setCell ⟨w.heap.size + 1, 1, none⟩ (.slice D1 r.1.R.length d1)).setCell ⟨w.heap.size + 1, 2, none⟩ (.slice D2 r.1.Q.length d2)) (w.heap.size + 1) 25 [.int .i64 r.1.W, .slice D1 r.1.R.length d1, .slice D2 r.1.Q.length d2] := ((HZ.out.set 0 _).set 1 _).set 2 _
  clear j0 j1 j2 fz
  generalize ((w1.setCell ⟨w.heap.size + 1, 0, none⟩ (.int .i64 r.1.W)).setCell ⟨w.heap.size + 1, 1, none⟩ (.slice D1 r.1.R.length d1)).setCell ⟨w.heap.size + 1, 2, none⟩ (.slice D2 r.1.Q.length d2) = w2 at *
  have HZZ := Lib.hid ZZ
  clear ZZ
  go_wp2
  refine ret_cell2 rfl rfl HZZ.out rfl ?_
  rw [← HP.out]
  have hs := HB.out.s
  have hs' : w0.drew.heap.size = w0.heap.size := rfl
  exact ⟨_, rfl, Keeps.after HV.out HKZ.out (fun k h1 e => by omega) (by omega), (HB.out.g.drew.trans G1.out).then HKZ.out fun k h1 e => by omega⟩

/-- A latch that nobody holds. -/
def free : La := ⟨-1, [], []⟩
theorem good_free : LatM.Good free := ⟨⟨.inl rfl, List.Pairwise.nil, by simp [free], by simp [free], by simp [free], by simp [free]⟩, fun x Q e => by cases e⟩
theorem latv_free (w : World) : LatV w free (.agg #[.int .i64 (-1), .slice none 0 0, .slice none 0 0]) :=
  ⟨none, 0, none, 0, rfl, Sl.nil _ _ _ _, Sl.nil _ _ _ _, ⟨Nat.le_refl _, Nat.zero_le _⟩, ⟨Nat.le_refl _, Nat.zero_le _⟩⟩
def NewP (w : World) (e : Ending) (w' : World) : Prop := e = .returned (.agg #[.int .i64 (-1), .slice none 0 0, .slice none 0 0]) ∧ Grow w w'
theorem new_any : Calls Try.prog 5 #[] w (NewP w) := by
  go_enter Try.func5, Try.ntmps5
  go_wp2
  have hb := Blk.new w 25 [.int .i64 (-1), .slice none 0 0, .slice none 0 0]
  refine ret_cell1 rfl rfl hb rfl ?_
  exact ⟨rfl, (Kept.refl _ w).alloc _⟩
end
end Go.Proofs.Ytpdmncdbimdfaaa.LatL
