/-
  Package sched: Task, Free, New.
-/
import Derived.Test.YtboglnaagigcmaaSchMore
import Derived.RegionTactic
namespace Go.Proofs.Ytboglnaagigcmaa.SchE
open Go.ChangeShapes Go.WideShapes Go.ChangeAt Go.RowKit
open Go.Proofs.Ytboglnaagigcmaa.Mem Go.Proofs.Ytboglnaagigcmaa.Blk Go.Proofs.Ytboglnaagigcmaa.Cells Go.Proofs.Ytboglnaagigcmaa.SchM Go.Proofs.Ytboglnaagigcmaa.SchC Go.Proofs.Ytboglnaagigcmaa.SchD Go.Proofs.Ytboglnaagigcmaa.Stages

/-! ### A task by value, in a cell of the callee -/
section
variable {fn : Func} {R : Ending → World → Prop} {a : Act} {w : World} {p g : Nat} {t : TypeId} {x y b : Value}
theorem task_size : (Try.prog.info? 38).map (·.size) = some 3 := by kernel_rfl
theorem load_task (hg : Blk w g t [x, y, b]) : (loadVar 38 ⟨g, 0, none⟩).run Try.prog w = .ok (.agg #[x, y, b]) w :=
  run_loadVar_row w g t 38 #[x, y, b] (0, 0) _ hg Try.underlying38 rfl task_size
theorem ret_task (h : fn.results = #[.cell p 38]) (hp : a.tmps.getD p undef = .pointer (some ⟨g, 0, none⟩)) (hg : Blk w g t [x, y, b]) (hd : a.defers = []) (hR : R (.returned (.agg #[x, y, b])) w) : bodyPost Try.prog fn R .ret a w := by
  refine bodyPost_ret ?_ hd hR
  have hp' : a.tmps[p]?.getD undef = .pointer (some ⟨g, 0, none⟩) := by simpa using hp
  simp [results, h, hp', asAddr, load_task hg]
end

/-- A task as a value; of none zeros. -/
def tval (T : Sc) (t : Int) : Value := if T.has t then .agg #[.int .i64 (T.S t.toNat), .int .i64 (T.P t.toNat), .int .i64 (T.O t.toNat)] else .agg #[.int .i64 0, .int .i64 0, .int .i64 0]
theorem tval_in {T : Sc} {k : Nat} (hk : k < T.n) : tval T (k : Int) = .agg #[.int .i64 (T.S k), .int .i64 (T.P k), .int .i64 (T.O k)] := by
  unfold tval; rw [if_pos (has_nat T hk), Int.toNat_natCast]
theorem tval_none {T : Sc} {t : Int} (h : T.has t = false) : tval T t = .agg #[.int .i64 0, .int .i64 0, .int .i64 0] := by
  unfold tval; rw [h]; rfl
theorem kept_drews {F : Nat → Prop} {a b : World} (h : Kept F a b) : Kept F a.drew b.drew := ⟨h.os, h.tape, h.output, h.size, h.block⟩
def VPost (w : World) (v : Value) (e : Ending) (w' : World) : Prop := e = .returned v ∧ Grow w w'
section
variable {w w' : World} {d D c p : Nat} {T U : Sc} {F : Nat → Prop}
theorem task_any (h : Raw w d D c T) (t : Int) : Calls Try.prog 27 #[.pointer (some ⟨d, 0, none⟩), .int .i64 t] w (VPost w (tval T t)) := by
  rcases has_cases T t with ht | ⟨k, rfl, hk⟩
  · have HA := Lib.hid fun (wx : World) (hw : Grow w wx) => one_none (h.grow hw) ht
    rw [tval_none ht]
    clear h ht
    go_enter Try.func27, Try.ntmps27
    go_upto_region 1 with (fail)
    have hb := Blk.new w 38 [.int .i64 0, .int .i64 0, .int .i64 0]
    have HG := Lib.hid ((Kept.refl (fun _ => False) w).alloc (.cells #[.int .i64 0, .int .i64 0, .int .i64 0] 38))
    have HN : Hid (w.heap.size ≤ w.heap.size) := Nat.le_refl _
    generalize w.alloc (.cells #[.int .i64 0, .int .i64 0, .int .i64 0] 38) = w1 at *
    have HB := Lib.hid hb
    have q0 := hb.cell 0
    have q1 := hb.cell 1
    have q2 := hb.cell 2
    have f1 := hb.frozenAll
    simp only [List.getElem?_cons_zero, List.getElem?_cons_succ] at q0 q1 q2
    clear hb
    go_wp2_with (go_at_call 28; (with_reducible refine (HA.out _ HG.out).mono ?_); rintro e w' ⟨rfl, rfl⟩)
    exact ret_task rfl rfl (((HB.out.set 0 _).set 1 _).set 2 _) rfl ⟨rfl, ((HG.out.setCell (fun x => absurd x (Nat.lt_irrefl _)) _).setCell (fun x => absurd x (Nat.lt_irrefl _)) _).setCell (fun x => absurd x (Nat.lt_irrefl _)) _⟩
  · have HA := Lib.hid fun (wx : World) (hw : Grow w wx) => one_in (h.grow hw) hk
    rw [tval_in hk]
    have HR := Lib.hid fun (wx : World) (hw : Grow w wx) => And.intro ((h.grow hw).sl.s hk) (And.intro ((h.grow hw).sl.q hk) ((h.grow hw).sl.o hk))
    clear h hk
    go_enter Try.func27, Try.ntmps27
    go_upto_region 1 with (fail)
    have hb := Blk.new w 38 [.int .i64 0, .int .i64 0, .int .i64 0]
    have HG := Lib.hid ((Kept.refl (fun _ => False) w).alloc (.cells #[.int .i64 0, .int .i64 0, .int .i64 0] 38))
    generalize w.alloc (.cells #[.int .i64 0, .int .i64 0, .int .i64 0] 38) = w1 at *
    have HB := Lib.hid hb
    have q0 := hb.cell 0
    have q1 := hb.cell 1
    have q2 := hb.cell 2
    have f1 := hb.frozenAll
    simp only [List.getElem?_cons_zero, List.getElem?_cons_succ] at q0 q1 q2
    have r0 := (HR.out _ HG.out).1
    have r1 := (HR.out _ HG.out).2.1
    have r2 := (HR.out _ HG.out).2.2
    clear hb
    go_wp2_with (go_at_call 28; (with_reducible refine (HA.out _ HG.out).mono ?_); rintro e w' ⟨rfl, rfl⟩)
    exact ret_task rfl rfl (((HB.out.set 0 _).set 1 _).set 2 _) rfl ⟨rfl, ((HG.out.setCell (fun x => absurd x (Nat.lt_irrefl _)) _).setCell (fun x => absurd x (Nat.lt_irrefl _)) _).setCell (fun x => absurd x (Nat.lt_irrefl _)) _⟩
set_option maxHeartbeats 1000000 in
theorem free_any (h : SchAt w d D c T) (on : Int) : Calls Try.prog 19 #[.pointer (some ⟨d, 0, none⟩), .int .i64 on] w fun e w' => ∃ A cc, e = .returned (.slice A (which T 2 on).length cc) ∧ Sl w' w'.heap.size .i64 A (which T 2 on).length (ints (which T 2 on)) ∧ (∀ x, A = some x → w.heap.size ≤ x.block) ∧ SchAt w' d D c (T.free on) ∧ Kept (At D) w w' := by
  have HA := Lib.hid (which_any h.r 2 on)
  have H := Lib.hid h
  have HE : Hid (T.free on = T.free1 (which T 2 on)) := rfl
  have HL : Hid ((which T 2 on).length ≤ 64) := by have := which_len T 2 on; have := h.r.size; show _ ≤ _; omega
  have HIN : Hid (∀ j, j < (which T 2 on).length → (which T 2 on).getD j 0 < T.n) := fun j hj => (mem_which.1 (getD_mem hj)).1
  have hsz := h.r.size
  have hszi : (T.n : Int) ≤ 64 := by omega
  clear h
  generalize which T 2 on = R at *
  go_enter Try.func19, Try.ntmps19
  go_wp2_with (go_at_call 31; (with_reducible refine HA.out.mono ?_); rintro e w1 ⟨A, cc, rfl, h1, h2, h3⟩; have H1 := Lib.hid h1; have H2 := Lib.hid h2; have H3 := Lib.hid h3; clear h1 h2 h3)
  have HD := Lib.hid H.out.r.lt
  have HS : Hid (∀ wx, Kept (At D) w1 wx → Sl wx w1.heap.size .i64 A R.length (ints R)) := fun wx hk => by
    refine ⟨H1.out.1, fun hn => ?_⟩
    obtain ⟨b, o, e, hb, hc⟩ := H1.out.at_ hn
    have hbD : ¬ b = D := by
      have h1 := H2.out _ e
      have h1 : w.heap.size ≤ b := h1
      have := HD.out.2
      omega
    exact ⟨b, o, e, hb, fun q hq => (hk.cell (p := ⟨b, o + q, none⟩) hb hbD).trans (hc q hq)⟩
  go_loopg [13] R.length (fun g i wr => ∃ j : Nat, j + g = R.length ∧ i = .int .i64 (j : Int) ∧ Raw wr d D c (T.free1 (R.take j)) ∧ Kept (At D) w1 wr)
  case atStart => exact ⟨0, by omega, rfl, by rw [List.take_zero, free1_nil]; exact H.out.r.grow H3.out, Kept.refl _ _⟩
  case round =>
    obtain ⟨j, hg, rfl, hr, hk⟩ := hrel
    have HG := Lib.hid hg
    have HR := Lib.hid hr
    have HK := Lib.hid hk
    have hlz : (R.length : Int) ≤ 64 := by have := HL.out; omega
    clear hg hk
    by_cases hj : j < R.length
    · have hjz : (j : Int) < (R.length : Int) := by omega
      obtain ⟨b, o, rfl, _, hc⟩ := (HS.out wr HK.out).at_ (by omega)
      have x0 := hc j hj
      rw [ints_get] at x0
      have hkn := HIN.out j hj
      have HE1 : Hid (R.take (j + 1) = R.take j ++ [R.getD j 0]) := by
        show _ = _
        rw [List.take_add_one, List.getD_eq_getElem?_getD, List.getElem?_eq_getElem hj]; rfl
      have c0 : wr.cell? ⟨d, 0, none⟩ = some (.slice (some ⟨D, 0, none⟩) T.n c) := hr.c0
      have r0 := hr.sl.s (p := R.getD j 0) hkn
      have r2 := hr.sl.o (p := R.getD j 0) hkn
      have f1 := hr.f1
      have hkz : ((R.getD j 0 : Nat) : Int) < (T.n : Int) := by omega
      clear hr hc
      generalize R.getD j 0 = k at *
      go_upto_region 5 with (fail)
      have d0 : wr.drew.cell? ⟨D, k * 3, none⟩ = some (.int .i64 ((T.free1 (R.take j)).S k)) := r0
      have fd : ∀ q, wr.drew.frozen? ⟨D, q, none⟩ = false := f1
      refine wp_region_stages (Kept (At D)) (kept_refl _) (kept_trans _) [([0, 1, 2, 3, 4, 5, 6, 7, 8, 9, 10, 11], 12), ([13, 14], 15)] [] (by kernel_rfl) (by kernel_rfl) ?_
      simp only [selSt, sel, List.map_cons, List.map_nil, List.getD_cons_succ, List.getD_cons_zero]
      refine st_cons fun K1 hK1 => ?_
      have u0 := up_cell (F := At D) (w := wr.drew) (p := ⟨d, 0, none⟩) c0 H.out.r.ne
      repeat (go_big_quiet_step (fail))
      refine wpQuiet_nil ?_
      clear u0
      go_wp2
      have HR1 := Lib.hid (HR.out.setS k 1)
      have HKA := Lib.hid (kept_drews (kept1 wr D (k * 3) (.int .i64 1)))
      have HKB := Lib.hid (kept1 wr D (k * 3) (.int .i64 1))
      clear d0 fd r0 r2 f1 c0
      generalize wr.setCell ⟨D, k * 3, none⟩ (.int .i64 1) = w2 at HR1 HKA HKB ⊢
      have r2 := HR1.out.sl.o (p := k) hkn
      have d2 : w2.drew.cell? ⟨D, k * 3 + 2, none⟩ = some (.int .i64 ((T.free1 (R.take j)).O k)) := r2
      have fd : ∀ q, w2.drew.frozen? ⟨D, q, none⟩ = false := HR1.out.f1
      refine norm_up (hK1 _ _ HKA.out (st_cons fun K2 hK2 => ?_))
      clear hK1 K1
      repeat (go_big_quiet_step (fail))
      refine wpQuiet_nil ?_
      go_wp2
      have HR2 : Hid (Raw (w2.setCell ⟨D, k * 3 + 2, none⟩ (.int .i64 (-1))) d D c (T.free1 (R.take (j + 1)))) := by
        have := HR1.out.setO k (-1)
        show Raw _ _ _ _ _
        rw [HE1.out, ← free1_snoc]
        unfold Sc.set
        rwa [show upd (T.free1 (R.take j)).P k (T.P k) = (T.free1 (R.take j)).P from upd_id _ rfl]
      have HKC := Lib.hid (kept_drews (kept1 w2 D (k * 3 + 2) (.int .i64 (-1))))
      have HKD := Lib.hid (HKB.out.trans (kept1 w2 D (k * 3 + 2) (.int .i64 (-1))))
      clear d2 fd r2
      generalize w2.setCell ⟨D, k * 3 + 2, none⟩ (.int .i64 (-1)) = w3 at HR2 HKC HKD ⊢
      refine norm_up (hK2 _ _ HKC.out (st_nil fun K3 hK3 => ?_))
      clear hK2 K2
      refine wpQuiet_nil (hK3 _ ?_)
      clear hK3 K3
      go_wp2
      go_roundg (gk - 1)
      case measure => have := HG.out; omega
      case rel => exact ⟨j + 1, by have := HG.out; omega, by go_num, HR2.out.grow (Kept.drew' _), (HK.out.trans HKD.out).drew⟩
    · obtain rfl : j = R.length := by have := HG.out; omega
      clear hr
      go_wp2
      go_ret
      have hR := HR.out
      rw [List.take_of_length_le (by omega), ← HE.out] at hR
      refine ⟨A, cc, rfl, (HS.out wr HK.out).more HK.out.size, H2.out, ⟨hR, ?_⟩, ((Grow.kept H3.out).trans HK.out)⟩
      rw [HE.out]
      exact sane_free1 H.out.ok R

/-! ### New -/
theorem new_bad (k : Int) (hk : ¬ (1 ≤ k ∧ k ≤ 64)) : Calls Try.prog 7 #[.int .i64 k] w fun e w' => e = .returned (.pointer none) ∧ w = w' := by
  by_cases h0 : k < 1
  · clear hk
    go_enter Try.func7, Try.ntmps7
    go_wp2
    go_ret
    exact ⟨rfl, rfl⟩
  · have h1 : 64 < k := by omega
    have h0' : 1 ≤ k := by omega
    clear hk h0
    go_enter Try.func7, Try.ntmps7
    go_wp2
    go_ret
    exact ⟨rfl, rfl⟩
theorem infoT : (Try.prog.info? 38).map (fun i => (i.zero, i.size, i.bytes)) = some (some (.agg #[.int .i64 0, .int .i64 0, .int .i64 0]), 3, 24) := by kernel_rfl
theorem made3 (w : World) (n : Nat) (hn : n ≤ 64) : (Instr.makeSlice 40 (.int .i64 (n : Int)) (.int .i64 (n : Int))).run Try.prog w = .ok (.slice (some ⟨w.heap.size, 0, none⟩) n n) (w.alloc (.cells (madeCells #[.int .i64 0, .int .i64 0, .int .i64 0] (n * 3)) 38)) := by
  obtain ⟨i, hi, hz, hs, hb⟩ := info_parts infoT
  have := run_make (P := Try.prog) w 40 38 i _ Try.underlying40 hi hz .i64 .i64 (n : Int) (n : Int) (by omega) (Int.le_refl _) (by rw [hb]; omega) (by omega)
  rw [hs, Int.toNat_natCast] at this
  exact this
/-- The first j as new ones, the others zeros. -/
def mid (n j : Nat) : Sc := ⟨n, fun _ => 0, fun _ => 0, fun k => if k < j then -1 else 0⟩
theorem mid_step (n j : Nat) : (mid n j).set j 0 0 (-1) = mid n (j + 1) := by
  unfold mid Sc.set
  congr 1
  · funext k; unfold upd; split <;> rfl
  · funext k; unfold upd; split <;> rfl
  · funext k
    unfold upd
    dsimp only
    by_cases e : k = j
    · rw [if_pos e, if_pos (by omega)]
    · rw [if_neg e]
      by_cases e2 : k < j
      · rw [if_pos e2, if_pos (by omega)]
      · rw [if_neg e2, if_neg (by omega)]
/-- What New makes. -/
def NewPost (n : Nat) (w : World) (e : Ending) (w' : World) : Prop :=
  ∃ d D c, e = .returned (.pointer (some ⟨d, 0, none⟩)) ∧ SchAt w' d D c (fresh n) ∧ w.heap.size ≤ d ∧ w.heap.size ≤ D ∧ Grow w w'
theorem new_good (n : Nat) (h1 : 1 ≤ n) (hn : n ≤ 64) : Calls Try.prog 7 #[.int .i64 (n : Int)] w (NewPost n w) := by
  have hn' : (n : Int) ≤ 64 := by omega
  have h1' : 1 ≤ (n : Int) := by omega
  have km := fun (w : World) => made3 w n hn
  go_enter Try.func7, Try.ntmps7
  go_upto_region 4 with (fail)
  clear km
  have hb := Blk.new (w.alloc (.cells (madeCells #[.int .i64 0, .int .i64 0, .int .i64 0] (n * 3)) 38)) 49 [.slice (some ⟨w.heap.size, 0, none⟩) n n]
  have e1 : (w.alloc (.cells (madeCells #[.int .i64 0, .int .i64 0, .int .i64 0] (n * 3)) 38)).heap.size = w.heap.size + 1 := by simp
  rw [e1] at hb
  have hr : Tasks (w.alloc (.cells (madeCells #[.int .i64 0, .int .i64 0, .int .i64 0] (n * 3)) 38)) w.heap.size (mid n 0) :=
    ⟨_, _, heap_alloc_new w _, by simp [size_madeCells]; exact Nat.le_refl _, fun i hi => by
      have hi : i < n * 3 := hi
      simp only [madeCells, Array.getElem?_map, Array.getElem?_range, hi, if_pos, Option.map_some]
      congr 1
      unfold tcell mid
      have : i % 3 = 0 ∨ i % 3 = 1 ∨ i % 3 = 2 := by omega
      rcases this with e | e | e <;> simp [e]⟩
  have HR : Hid (Raw ((w.alloc (.cells (madeCells #[.int .i64 0, .int .i64 0, .int .i64 0] (n * 3)) 38)).alloc (.cells #[.slice (some ⟨w.heap.size, 0, none⟩) n n] 49)) (w.heap.size + 1) w.heap.size n (mid n 0)) :=
    ⟨Row.of_blk hb rfl (fun i hi => by
      have : i = 0 := by omega
      subst this; rfl), Row.kept hr (F := fun _ => False) ((Kept.refl _ _).alloc _) id, by omega, h1, hn, Nat.le_refl n⟩
  have HG : Hid (Grow w ((w.alloc (.cells (madeCells #[.int .i64 0, .int .i64 0, .int .i64 0] (n * 3)) 38)).alloc (.cells #[.slice (some ⟨w.heap.size, 0, none⟩) n n] 49))) := ((Kept.refl _ _).alloc _).alloc _
  clear hb hr e1
  generalize (w.alloc (.cells (madeCells #[.int .i64 0, .int .i64 0, .int .i64 0] (n * 3)) 38)).alloc (.cells #[.slice (some ⟨w.heap.size, 0, none⟩) n n] 49) = wx at HR HG ⊢
  have c0 : wx.cell? ⟨w.heap.size + 1, 0, none⟩ = some (.slice (some ⟨w.heap.size, 0, none⟩) n n) := HR.out.c0
  generalize hd : w.heap.size + 1 = d at *
  generalize hD : w.heap.size = D at *
  have HDD : Hid (w.heap.size = D ∧ w.heap.size + 1 = d) := ⟨hD, by omega⟩
  clear hd hD
  go_wp2
  clear c0
  go_loopg [20] n (fun g i wr => ∃ j : Nat, j + g = n ∧ i = .int .i64 (j : Int) ∧ Raw wr d D n (mid n j) ∧ Kept (At D) wx wr)
  case atStart => exact ⟨0, by omega, rfl, HR.out, Kept.refl _ _⟩
  case round =>
    obtain ⟨j, hg, rfl, hr, hk⟩ := hrel
    have HRR := Lib.hid hr
    have HK := Lib.hid hk
    have HG2 := Lib.hid hg
    have c0 : wr.cell? ⟨d, 0, none⟩ = some (.slice (some ⟨D, 0, none⟩) n n) := hr.c0
    have f1 := hr.f1
    by_cases hj : j < n
    · have hj' : (j : Int) < (n : Int) := by omega
      have k0 := hr.sl.s (p := j) hj
      have k1 := hr.sl.q (p := j) hj
      have k2 := hr.sl.o (p := j) hj
      clear hr hk hg
      go_wp2
      go_roundg (gk - 1)
      case measure => have := HG2.out; omega
      case rel =>
        refine ⟨j + 1, by have := HG2.out; omega, by go_num, ?_, (HK.out.trans (kept2 _ _ _ _ _ _)).trans (kept1 _ _ _ _)⟩
        rw [← mid_step]
        exact HRR.out.set j 0 0 (-1)
    · have hj' : (n : Int) ≤ (j : Int) := by omega
      clear hr hk hg
      go_wp2
      go_ret
      have h2 := HDD.out
      refine ⟨d, D, n, rfl, ⟨⟨HRR.out.hd, HRR.out.sl.congr rfl (fun _ _ => rfl) (fun _ _ => rfl) (fun i hi => if_pos (by have : i < n := hi; omega)), HRR.out.ne, h1, hn, Nat.le_refl n⟩, sane_fresh n⟩, by omega, by omega, HG.out.then HK.out fun k hk hF => ?_⟩
      have hF : k = D := hF
      omega
end
end Go.Proofs.Ytboglnaagigcmaa.SchE
