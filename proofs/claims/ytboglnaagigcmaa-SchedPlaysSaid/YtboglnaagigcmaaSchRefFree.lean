/-
  The document's schedule, last: Free, NewSched.
-/
import Derived.Test.YtboglnaagigcmaaSchRefMore
namespace Go.Proofs.Ytboglnaagigcmaa.SchT
open Go.ChangeShapes Go.WideShapes Go.ChangeAt Go.RowKit
open Go.Proofs.Ytboglnaagigcmaa.Mem Go.Proofs.Ytboglnaagigcmaa.Blk Go.Proofs.Ytboglnaagigcmaa.Cells Go.Proofs.Ytboglnaagigcmaa.SchM Go.Proofs.Ytboglnaagigcmaa.SchC Go.Proofs.Ytboglnaagigcmaa.SchD Go.Proofs.Ytboglnaagigcmaa.SchE Go.Proofs.Ytboglnaagigcmaa.SchR Go.Proofs.Ytboglnaagigcmaa.SchS Go.Proofs.Ytboglnaagigcmaa.Stages

section
variable {w w' : World} {d D c p : Nat} {T U : Sc} {F : Nat → Prop}
/-- What Free makes: who was freed, in memory of the caller's own; the schedule behind it. -/
def FPost (d D c : Nat) (w : World) (zs : List Nat) (U : Sc) (e : Ending) (w' : World) : Prop :=
  ∃ A cc, e = .returned (.slice A zs.length cc) ∧ Sl w' w'.heap.size .i64 A zs.length (ints zs) ∧ (∀ x, A = some x → w.heap.size ≤ x.block) ∧ SchAt w' d D c U ∧ Kept (At D) w w'
theorem sfree_any (h : SchAt w d D c T) (on : Int) : Calls Try.prog 19 #[.pointer (some ⟨d, 0, none⟩), .int .i64 on] w (FPost d D c w (which T 2 on) (T.free on)) := free_any h on
theorem freed_s {T : Sc} {s o : Int} {j : Nat} (l : List Nat) (hl : ∀ k ∈ l, k < j) : (T.free1 l).S j = T.S j ∧ (T.free1 l).O j = T.O j := by
  have h : j ∉ l := fun x => absurd (hl j x) (Nat.lt_irrefl j)
  exact ⟨if_neg h, if_neg h⟩
set_option maxHeartbeats 2000000 in
theorem rfree_any (h : SchAt w d D c T) (on : Int) : Calls Try.prog 20 #[.pointer (some ⟨d, 0, none⟩), .int .i64 on] w (FPost d D c w (which T 2 on) (T.free on)) := by
  have H := Lib.hid h
  have hsz := h.r.size
  have hszi : (T.n : Int) ≤ 64 := by omega
  have HD := Lib.hid h.r.lt
  by_cases hn : on < 0
  · have HE : Hid (which T 2 on = []) := which_neg h.ok hn
    have HE2 : Hid (T.free on = T) := by show _ = _; unfold Sc.free; rw [HE.out, free1_nil]
    have c0 := h.r.c0
    have hpos : 0 < (T.n : Int) := by have := h.r.pos; omega
    rw [HE.out, HE2.out]
    clear h
    go_enter Try.func20, Try.ntmps20
    go_wp2
    go_loopg [5, 6] 0 (fun g v i wr => v = .slice none 0 0 ∧ i = .int .i64 0 ∧ w = wr)
    case atStart => exact ⟨rfl, rfl, rfl⟩
    case round =>
      obtain ⟨rfl, rfl, rfl⟩ := hrel
      go_wp2
      go_ret
      exact ⟨none, 0, rfl, Sl.nil _ _ _ _, fun x hx => (by cases hx), H.out, Kept.refl _ _⟩
  have hn' : 0 ≤ on := by omega
  have HW : Hid (which T 2 on = upto T 2 on T.n) := rfl
  have HWF : Hid (T.free on = T.free1 (which T 2 on)) := rfl
  generalize which T 2 on = R at *
  clear h hn
  go_enter Try.func20, Try.ntmps20
  go_wp2
  go_loopg [5, 6] T.n (fun g v i wr => ∃ j : Nat, j + g = T.n ∧ i = .int .i64 (j : Int) ∧ Raw wr d D c (T.free1 (upto T 2 on j)) ∧ wr.ownsRow w.heap.size 3 1 v (upto T 2 on j).length ((ints (upto T 2 on j)).map (Value.int .i64)) ∧ Kept (At D) w wr)
  case atStart => exact ⟨0, by omega, rfl, by rw [upto_zero, free1_nil]; exact H.out.r, World.ownsRow_nil _ _ _ _, Kept.refl _ _⟩
  case round =>
    obtain ⟨j, hg, rfl, hr, hown, hk⟩ := hrel
    have HO := Lib.hid hown
    have HK := Lib.hid hk
    have HG := Lib.hid hg
    have HR := Lib.hid hr
    have c0 : wr.cell? ⟨d, 0, none⟩ = some (.slice (some ⟨D, 0, none⟩) T.n c) := hr.c0
    by_cases hj : j < T.n
    · have hjz : (j : Int) < (T.n : Int) := by omega
      have r0 := hr.sl.s (p := j) hj
      have r2 := hr.sl.o (p := j) hj
      have hfs := freed_s (T := T) (s := 2) (o := on) (j := j) (upto T 2 on j) (fun k hk => (mem_upto.1 hk).1)
      rw [hfs.1] at r0
      rw [hfs.2] at r2
      have HX : Hid (∀ x y : Int, T.S j = x → T.O j = y → (x = 2 ∧ y = on → upto T 2 on (j + 1) = upto T 2 on j ++ [j]) ∧ (x ≠ 2 ∨ y ≠ on → upto T 2 on (j + 1) = upto T 2 on j)) := fun x y ex ey => ⟨fun ⟨a, b⟩ => upto_in (ex.trans a) (ey.trans b), fun a => upto_out (by rw [ex, ey]; exact a)⟩
      have HL : Hid ((upto T 2 on j).length ≤ 64) := by have := upto_len T 2 on j; show _ ≤ _; omega
      have HX' := Lib.hid (HX.out _ _ rfl rfl)
      have hbs : w.heap.size ≤ wr.heap.size := hk.size
      have f1 := hr.f1
      have HJ := Lib.hid hj
      clear hr hown hk hg HX hfs hj
      generalize T.S j = x at *
      generalize T.O j = y at *
      by_cases hx : x = 2 ∧ y = on
      · have HE := Lib.hid (HX'.out.1 hx)
        obtain ⟨rfl, rfl⟩ := hx
        clear HX'
        go_upto_region 6 with (fail)
        have d0 : wr.drew.cell? ⟨D, j * 3, none⟩ = some (.int .i64 2) := r0
        have fd : ∀ q, wr.drew.frozen? ⟨D, q, none⟩ = false := f1
        refine wp_region_stages (Kept (At D)) (kept_refl _) (kept_trans _) [([0, 1, 2, 3, 4, 5, 6, 7, 8, 9, 10, 11], 12), ([13, 14], 15)] [] (by kernel_rfl) (by kernel_rfl) ?_
        simp only [selSt, sel, List.map_cons, List.map_nil, List.getD_cons_succ, List.getD_cons_zero]
        refine st_cons fun K1 hK1 => ?_
        have u0 := up_cell (F := At D) (w := wr.drew) (p := ⟨d, 0, none⟩) c0 H.out.r.ne
        repeat (go_big_quiet_step (fail))
        refine wpQuiet_nil ?_
        clear u0
        go_wp2
        have HR1 := Lib.hid (HR.out.setS j 1)
        have HKA := Lib.hid (kept_drews (kept1 wr D (j * 3) (.int .i64 1)))
        have HKB := Lib.hid (kept1 wr D (j * 3) (.int .i64 1))
        clear d0 fd r0 r2 f1 c0
        generalize wr.setCell ⟨D, j * 3, none⟩ (.int .i64 1) = w2 at HR1 HKA HKB ⊢
        have r2 := HR1.out.sl.o (p := j) HJ.out
        have d2 : w2.drew.cell? ⟨D, j * 3 + 2, none⟩ = some (.int .i64 ((T.free1 (upto T 2 y j)).O j)) := r2
        have fd : ∀ q, w2.drew.frozen? ⟨D, q, none⟩ = false := HR1.out.f1
        refine norm_up (hK1 _ _ HKA.out (st_cons fun K2 hK2 => ?_))
        clear hK1 K1
        repeat (go_big_quiet_step (fail))
        refine wpQuiet_nil ?_
        go_wp2
        have HR2 : Hid (Raw (w2.setCell ⟨D, j * 3 + 2, none⟩ (.int .i64 (-1))) d D c (T.free1 (upto T 2 y (j + 1)))) := by
          have := HR1.out.setO j (-1)
          show Raw _ _ _ _ _
          rw [HE.out, ← free1_snoc]
          unfold Sc.set
          rwa [show upd (T.free1 (upto T 2 y j)).P j (T.P j) = (T.free1 (upto T 2 y j)).P from upd_id _ rfl]
        have HKC := Lib.hid (kept_drews (kept1 w2 D (j * 3 + 2) (.int .i64 (-1))))
        have HKD := Lib.hid (HKB.out.trans (kept1 w2 D (j * 3 + 2) (.int .i64 (-1))))
        clear d2 fd r2
        generalize w2.setCell ⟨D, j * 3 + 2, none⟩ (.int .i64 (-1)) = w3 at HR2 HKC HKD ⊢
        refine norm_up (hK2 _ _ HKC.out (st_nil fun K3 hK3 => ?_))
        clear hK2 K2
        refine wpQuiet_nil (hK3 _ ?_)
        clear hK3 K3
        have HO3 := Lib.hid (own_kept (F := At D) HO.out HKD.out.drew (fun k hk => by have hk : k = D := hk; have := HD.out.2; omega))
        have HR3 := Lib.hid (HR2.out.grow (Kept.drew' w3))
        have HK3 := Lib.hid ((HK.out.trans HKD.out).drew)
        have hbs3 : w.heap.size ≤ w3.drew.heap.size := HK3.out.size
        have HLZ := HL.out
        clear HR1 HR2 HKA HKB HKC HKD HO HR HK hbs
        generalize w3.drew = w4 at *
        generalize upto T 2 y j = l at *
        go_wp2_with (at_builtin; refine wpList_append_one rfl (.tmp 55) (.tmp 57) 33 rfl w.heap.size 3 (.int .i64 0) 8 Try.underlying33 infoI rfl _ l.length _ rfl (World.ownsRow.alloc HO3.out _) w4.heap.size (.int .i64 (j : Int)) rfl (cell_new1 _ _ _) rfl (by unfold maxLen; omega) (by omega) (by simp; omega) ?_; intro g cap w5 hown hbel; have HOW := Lib.hid hown; have HBW := Lib.hid hbel; clear hown hbel)
        have HBW2 : Hid (Below w.heap.size w4 w5) := ((Below.refl _ _).alloc hbs3 _).trans HBW.out
        go_roundg (gk - 1)
        case measure => have := HG.out; have := HJ.out; omega
        case rel =>
          have hD := HD.out
          refine ⟨j + 1, by have := HG.out; have := HJ.out; omega, by go_num, ⟨HR3.out.hd.of_block (HBW2.out.block _ hD.1), Row.of_block HR3.out.sl (HBW2.out.block _ hD.2), HR3.out.ne, HR3.out.pos, HR3.out.size, HR3.out.cap⟩, ?_, HK3.out.then (G := fun q => w.heap.size ≤ q) ⟨HBW2.out.os, HBW2.out.tape, HBW2.out.output, HBW2.out.size, fun q _ hq => HBW2.out.block q (by omega)⟩ (fun q h1 h2 => by omega)⟩
          rw [HE.out, ints_snoc, List.map_append, List.length_append]
          exact HOW.out
      · have HE := Lib.hid (HX'.out.2 (by omega))
        clear HX'
        by_cases hxs : x = 2
        · subst hxs
          have hy : (y == on) = false := by rw [beq_eq_false_iff_ne]; omega
          clear hx
          go_wp2
          go_roundg (gk - 1)
          case measure => have := HG.out; have := HJ.out; omega
          case rel => exact ⟨j + 1, by have := HG.out; have := HJ.out; omega, by go_num, by rw [HE.out]; exact HR.out, by rw [HE.out]; exact HO.out, HK.out⟩
        · have hx' : (x == 2) = false := by rw [beq_eq_false_iff_ne]; exact hxs
          clear hx
          go_wp2
          go_roundg (gk - 1)
          case measure => have := HG.out; have := HJ.out; omega
          case rel => exact ⟨j + 1, by have := HG.out; have := HJ.out; omega, by go_num, by rw [HE.out]; exact HR.out, by rw [HE.out]; exact HO.out, HK.out⟩
    · obtain rfl : j = T.n := by omega
      obtain ⟨A', c', rfl, hsl⟩ := Sl.of_row1 hown
      have HSL := Lib.hid hsl
      have HNEW : Hid (∀ x, A' = some x → w.heap.size ≤ x.block) := fun x e => (World.ownsRow.lt hown x.block (by rw [e]; rfl)).1
      clear hr hown hk hg hsl
      go_wp2
      go_ret
      have hR := HR.out
      rw [← HW.out, ← HWF.out] at hR
      have hS := HSL.out
      rw [← HW.out] at hS
      rw [← HW.out]
      refine ⟨A', c', rfl, hS, HNEW.out, ⟨hR, ?_⟩, HK.out⟩
      rw [HWF.out]
      exact sane_free1 H.out.ok R

/-! ### NewSched -/
theorem rnew_bad (k : Int) (hk : ¬ (1 ≤ k ∧ k ≤ 64)) : Calls Try.prog 8 #[.int .i64 k] w fun e w' => e = .returned (.pointer none) ∧ w = w' := by
  by_cases h0 : k < 1
  · clear hk
    go_enter Try.func8, Try.ntmps8
    go_wp2
    go_ret
    exact ⟨rfl, rfl⟩
  · have h1 : 64 < k := by omega
    have h0' : 1 ≤ k := by omega
    clear hk h0
    go_enter Try.func8, Try.ntmps8
    go_wp2
    go_ret
    exact ⟨rfl, rfl⟩
/-- The cells of tasks, in a row. -/
def cellsOf (T : Sc) : List Value := (List.range (T.n * 3)).map (tcell T)
theorem cellsOf_len (T : Sc) : (cellsOf T).length = T.n * 3 := by simp [cellsOf]
theorem cellsOf_get (T : Sc) {j : Nat} (h : j < T.n * 3) : (cellsOf T)[j]? = some (tcell T j) := by simp [cellsOf, h]
theorem cells_succ (j : Nat) : cellsOf (fresh (j + 1)) = cellsOf (fresh j) ++ [.int .i64 0, .int .i64 0, .int .i64 (-1)] := by
  unfold cellsOf
  show (List.range ((j + 1) * 3)).map (tcell (fresh (j + 1))) = (List.range (j * 3)).map (tcell (fresh j)) ++ _
  rw [show (j + 1) * 3 = j * 3 + 1 + 1 + 1 by omega, List.range_succ, List.range_succ, List.range_succ, List.map_append, List.map_append, List.map_append, List.append_assoc, List.append_assoc]
  congr 1
  have e0 : tcell (fresh (j + 1)) (j * 3) = .int .i64 0 := tcell0 _ j
  have e1 : tcell (fresh (j + 1)) (j * 3 + 1) = .int .i64 0 := tcell1 _ j
  have e2 : tcell (fresh (j + 1)) (j * 3 + 1 + 1) = .int .i64 (-1) := tcell2 _ j
  simp only [List.map_cons, List.map_nil, e0, e1, e2]
  rfl
theorem tasks_of_own {base g cap : Nat} {e : TypeId} (hp : 1 ≤ T.n) (h : w.ownsRow base e 3 (.slice (some ⟨g, 0, none⟩) T.n cap) T.n (cellsOf T)) : Tasks w g T ∧ base ≤ g ∧ T.n ≤ cap := by
  rcases h.2 with ⟨_, h0⟩ | ⟨g', cap', cur, ev, hb, hg, h1, h2, h3, h4⟩
  · omega
  injection ev with e1 e2 e3
  injection e1 with e1
  injection e1 with e1
  subst e1 e3
  refine ⟨⟨cur, e, hg, by omega, fun i hi => ?_⟩, hb, h1⟩
  have := cellsOf_get T hi
  rw [← h4, List.getElem?_take, if_pos hi] at this
  simpa using this
set_option maxHeartbeats 1000000 in
theorem rnew_good (n : Nat) (h1 : 1 ≤ n) (hn : n ≤ 64) : Calls Try.prog 8 #[.int .i64 (n : Int)] w (NewPost n w) := by
  have hn' : (n : Int) ≤ 64 := by omega
  have h1' : 1 ≤ (n : Int) := by omega
  go_enter Try.func8, Try.ntmps8
  go_upto_region 4 with (fail)
  have HB0 : Hid (Row (w.alloc (.cells #[.slice none 0 0] 42)) w.heap.size 1 (fun _ => .slice none 0 0)) := Row.of_blk (Blk.new w _ [.slice none 0 0]) rfl (fun i hi => by
    obtain rfl : i = 0 := by omega
    rfl)
  have HG0 : Hid (Grow w (w.alloc (.cells #[.slice none 0 0] 42))) := (Kept.refl _ _).alloc _
  have HSZ0 : Hid ((w.alloc (.cells #[.slice none 0 0] 42)).heap.size = w.heap.size + 1) := by show _ = _; simp
  generalize w.alloc (.cells #[.slice none 0 0] 42) = w1 at HB0 HG0 HSZ0 ⊢
  have HME : Hid (w.heap.size ≤ w.heap.size) := Nat.le_refl _
  generalize hm : w.heap.size = m at HB0 HSZ0 ⊢
  have HM := Lib.hid hm
  clear hm HME
  obtain ⟨i, hi, hz, hsz, hby⟩ := info_parts infoT
  have HI := Lib.hid hi
  have HZ := Lib.hid hz
  have HSZ := Lib.hid hsz
  have HBY := Lib.hid hby
  clear hi hz hsz hby
  go_wp2
  go_loopg [4] n (fun g ix wr => ∃ (j : Nat) (v : Value), j + g = n ∧ ix = .int .i64 (j : Int) ∧ Row wr m 1 (fun _ => v) ∧ wr.ownsRow (m + 1) 38 3 v j (cellsOf (fresh j)) ∧ Kept (At m) w1 wr)
  case atStart => exact ⟨0, _, by omega, rfl, HB0.out, World.ownsRow_nil _ _ _ _, Kept.refl _ _⟩
  case round =>
    obtain ⟨j, v, hg, rfl, hr, ho, hk⟩ := hrel
    have HG := Lib.hid hg
    have HR := Lib.hid hr
    have HO := Lib.hid ho
    have HK := Lib.hid hk
    have hbs : m + 1 ≤ wr.heap.size := by have := HK.out.size; have := HSZ0.out; omega
    have c0 : wr.cell? ⟨m, 0, none⟩ = some v := hr.cell (i := 0) (by omega)
    clear hg hr ho hk
    by_cases hj : j < n
    · have hji : (j : Int) < (n : Int) := by omega
      have HCE := Lib.hid (Blk.new wr 38 [.int .i64 0, .int .i64 0, .int .i64 (-1)])
      go_wp2_with (at_builtin; refine wpList_append_lies _ rfl (.tmp 22) (.tmp 24) 40 rfl (m + 1) 38 i _ 3 24 Try.underlying40 HI.out HZ.out HSZ.out HBY.out rfl (by decide) _ j _ rfl (World.ownsRow.alloc HO.out _) ⟨wr.heap.size, 0, none⟩ 1 1 [.int .i64 0, .int .i64 0, .int .i64 (-1)] rfl rfl (fun q u hq => ?_) (by intro u hu; simp at hu; rcases hu with rfl | rfl <;> rfl) (by omega) (by unfold maxLen; omega) (by omega) (by simp; omega) _ rfl ?_)
      · rw [show (⟨wr.heap.size, 0, none⟩ : Addr).add q = ⟨wr.heap.size, q, none⟩ by unfold Addr.add; split <;> simp_all, ← hq]
        exact HCE.out.cell q
      · intro g cap' w2 ho hgb _ _
        rw [← cells_succ] at ho
        have HO2 := Lib.hid ho
        have HK2 : Hid (Kept (At m) w1 w2) := (HK.out.alloc _).grown hgb (fun k hrow hlt => by have := (HO.out.lt k hrow).1; have := HSZ0.out; omega)
        have HR2 : Hid (Row w2 m 1 (fun _ => v)) := Row.of_block (HR.out.kept (F := fun _ => False) ((Kept.refl _ _).alloc (.cells #[.int .i64 0, .int .i64 0, .int .i64 (-1)] 38)) id) (hgb.block m (by simp; omega) (fun e => by have := (HO.out.lt m e.symm).1; omega))
        have c2 : w2.cell? ⟨m, 0, none⟩ = some v := HR2.out.cell (i := 0) (by omega)
        have f2 := HR2.out.frozen 0
        have HJ := Lib.hid hj
        clear ho hgb c0 hj hbs HCE
        go_wp2
        go_roundg (n - (j + 1))
        case measure => have := HG.out; have := HJ.out; omega
        case rel =>
          refine ⟨j + 1, _, by have := HG.out; have := HJ.out; omega, by go_num, (HR2.out.set 0 _).congr fun i hi => ?_, own_kept HO2.out (kept1 w2 m 0 _) (fun k hk => by have hk : k = m := hk; omega), HK2.out.setCell (fun _ => rfl) _⟩
          obtain rfl : i = 0 := by omega
          rfl
    · obtain rfl : j = n := by have := HG.out; omega
      clear hj
      obtain ⟨g, cap', rfl, hgm, _⟩ := HO.out.form (by omega)
      obtain ⟨x1, x2, x3⟩ := tasks_of_own (T := fresh j) h1 HO.out
      have HX1 := Lib.hid x1
      have HX2 := Lib.hid x2
      have HX3 := Lib.hid x3
      clear x1 x2 x3 hgm
      go_wp2
      go_ret
      refine ⟨m, g, cap', rfl, ⟨⟨HR.out, HX1.out, by have := HX2.out; omega, h1, hn, HX3.out⟩, sane_fresh _⟩, by have := HM.out; omega, by have := HM.out; have := HX2.out; omega, HG0.out.then HK.out fun k hk e => by have e : k = m := e; have := HM.out; omega⟩
end
end Go.Proofs.Ytboglnaagigcmaa.SchT
