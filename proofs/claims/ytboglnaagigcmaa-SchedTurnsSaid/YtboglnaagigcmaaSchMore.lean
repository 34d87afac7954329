/-
  Package sched: which, Ready, Pick, Stuck, Task, Free, New, at every schedule.
-/
import Derived.Test.YtboglnaagigcmaaSch
import Derived.Laws.ResultCell
namespace Go.Proofs.Ytboglnaagigcmaa.SchD
open Go.ChangeShapes Go.WideShapes Go.ChangeAt Go.RowKit
open Go.Proofs.Ytboglnaagigcmaa.Mem Go.Proofs.Ytboglnaagigcmaa.Blk Go.Proofs.Ytboglnaagigcmaa.Cells Go.Proofs.Ytboglnaagigcmaa.SchM Go.Proofs.Ytboglnaagigcmaa.SchC Go.Proofs.Ytboglnaagigcmaa.Stages

theorem infoI : (Try.prog.info? 3).map (fun i => (i.zero, i.size, i.bytes)) = some (some (.int .i64 0), 1, 8) := by kernel_rfl
/-- Numbers in memory of the caller's own. -/
def LPost (w : World) (zs : List Nat) (e : Ending) (w' : World) : Prop :=
  ∃ A c, e = .returned (.slice A zs.length c) ∧ Sl w' w'.heap.size .i64 A zs.length (ints zs) ∧ (∀ x, A = some x → w.heap.size ≤ x.block) ∧ Grow w w'

section
variable {w w' : World} {d D c p : Nat} {T U : Sc} {F : Nat → Prop}
theorem which_nil (s o : Int) : Calls Try.prog 31 #[.pointer none, .int .i64 s, .int .i64 o] w (LPost w []) := by
  have HA := Lib.hid fun (w : World) => all_nil (w := w)
  go_enter Try.func31, Try.ntmps31
  go_wp2
  go_step3
  go_wp2_with (go_at_call 33; (with_reducible refine (HA.out _).mono ?_); rintro e w' ⟨rfl, rfl⟩)
  go_step3
  go_wp2
  go_loopg [7, 13] 0 (fun g v i wr => v = .slice none 0 0 ∧ i = .int .i64 0 ∧ w = wr)
  case atStart => exact ⟨rfl, rfl, rfl⟩
  case round =>
    obtain ⟨rfl, rfl, rfl⟩ := hrel
    go_wp2
    rw [Exit.noGoto_ret]
    go_ret
    exact ⟨none, 0, rfl, Sl.nil _ _ _ _, fun x hx => (by cases hx), Kept.refl _ _⟩
set_option maxHeartbeats 1000000 in
theorem which_any (h : Raw w d D c T) (s o : Int) : Calls Try.prog 31 #[.pointer (some ⟨d, 0, none⟩), .int .i64 s, .int .i64 o] w (LPost w (which T s o)) := by
  have HA := Lib.hid (all_any h)
  have H := Lib.hid h
  have hsz := h.size
  have hszi : (T.n : Int) ≤ 64 := by omega
  have HW : Hid (which T s o = upto T s o T.n) := rfl
  generalize which T s o = R at *
  clear h
  go_enter Try.func31, Try.ntmps31
  go_wp2
  go_step3
  go_wp2
  go_step3
  go_wp2_with (go_at_call 33; (with_reducible refine HA.out.mono ?_); rintro e w' ⟨rfl, rfl⟩)
  go_loopg [7, 13] T.n (fun g v i wr => ∃ j : Nat, j + g = T.n ∧ i = .int .i64 (j : Int) ∧ wr.ownsRow w.heap.size 3 1 v (upto T s o j).length ((ints (upto T s o j)).map (Value.int .i64)) ∧ Below w.heap.size w wr)
  case atStart => exact ⟨0, by omega, rfl, World.ownsRow_nil _ _ _ _, Below.refl _ _⟩
  case round =>
    obtain ⟨j, hg, rfl, hown, hbel⟩ := hrel
    have HO := Lib.hid hown
    have HB := Lib.hid hbel
    have HG := Lib.hid hg
    have hr := H.out.grow (Kept.of_below hbel)
    by_cases hj : j < T.n
    · have hjz : (j : Int) < (T.n : Int) := by omega
      have r0 := hr.sl.s hj
      have r1 := hr.sl.q hj
      have r2 := hr.sl.o hj
      have HX : Hid (∀ x y : Int, T.S j = x → T.O j = y → (x = s ∧ y = o → upto T s o (j + 1) = upto T s o j ++ [j]) ∧ (x ≠ s ∨ y ≠ o → upto T s o (j + 1) = upto T s o j)) := fun x y ex ey => ⟨fun ⟨a, b⟩ => upto_in (ex.trans a) (ey.trans b), fun a => upto_out (by rw [ex, ey]; exact a)⟩
      have HL : Hid ((upto T s o j).length ≤ 64) := by have := upto_len T s o j; show _ ≤ _; omega
      have HX' := Lib.hid (HX.out _ _ rfl rfl)
      have hbs : w.heap.size ≤ wr.heap.size := hbel.size
      clear hr hown hbel hg HX
      generalize T.S j = x at *
      generalize T.O j = y at *
      generalize T.P j = pc at *
      go_upto_region 5 with (fail)
      have hb := Blk.new wr 38 [.int .i64 x, .int .i64 pc, .int .i64 y]
      have q0 := hb.cell 0
      have q2 := hb.cell 2
      simp only [List.getElem?_cons_zero, List.getElem?_cons_succ] at q0 q2
      have HO1 := Lib.hid (World.ownsRow.alloc HO.out (.cells #[.int .i64 x, .int .i64 pc, .int .i64 y] 38))
      have HB1 := Lib.hid (HB.out.alloc hbs (.cells #[.int .i64 x, .int .i64 pc, .int .i64 y] 38))
      clear hb r0 r1 r2 hbs HO HB
      generalize wr.alloc (.cells #[.int .i64 x, .int .i64 pc, .int .i64 y] 38) = w1 at *
      generalize wr.heap.size = g at *
      by_cases hx : x = s ∧ y = o
      · have HE := Lib.hid (HX'.out.1 hx)
        obtain ⟨rfl, rfl⟩ := hx
        have hbs : w.heap.size ≤ w1.heap.size := HB1.out.size
        have HLZ := HL.out
        clear HX'
        generalize upto T x y j = l at *
        go_wp2_with (at_builtin; refine wpList_append_one rfl (.tmp 28) (.tmp 30) 33 rfl w.heap.size 3 (.int .i64 0) 8 Try.underlying33 infoI rfl _ l.length _ rfl (World.ownsRow.alloc HO1.out _) w1.heap.size (.int .i64 (j : Int)) rfl (cell_new1 _ _ _) rfl (by unfold maxLen; omega) (by omega) (by simp; omega) ?_; intro g cap w2 hown hbel; have HOW := Lib.hid hown; have HBW := Lib.hid hbel; clear hown hbel)
        go_roundg (gk - 1)
        case measure => have := HG.out; omega
        case rel =>
          refine ⟨j + 1, by have := HG.out; omega, by go_num, ?_, (HB1.out.alloc hbs _).trans HBW.out⟩
          rw [HE.out, ints_snoc, List.map_append, List.length_append]
          exact HOW.out
      · have HE := Lib.hid (HX'.out.2 (by omega))
        clear HX'
        by_cases hxs : x = s
        · subst hxs
          have hy : (y != o) = true := by rw [bne_iff_ne]; omega
          clear hx
          go_wp2
          go_roundg (gk - 1)
          case measure => have := HG.out; omega
          case rel => exact ⟨j + 1, by have := HG.out; omega, by go_num, by rw [HE.out]; exact HO1.out, HB1.out⟩
        · have hx' : (x != s) = true := by rw [bne_iff_ne]; exact hxs
          clear hx
          go_wp2
          go_roundg (gk - 1)
          case measure => have := HG.out; omega
          case rel => exact ⟨j + 1, by have := HG.out; omega, by go_num, by rw [HE.out]; exact HO1.out, HB1.out⟩
    · obtain rfl : j = T.n := by omega
      obtain ⟨A', c', rfl, hsl⟩ := Sl.of_row1 hown
      have HSL := Lib.hid hsl
      have HNEW : Hid (∀ x, A' = some x → w.heap.size ≤ x.block) := fun x e => (World.ownsRow.lt hown x.block (by rw [e]; rfl)).1
      clear hr hown hbel hg hsl
      go_wp2
      rw [Exit.noGoto_ret]
      go_ret
      rw [HW.out]
      exact ⟨A', c', rfl, HSL.out, HNEW.out, Kept.of_below HB.out⟩

/-! ### Ready, Pick, Stuck -/
theorem sready_nil : Calls Try.prog 23 #[.pointer none] w (LPost w []) := by
  have HA := Lib.hid fun (w : World) => which_nil (w := w) 1 (-1)
  go_enter Try.func23, Try.ntmps23
  go_wp2_with (go_at_call 31; (with_reducible refine (HA.out _).mono ?_); rintro e w1 ⟨A, cc, rfl, h1, h2, h3⟩; have H1 := Lib.hid h1; have H2 := Lib.hid h2; have H3 := Lib.hid h3; clear h1 h2 h3)
  go_ret
  exact ⟨A, cc, rfl, H1.out, H2.out, H3.out⟩
theorem sready_any (h : Raw w d D c T) : Calls Try.prog 23 #[.pointer (some ⟨d, 0, none⟩)] w (LPost w T.ready) := by
  have HA := Lib.hid (which_any h 1 (-1))
  have HE : Hid (which T 1 (-1) = T.ready) := rfl
  rw [HE.out] at HA
  clear h HE
  generalize T.ready = R at *
  go_enter Try.func23, Try.ntmps23
  go_wp2_with (go_at_call 31; (with_reducible refine HA.out.mono ?_); rintro e w1 ⟨A, cc, rfl, h1, h2, h3⟩; have H1 := Lib.hid h1; have H2 := Lib.hid h2; have H3 := Lib.hid h3; clear h1 h2 h3)
  go_ret
  exact ⟨A, cc, rfl, H1.out, H2.out, H3.out⟩
/-- A number, and nothing that was there has turned. -/
def IPost (w : World) (z : Int) (e : Ending) (w' : World) : Prop := e = .returned (.int .i64 z) ∧ Grow w w'
theorem pick_nil (n : Int) : Calls Try.prog 21 #[.pointer none, .int .i64 n] w (IPost w (-1)) := by
  have HA := Lib.hid (sready_nil (w := w))
  go_enter Try.func21, Try.ntmps21
  go_wp2_with (go_at_call 23; (with_reducible refine HA.out.mono ?_); rintro e w1 ⟨A, cc, rfl, h1, h2, h3⟩; have H3 := Lib.hid h3; clear h1 h2 h3)
  go_ret
  exact ⟨rfl, H3.out⟩
theorem pick_any (h : Raw w d D c T) (n : Int) : Calls Try.prog 21 #[.pointer (some ⟨d, 0, none⟩), .int .i64 n] w (IPost w (T.pick n)) := by
  have HA := Lib.hid (sready_any h)
  have hsz := h.size
  have hl : T.ready.length ≤ 64 := by have := which_len T 1 (-1); unfold Sc.ready; omega
  by_cases hz : T.ready = []
  · have HE : Hid (T.pick n = -1) := if_pos hz
    rw [hz] at HA
    clear h hz hl
    go_enter Try.func21, Try.ntmps21
    go_wp2_with (go_at_call 23; (with_reducible refine HA.out.mono ?_); rintro e w1 ⟨A, cc, rfl, h1, h2, h3⟩; have H3 := Lib.hid h3; clear h1 h2 h3)
    go_ret
    rw [HE.out]
    exact ⟨rfl, H3.out⟩
  · have HE : Hid (T.pick n = ((T.ready.getD (n % (T.ready.length : Int)).toNat 0 : Nat) : Int)) := if_neg hz
    have hl1 : 1 ≤ T.ready.length := List.length_pos_iff.2 hz
    clear h hz
    generalize T.ready = R at *
    obtain ⟨L, hL⟩ : ∃ L, L = R.length := ⟨_, rfl⟩
    have HL := Lib.hid hL
    rw [← hL] at hl hl1 HE
    obtain ⟨m, q, hm, hm1, hm2, hq, hqL, ha, hb, _⟩ := mod_right n hl1
    rw [hq] at HE
    have HQ := Lib.hid hqL
    have HB := Lib.hid hb
    have HA2 := Lib.hid ha
    have hlz : (L : Int) ≤ 64 := by omega
    have hlz1 : 1 ≤ (L : Int) := by omega
    have hne : ((L : Int) == 0) = false := beq_eq_false_iff_ne.2 (by omega)
    clear hq hqL ha hb hL hl hl1
    go_enter Try.func21, Try.ntmps21
    go_upto_region 2 with (go_at_call 23; (with_reducible refine HA.out.mono ?_); rintro e w1 ⟨A, cc, rfl, h1, h2, h3⟩; have H1 := Lib.hid h1; have H3 := Lib.hid h3; clear h1 h2 h3)
    rw [← HL.out] at H1
    simp only [← HL.out]
    obtain ⟨b, o, rfl, _, hc⟩ := H1.out.at_ (by omega)
    have r0 := hc q HQ.out
    rw [ints_get] at r0
    have hqz : (q : Int) < (L : Int) := by have := HQ.out; omega
    clear hc
    generalize R.getD q 0 = z at *
    by_cases h0 : m < 0
    · have hs : m + (L : Int) = (q : Int) := HA2.out h0
      go_wp2
      go_ret
      rw [HE.out]
      exact ⟨rfl, H3.out⟩
    · have h0' : 0 ≤ m := by omega
      obtain rfl : m = (q : Int) := HB.out h0'
      clear h0
      go_wp2
      go_ret
      rw [HE.out]
      exact ⟨rfl, H3.out⟩
set_option maxHeartbeats 1000000 in
theorem stuck_any (h : SchAt w d D c T) : Calls Try.prog 25 #[.pointer (some ⟨d, 0, none⟩)] w fun e w' => e = .returned (.bool T.stuck) ∧ Grow w w' := by
  have HA := Lib.hid (all_any h.r)
  have H := Lib.hid h
  have hsz := h.r.size
  have hszi : (T.n : Int) ≤ 64 := by omega
  clear h
  go_enter Try.func25, Try.ntmps25
  go_wp2
  go_step3
  go_wp2
  go_step3
  go_wp2_with (go_at_call 33; (with_reducible refine HA.out.mono ?_); rintro e w' ⟨rfl, rfl⟩)
  go_loopg [3, 9] T.n (fun g v i wr => ∃ j : Nat, j + g = T.n ∧ i = .int .i64 (j : Int) ∧ v = .bool (some2 T j) ∧ (∀ k, k < j → T.S k ≠ 1) ∧ Grow w wr)
  case atStart => exact ⟨0, by omega, rfl, rfl, fun k hk => absurd hk (by omega), Kept.refl _ _⟩
  case round =>
    obtain ⟨j, hg, rfl, rfl, hno, hgr⟩ := hrel
    have HN := Lib.hid hno
    have HB := Lib.hid hgr
    have HG := Lib.hid hg
    have hr := H.out.grow hgr
    by_cases hj : j < T.n
    · have hjz : (j : Int) < (T.n : Int) := by omega
      have r0 := hr.r.sl.s hj
      have r1 := hr.r.sl.q hj
      have r2 := hr.r.sl.o hj
      have HS : Hid (T.S j = 1 → T.stuck = false) := fun e => stuck_ready H.out.ok hj e
      have H2 : Hid (some2 T (j + 1) = (some2 T j || decide (T.S j = 2))) := some2_succ T j
      have HN2 : Hid (T.S j ≠ 1 → ∀ k, k < j + 1 → T.S k ≠ 1) := fun e k hk => by
        by_cases ek : k = j
        · rw [ek]; exact e
        · exact HN.out k (by omega)
      clear hr hno hgr hg HN
      generalize T.S j = x at *
      generalize T.O j = y at *
      generalize T.P j = pc at *
      go_upto_region 5 with (fail)
      have hb := Blk.new wr 38 [.int .i64 x, .int .i64 pc, .int .i64 y]
      have q0 := hb.cell 0
      simp only [List.getElem?_cons_zero] at q0
      have HB1 := Lib.hid (HB.out.alloc (.cells #[.int .i64 x, .int .i64 pc, .int .i64 y] 38))
      clear hb r0 r1 r2 HB
      generalize wr.alloc (.cells #[.int .i64 x, .int .i64 pc, .int .i64 y] 38) = w1 at *
      generalize wr.heap.size = g at *
      by_cases h1 : x = 1
      · subst h1
        have HS1 := Lib.hid (HS.out rfl)
        clear HS HN2
        go_wp2
        first
          | (rw [Exit.noGoto_ret]; go_ret)
          | go_ret
        rw [HS1.out]
        exact ⟨rfl, HB1.out⟩
      · have h1' : (x == 1) = false := by rw [beq_eq_false_iff_ne]; exact h1
        have HN3 := Lib.hid (HN2.out h1)
        clear HS HN2 h1
        by_cases h2 : x = 2
        · subst h2
          go_wp2
          go_roundg (gk - 1)
          case measure => have := HG.out; omega
          case rel => exact ⟨j + 1, by have := HG.out; omega, by go_num, by rw [H2.out]; simp, HN3.out, HB1.out⟩
        · have h2' : (x == 2) = false := by rw [beq_eq_false_iff_ne]; exact h2
          have H2' : Hid (some2 T (j + 1) = some2 T j) := by show _ = _; rw [H2.out, decide_eq_false h2, Bool.or_false]
          clear H2 h2
          go_wp2
          go_roundg (gk - 1)
          case measure => have := HG.out; omega
          case rel => exact ⟨j + 1, by have := HG.out; omega, by go_num, by rw [H2'.out], HN3.out, HB1.out⟩
    · obtain rfl : j = T.n := by omega
      have HE := Lib.hid (stuck_none hno)
      clear hr hno hgr hg
      go_wp2
      rw [Exit.noGoto_ret]
      go_ret
      rw [HE.out]
      exact ⟨rfl, HB.out⟩
end
end Go.Proofs.Ytboglnaagigcmaa.SchD
