/-
  The document's schedule, more: Ready, Free, Mod, Pick, Stuck, NewSched.
-/
import Derived.Test.YtboglnaagigcmaaSchRef
import Derived.RegionTactic
namespace Go.Proofs.Ytboglnaagigcmaa.SchS
open Go.ChangeShapes Go.WideShapes Go.ChangeAt Go.RowKit
open Go.Proofs.Ytboglnaagigcmaa.Mem Go.Proofs.Ytboglnaagigcmaa.Blk Go.Proofs.Ytboglnaagigcmaa.Cells Go.Proofs.Ytboglnaagigcmaa.SchM Go.Proofs.Ytboglnaagigcmaa.SchC Go.Proofs.Ytboglnaagigcmaa.SchD Go.Proofs.Ytboglnaagigcmaa.SchE Go.Proofs.Ytboglnaagigcmaa.SchR Go.Proofs.Ytboglnaagigcmaa.Stages

section
variable {w w' : World} {d D c p : Nat} {T U : Sc} {F : Nat → Prop}
theorem own_kept {base size n : Nat} {e : TypeId} {v : Value} {xs : List Value} (h : w.ownsRow base e size v n xs) (hk : Kept F w w') (hF : ∀ k, F k → k < base) : w'.ownsRow base e size v n xs := by
  refine ⟨h.1, ?_⟩
  rcases h.2 with h0 | ⟨g, cap', cur, rfl, hb, hg, h1, h2, h3, h4⟩
  · exact .inl h0
  · exact .inr ⟨g, cap', cur, rfl, hb, by rw [hk.block g (h.lt g rfl).2 (fun x => by have := hF g x; omega)]; exact hg, h1, h2, h3, h4⟩
set_option maxHeartbeats 1000000 in
theorem rready_any (h : SchAt w d D c T) : Calls Try.prog 24 #[.pointer (some ⟨d, 0, none⟩)] w (LPost w T.ready) := by
  have H := Lib.hid h
  have hsz := h.r.size
  have hszi : (T.n : Int) ≤ 64 := by omega
  have HW : Hid (T.ready = upto T 1 (-1) T.n) := rfl
  generalize T.ready = R at *
  clear h
  go_enter Try.func24, Try.ntmps24
  go_wp2
  go_loopg [3, 4] T.n (fun g v i wr => ∃ j : Nat, j + g = T.n ∧ i = .int .i64 (j : Int) ∧ wr.ownsRow w.heap.size 3 1 v (upto T 1 (-1) j).length ((ints (upto T 1 (-1) j)).map (Value.int .i64)) ∧ Below w.heap.size w wr)
  case atStart => exact ⟨0, by omega, rfl, World.ownsRow_nil _ _ _ _, Below.refl _ _⟩
  case round =>
    obtain ⟨j, hg, rfl, hown, hbel⟩ := hrel
    have HO := Lib.hid hown
    have HB := Lib.hid hbel
    have HG := Lib.hid hg
    have hr := H.out.grow (Kept.of_below hbel)
    have c0 := hr.r.c0
    by_cases hj : j < T.n
    · have hjz : (j : Int) < (T.n : Int) := by omega
      have r0 := hr.r.sl.s hj
      have HX : Hid (∀ x : Int, T.S j = x → (x = 1 → upto T 1 (-1) (j + 1) = upto T 1 (-1) j ++ [j]) ∧ (x ≠ 1 → upto T 1 (-1) (j + 1) = upto T 1 (-1) j)) := fun x ex => ⟨fun a => upto_in (ex.trans a) (H.out.ok.f j hj (by omega)), fun a => upto_out (.inl (by rw [ex]; exact a))⟩
      have HL : Hid ((upto T 1 (-1) j).length ≤ 64) := by have := upto_len T 1 (-1) j; show _ ≤ _; omega
      have HX' := Lib.hid (HX.out _ rfl)
      have hbs : w.heap.size ≤ wr.heap.size := hbel.size
      clear hr hown hbel hg HX
      generalize T.S j = x at *
      by_cases hx : x = 1
      · have HE := Lib.hid (HX'.out.1 hx)
        subst hx
        have HLZ := HL.out
        clear HX'
        generalize upto T 1 (-1) j = l at *
        go_wp2_with (at_builtin; refine wpList_append_one rfl (.tmp 23) (.tmp 25) 33 rfl w.heap.size 3 (.int .i64 0) 8 Try.underlying33 infoI rfl _ l.length _ rfl (World.ownsRow.alloc HO.out _) wr.heap.size (.int .i64 (j : Int)) rfl (cell_new1 _ _ _) rfl (by unfold maxLen; omega) (by omega) (by simp; omega) ?_; intro g cap w2 hown hbel; have HOW := Lib.hid hown; have HBW := Lib.hid hbel; clear hown hbel)
        go_roundg (gk - 1)
        case measure => have := HG.out; omega
        case rel =>
          refine ⟨j + 1, by have := HG.out; omega, by go_num, ?_, (HB.out.alloc hbs _).trans HBW.out⟩
          rw [HE.out, ints_snoc, List.map_append, List.length_append]
          exact HOW.out
      · have HE := Lib.hid (HX'.out.2 hx)
        have hx' : (x == 1) = false := beq_eq_false_iff_ne.2 hx
        clear HX' hx
        go_wp2
        go_roundg (gk - 1)
        case measure => have := HG.out; omega
        case rel => exact ⟨j + 1, by have := HG.out; omega, by go_num, by rw [HE.out]; exact HO.out, HB.out⟩
    · obtain rfl : j = T.n := by omega
      obtain ⟨A', c', rfl, hsl⟩ := Sl.of_row1 hown
      have HSL := Lib.hid hsl
      have HNEW : Hid (∀ x, A' = some x → w.heap.size ≤ x.block) := fun x e => (World.ownsRow.lt hown x.block (by rw [e]; rfl)).1
      clear hr hown hbel hg hsl
      go_wp2
      go_ret
      rw [HW.out]
      exact ⟨A', c', rfl, HSL.out, HNEW.out, Kept.of_below HB.out⟩

/-! ### Mod, Pick, Stuck -/
theorem rmod_any (n : Int) {L : Nat} (h : 1 ≤ L) (hL : L ≤ 64) : Calls Try.prog 32 #[.int .i64 n, .int .i64 (L : Int)] w fun e w' => e = .returned (.int .i64 (((n % (L : Int)).toNat : Nat) : Int)) ∧ w = w' := by
  obtain ⟨m, q, hm, hm1, hm2, hq, hqL, ha, hb, hc⟩ := mod_right n h
  have HQ := Lib.hid hq
  have hlz : (L : Int) ≤ 64 := by omega
  have hlz1 : 1 ≤ (L : Int) := by omega
  have hne : ((L : Int) == 0) = false := beq_eq_false_iff_ne.2 (by omega)
  clear hq hqL ha hb h hL
  go_enter Try.func32, Try.ntmps32
  go_wp2
  go_ret
  exact ⟨by rw [HQ.out]; rfl, rfl⟩
theorem rpick_any (h : SchAt w d D c T) (n : Int) : Calls Try.prog 22 #[.pointer (some ⟨d, 0, none⟩), .int .i64 n] w (IPost w (T.pick n)) := by
  have HA := Lib.hid (rready_any h)
  have hsz := h.r.size
  have hl : T.ready.length ≤ 64 := by have := which_len T 1 (-1); unfold Sc.ready; omega
  by_cases hz : T.ready = []
  · have HE : Hid (T.pick n = -1) := if_pos hz
    rw [hz] at HA
    clear h hz hl
    go_enter Try.func22, Try.ntmps22
    go_wp2_with (go_at_call 24; (with_reducible refine HA.out.mono ?_); rintro e w1 ⟨A, cc, rfl, h1, h2, h3⟩; have H3 := Lib.hid h3; clear h1 h2 h3)
    go_ret
    rw [HE.out]
    exact ⟨rfl, H3.out⟩
  · have HE : Hid (T.pick n = ((T.ready.getD (n % (T.ready.length : Int)).toNat 0 : Nat) : Int)) := if_neg hz
    have hl1 : 1 ≤ T.ready.length := List.length_pos_iff.2 hz
    have HM := Lib.hid fun (wx : World) => rmod_any (w := wx) n hl1 hl
    have HMQ : Hid ((n % (T.ready.length : Int)).toNat < T.ready.length) := by
      have e0 := Int.emod_nonneg n (show (T.ready.length : Int) ≠ 0 by omega)
      have e1 := Int.emod_lt_of_pos n (show (0 : Int) < (T.ready.length : Int) by omega)
      show _ < _
      omega
    clear h hz
    generalize T.ready = R at *
    generalize (n % (R.length : Int)).toNat = q at *
    have hlz : (R.length : Int) ≤ 64 := by omega
    have hlz1 : 1 ≤ (R.length : Int) := by omega
    have hne : ((R.length : Int) == 0) = false := beq_eq_false_iff_ne.2 (by omega)
    have HL1 := Lib.hid hl1
    clear hl hl1
    go_enter Try.func22, Try.ntmps22
    go_upto_region 2 with (go_at_call 24; (with_reducible refine HA.out.mono ?_); rintro e w1 ⟨A, cc, rfl, h1, h2, h3⟩; have H1 := Lib.hid h1; have H3 := Lib.hid h3; clear h1 h2 h3)
    obtain ⟨b, o, rfl, _, hc⟩ := H1.out.at_ (by have := HL1.out; omega)
    have r0 := hc q HMQ.out
    rw [ints_get] at r0
    have hqz : (q : Int) < (R.length : Int) := by have := HMQ.out; omega
    clear hc
    generalize R.getD q 0 = z at *
    go_wp2_with (go_at_call 32; (with_reducible refine (HM.out _).mono ?_); rintro e w' ⟨rfl, rfl⟩)
    go_ret
    rw [HE.out]
    exact ⟨rfl, H3.out⟩
set_option maxHeartbeats 1000000 in
theorem rstuck_any (h : SchAt w d D c T) : Calls Try.prog 26 #[.pointer (some ⟨d, 0, none⟩)] w fun e w' => e = .returned (.bool T.stuck) ∧ Grow w w' := by
  have H := Lib.hid h
  have hsz := h.r.size
  have hszi : (T.n : Int) ≤ 64 := by omega
  have HR := Lib.hid (rready_any h)
  have HE := Lib.hid (stuck_len T)
  generalize T.stuck = st at *
  generalize T.ready = R at *
  have c0 := h.r.c0
  clear h
  go_enter Try.func26, Try.ntmps26
  go_wp2
  go_loopg [3, 4] T.n (fun g v i wr => ∃ j : Nat, j + g = T.n ∧ i = .int .i64 (j : Int) ∧ v = .bool (some2 T j) ∧ w = wr)
  case atStart => exact ⟨0, by omega, rfl, rfl, rfl⟩
  case round =>
    obtain ⟨j, hg, rfl, rfl, rfl⟩ := hrel
    have HG := Lib.hid hg
    clear hg
    by_cases hj : j < T.n
    · have hjz : (j : Int) < (T.n : Int) := by omega
      have r0 := H.out.r.sl.s hj
      have H2 : Hid (some2 T (j + 1) = (some2 T j || decide (T.S j = 2))) := some2_succ T j
      generalize T.S j = x at *
      cases hb : some2 T j with
      | true =>
        rw [hb] at H2
        clear hb
        go_wp2
        go_roundg (gk - 1)
        case measure => have := HG.out; omega
        case rel => exact ⟨j + 1, by have := HG.out; omega, by go_num, by rw [H2.out]; rfl, rfl⟩
      | false =>
        rw [hb] at H2
        clear hb
        by_cases h2 : x = 2
        · subst h2
          go_wp2
          go_roundg (gk - 1)
          case measure => have := HG.out; omega
          case rel => exact ⟨j + 1, by have := HG.out; omega, by go_num, by rw [H2.out]; rfl, rfl⟩
        · have h2' : (x == 2) = false := by rw [beq_eq_false_iff_ne]; exact h2
          rw [decide_eq_false h2] at H2
          clear h2
          go_wp2
          go_roundg (gk - 1)
          case measure => have := HG.out; omega
          case rel => exact ⟨j + 1, by have := HG.out; omega, by go_num, by rw [H2.out]; rfl, rfl⟩
    · obtain rfl : j = T.n := by have := HG.out; omega
      cases hb : some2 T T.n with
      | false =>
        rw [hb] at HE
        clear hb
        go_wp2
        go_ret
        rw [HE.out]
        exact ⟨rfl, Kept.refl _ _⟩
      | true =>
        rw [hb] at HE
        clear hb
        by_cases hz : R.length = 0
        · rw [decide_eq_true hz] at HE
          unfold LPost at HR
          rw [hz] at HR
          clear hz
          go_wp2_with (go_at_call 24; (with_reducible refine HR.out.mono ?_); rintro e w1 ⟨A, cc, rfl, h1, h2, h3⟩; have H3 := Lib.hid h3; clear h1 h2 h3)
          go_ret
          rw [HE.out]
          exact ⟨rfl, H3.out⟩
        · rw [decide_eq_false hz] at HE
          have hz' : ((R.length : Int) == 0) = false := beq_eq_false_iff_ne.2 (by omega)
          clear hz
          go_wp2_with (go_at_call 24; (with_reducible refine HR.out.mono ?_); rintro e w1 ⟨A, cc, rfl, h1, h2, h3⟩; have H3 := Lib.hid h3; clear h1 h2 h3)
          go_ret
          rw [HE.out]
          exact ⟨rfl, H3.out⟩
end
end Go.Proofs.Ytboglnaagigcmaa.SchS
