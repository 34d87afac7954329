/-
  The document's table, more: NewTable, Out; and that lavabolaw5.slots tells that two rows of slots are the same, when they are.
-/
import Derived.Test.YtnoofichbadkoaaTabRef
import Derived.RegionTactic
namespace Go.Proofs.Ytnoofichbadkoaa.TabS
open Go.ChangeShapes Go.WideShapes Go.ChangeAt Go.RowKit
open Go.Proofs.Ytnoofichbadkoaa.Mem Go.Proofs.Ytnoofichbadkoaa.Blk Go.Proofs.Ytnoofichbadkoaa.Cells Go.Proofs.Ytnoofichbadkoaa.TabM Go.Proofs.Ytnoofichbadkoaa.TabC Go.Proofs.Ytnoofichbadkoaa.TabD Go.Proofs.Ytnoofichbadkoaa.TabO Go.Proofs.Ytnoofichbadkoaa.TabRP Go.Proofs.Ytnoofichbadkoaa.TabR Go.Proofs.Ytnoofichbadkoaa.Stages

section
variable {w w' : World} {m D cap p : Nat} {T U : Tb} {key : Int} {F : Nat → Prop}
set_option maxHeartbeats 1000000 in
theorem rout_any (h : RefAt w m D cap T) (key : Int) :
    Calls Try.prog 18 #[.pointer (some ⟨m, 0, none⟩), .int .i64 key] w (RefPost m D cap w (T.get key) (T.out key)) := by
  have hsz := h.size
  have hszi : (T.n : Int) ≤ 1024 := by omega
  by_cases hk : key < 0
  · have HE : Hid (T.get key = -1) := by show _ = _; unfold Tb.get Tb.find; rw [if_pos hk]; rfl
    have HE2 : Hid (T.out key = T) := by show _ = _; unfold Tb.out Tb.find; rw [if_pos hk]; rfl
    have H := Lib.hid h
    clear h
    go_enter Try.func18, Try.ntmps18
    go_wp2
    go_ret
    rw [HE.out, HE2.out]
    exact ⟨rfl, H.out, Kept.refl _ _⟩
  have hk' : 0 ≤ key := by omega
  have HF := Lib.hid (rfind_any h hk')
  have hfd : T.find key = (T.search key).1 := if_neg hk
  rcases search_has (key := key) h.pos with e | ⟨j, hj, e, hK⟩
  · have HE : Hid (T.get key = -1) := by show _ = _; unfold Tb.get; rw [hfd, e]; rfl
    have HE2 : Hid (T.out key = T) := by show _ = _; unfold Tb.out; rw [hfd, e]; rfl
    have HF1 : Hid (Calls Try.prog 28 #[.pointer (some ⟨m, 0, none⟩), .int .i64 key] w fun e w' => ∃ y, e = .returned (.tuple #[.int .i64 (-1), .int .i64 y]) ∧ w = w') := HF.out.mono fun e' w' ⟨y, h1, _, h2⟩ => ⟨y, by rw [h1, e], h2⟩
    have H := Lib.hid h
    clear h e hfd HF hk
    go_enter Try.func18, Try.ntmps18
    go_wp2_with (go_at_call 28; (with_reducible refine HF1.out.mono ?_); rintro e w' ⟨y, rfl, rfl⟩)
    go_ret
    rw [HE.out, HE2.out]
    exact ⟨rfl, H.out, Kept.refl _ _⟩
  · have HE : Hid (T.get key = T.V j) := by show _ = _; unfold Tb.get; rw [hfd, e, if_neg (by simp), Int.toNat_natCast]
    have HE2 : Hid (T.out key = if (T.set j (-2) 0).cnt = 0 then fresh T.n else T.set j (-2) 0) := by show _ = _; unfold Tb.out; rw [hfd, e, if_neg (by simp), Int.toNat_natCast]
    have HF1 : Hid (Calls Try.prog 28 #[.pointer (some ⟨m, 0, none⟩), .int .i64 key] w fun e w' => ∃ y, e = .returned (.tuple #[.int .i64 (j : Int), .int .i64 y]) ∧ w = w') := HF.out.mono fun e' w' ⟨y, h1, _, h2⟩ => ⟨y, by rw [h1, e], h2⟩
    have H := Lib.hid h
    have c0 := h.c0
    have f1 := h.f1
    have k0 := h.sl.k hj
    have k1 := h.sl.v hj
    have hji : (j : Int) < (T.n : Int) := by omega
    clear h e hfd HF hk
    go_enter Try.func18, Try.ntmps18
    go_upto_region 8 with (go_at_call 28; (with_reducible refine HF1.out.mono ?_); rintro e w' ⟨y, rfl, rfl⟩)
    have H1 : Hid (RefAt ((w.setCell ⟨D, j * 2, none⟩ (.int .i64 (-2))).setCell ⟨D, j * 2 + 1, none⟩ (.int .i64 0)) m D cap (T.set j (-2) 0)) := H.out.set j (by omega) 0
    have HK1 : Hid (Kept (Own m D) w ((w.setCell ⟨D, j * 2, none⟩ (.int .i64 (-2))).setCell ⟨D, j * 2 + 1, none⟩ (.int .i64 0))) := ((Kept.refl _ w).setCell (fun _ => .inr rfl) _).setCell (fun _ => .inr rfl) _
    generalize (w.setCell ⟨D, j * 2, none⟩ (.int .i64 (-2))).setCell ⟨D, j * 2 + 1, none⟩ (.int .i64 0) = w1 at H1 HK1 ⊢
    clear c0 f1 k0 k1 H
    have CL := Lib.hid (rlen_any H1.out)
    by_cases hz : (T.set j (-2) 0).cnt = 0
    · rw [if_pos hz] at HE2
      rw [hz] at CL
      simp only [Int.natCast_zero, Int.cast_ofNat_Int] at CL
      clear hz
      generalize hTs : T.set j (-2) 0 = Ts at H1
      have hTn : Ts.n = T.n := by rw [← hTs]; rfl
      have HTN := Lib.hid hTn
      clear hTs hTn
      go_wp2_with (go_at_call 20; (with_reducible refine CL.out.mono ?_); rintro e w' ⟨rfl, rfl⟩)
      go_loopg [8] T.n (fun g i wr => ∃ q : Nat, q + g = T.n ∧ i = .int .i64 (q : Int) ∧ RefAt wr m D cap (wipe Ts q) ∧ Kept (Own m D) w wr)
      case atStart => exact ⟨0, by omega, rfl, H1.out, HK1.out⟩
      case round =>
        obtain ⟨q, hg, rfl, hr, hkk⟩ := hrel
        have HR := Lib.hid hr
        have HK := Lib.hid hkk
        have HG := Lib.hid hg
        have c0 : wr.cell? ⟨m, 0, none⟩ = some (.slice (some ⟨D, 0, none⟩) T.n cap) := by rw [← HTN.out]; exact hr.c0
        have f1 := hr.f1
        by_cases hq : q < T.n
        · have hq' : (q : Int) < (T.n : Int) := by omega
          have hqs : q < (wipe Ts q).n := by show q < Ts.n; have := HTN.out; omega
          have k0 := hr.sl.k (p := q) hqs
          have k1 := hr.sl.v (p := q) hqs
          clear hr hkk hg hqs
          go_wp2
          go_roundg (gk - 1)
          case measure => have := HG.out; omega
          case rel =>
            refine ⟨q + 1, by have := HG.out; omega, by go_num, ?_, (HK.out.setCell (fun _ => .inr rfl) _).setCell (fun _ => .inr rfl) _⟩
            rw [← wipe_step]
            exact HR.out.set q (by omega) 0
        · have hq' : (T.n : Int) ≤ (q : Int) := by omega
          clear hr hkk hg
          go_wp2
          go_ret
          rw [HE.out, HE2.out]
          refine ⟨rfl, HR.out.congr HTN.out (fun i hi => ?_) (fun i hi => ?_), HK.out⟩
          · exact if_pos (by have : i < Ts.n := hi; have := HTN.out; omega)
          · exact if_pos (by have : i < Ts.n := hi; have := HTN.out; omega)
    · rw [if_neg hz] at HE2
      have hzi : ((((T.set j (-2) 0).cnt : Nat) : Int) == 0) = false := beq_eq_false_iff_ne.2 (by omega)
      clear hz
      generalize (T.set j (-2) 0).cnt = L at CL hzi
      go_wp2_with (go_at_call 20; (with_reducible refine CL.out.mono ?_); rintro e w' ⟨rfl, rfl⟩)
      go_ret
      rw [HE.out, HE2.out]
      exact ⟨rfl, H1.out, HK1.out⟩

/-! ### NewTable -/
theorem rnew_bad (k : Int) (hk : ¬ (1 ≤ k ∧ k ≤ 1024)) : Calls Try.prog 15 #[.int .i64 k] w fun e w' => e = .returned (.pointer none) ∧ w = w' := by
  by_cases h0 : k < 1
  · clear hk
    go_enter Try.func15, Try.ntmps15
    go_wp2
    go_ret
    exact ⟨rfl, rfl⟩
  · have h1 : 1024 < k := by omega
    have h0' : 1 ≤ k := by omega
    clear hk h0
    go_enter Try.func15, Try.ntmps15
    go_wp2
    go_ret
    exact ⟨rfl, rfl⟩
theorem cells_succ (j : Nat) : cellsOf (fresh (j + 1)) = cellsOf (fresh j) ++ [.int .i64 (-1), .int .i64 0] := by
  unfold cellsOf
  show (List.range ((j + 1) * 2)).map (scell (fresh (j + 1))) = (List.range (j * 2)).map (scell (fresh j)) ++ _
  rw [show (j + 1) * 2 = j * 2 + 1 + 1 by omega, List.range_succ, List.range_succ, List.map_append, List.map_append, List.append_assoc]
  congr 1
  have e0 : scell (fresh (j + 1)) (j * 2) = .int .i64 (-1) := scell0 _ j
  have e1 : scell (fresh (j + 1)) (j * 2 + 1) = .int .i64 0 := scell1 _ j
  simp only [List.map_cons, List.map_nil, e0, e1]
  rfl
theorem own_other {base n : Nat} {e : TypeId} {v u : Value} {xs : List Value} {a : Addr} (h : w.ownsRow base e 2 v n xs) (ha : ∀ k, v.ownBlock = some k → k ≠ a.block) : (w.setCell a u).ownsRow base e 2 v n xs := by
  refine ⟨h.1, ?_⟩
  rcases h.2 with h0 | ⟨g, cap', cur, rfl, hb, hg, h1, h2, h3, h4⟩
  · exact .inl h0
  · exact .inr ⟨g, cap', cur, rfl, hb, by rw [heap_setCell_other w a g u (ha g rfl)]; exact hg, h1, h2, h3, h4⟩
/-- What NewTable makes. -/
def RNewPost (n : Nat) (w : World) (e : Ending) (w' : World) : Prop :=
  ∃ m D cap, e = .returned (.pointer (some ⟨m, 0, none⟩)) ∧ RefAt w' m D cap (fresh n) ∧ w.heap.size ≤ m ∧ w.heap.size ≤ D ∧ Grow w w'
set_option maxHeartbeats 1000000 in
theorem rnew_good (n : Nat) (h1 : 1 ≤ n) (hn : n ≤ 1024) : Calls Try.prog 15 #[.int .i64 (n : Int)] w (RNewPost n w) := by
  have hn' : (n : Int) ≤ 1024 := by omega
  have h1' : 1 ≤ (n : Int) := by omega
  go_enter Try.func15, Try.ntmps15
  go_upto_region 4 with (fail)
  have HB0 : Hid (Row (w.alloc (.cells #[.slice none 0 0] 41)) w.heap.size 1 (fun _ => .slice none 0 0)) := Row.of_blk (Blk.new w _ [.slice none 0 0]) rfl (fun i hi => by
    obtain rfl : i = 0 := by omega
    rfl)
  have HG0 : Hid (Grow w (w.alloc (.cells #[.slice none 0 0] 41))) := (Kept.refl _ _).alloc _
  have HSZ0 : Hid ((w.alloc (.cells #[.slice none 0 0] 41)).heap.size = w.heap.size + 1) := by show _ = _; simp
  generalize w.alloc (.cells #[.slice none 0 0] 41) = w1 at HB0 HG0 HSZ0 ⊢
  have HME : Hid (w.heap.size ≤ w.heap.size) := Nat.le_refl _
  generalize hm : w.heap.size = m at HB0 HSZ0 ⊢
  have HM := Lib.hid hm
  clear hm HME
  obtain ⟨i, hi, hz, hsz, hby⟩ := info_parts infoS
  have HI := Lib.hid hi
  have HZ := Lib.hid hz
  have HSZ := Lib.hid hsz
  have HBY := Lib.hid hby
  clear hi hz hsz hby
  go_wp2
  go_loopg [4] n (fun g ix wr => ∃ (j : Nat) (v : Value), j + g = n ∧ ix = .int .i64 (j : Int) ∧ Row wr m 1 (fun _ => v) ∧ wr.ownsRow (m + 1) 29 2 v j (cellsOf (fresh j)) ∧ Kept (· = m) w1 wr)
  case atStart => exact ⟨0, _, by omega, rfl, HB0.out, World.ownsRow_nil _ _ _ _, Kept.refl _ _⟩
  case round =>
    obtain ⟨j, v, hg, rfl, hr, ho, hk⟩ := hrel
    have HG := Lib.hid hg
    have HR := Lib.hid hr
    have HO := Lib.hid ho
    have HK := Lib.hid hk
    have hbs : m + 1 ≤ wr.heap.size := by have := HK.out.size; have := HSZ0.out; omega
    have c0 : wr.cell? ⟨m, 0, none⟩ = some v := hr.cell (i := 0) (by omega)
    clear hg hr ho hk
    by_cases hj : j < n
    · have hji : (j : Int) < (n : Int) := by omega
      have HCE := Lib.hid (Blk.new wr 29 [.int .i64 (-1), .int .i64 0])
      go_wp2_with (at_builtin; refine wpList_append_lies _ rfl (.tmp 22) (.tmp 24) 26 rfl (m + 1) 29 i _ 2 16 Try.underlying26 HI.out HZ.out HSZ.out HBY.out rfl (by decide) _ j _ rfl (World.ownsRow.alloc HO.out _) ⟨wr.heap.size, 0, none⟩ 1 1 [.int .i64 (-1), .int .i64 0] rfl rfl (fun q u hq => ?_) (by intro u hu; simp at hu; rcases hu with rfl | rfl <;> rfl) (by omega) (by unfold maxLen; omega) (by omega) (by simp; omega) _ rfl ?_)
      · rw [show (⟨wr.heap.size, 0, none⟩ : Addr).add q = ⟨wr.heap.size, q, none⟩ by unfold Addr.add; split <;> simp_all, ← hq]
        exact HCE.out.cell q
      · intro g cap' w2 ho hgb _ _
        rw [← cells_succ] at ho
        have HO2 := Lib.hid ho
        have HK2 : Hid (Kept (· = m) w1 w2) := (HK.out.alloc _).grown hgb (fun k hrow hlt => by have := (HO.out.lt k hrow).1; have := HSZ0.out; omega)
        have HR2 : Hid (Row w2 m 1 (fun _ => v)) := Row.of_block (HR.out.kept (F := fun _ => False) ((Kept.refl _ _).alloc (.cells #[.int .i64 (-1), .int .i64 0] 29)) id) (hgb.block m (by simp; omega) (fun e => by have := (HO.out.lt m e.symm).1; omega))
        have c2 : w2.cell? ⟨m, 0, none⟩ = some v := HR2.out.cell (i := 0) (by omega)
        have f2 := HR2.out.frozen 0
        have HJ := Lib.hid hj
        clear ho hgb c0 hj hbs HCE
        go_wp2
        go_roundg (n - (j + 1))
        case measure => have := HG.out; have := HJ.out; omega
        case rel =>
          refine ⟨j + 1, _, by have := HG.out; have := HJ.out; omega, by go_num, (HR2.out.set 0 _).congr fun i hi => ?_, own_other HO2.out ?_, HK2.out.setCell (fun _ => rfl) _⟩
          · obtain rfl : i = 0 := by omega
            rfl
          · intro k hkk
            have := (HO2.out.lt k hkk).1
            show k ≠ m
            omega
    · obtain rfl : j = n := by have := HG.out; omega
      clear hj
      obtain ⟨g, cap', rfl, hgm, _⟩ := HO.out.form (by omega)
      obtain ⟨x1, x2, x3, _⟩ := slots_of_own (T := fresh j) h1 HO.out
      have HX1 := Lib.hid x1
      have HX2 := Lib.hid x2
      have HX3 := Lib.hid x3
      clear x1 x2 x3 hgm
      go_wp2
      go_ret
      refine ⟨m, g, cap', rfl, ⟨HR.out, HX1.out, by have := HX2.out; omega, h1, hn, HX3.out, lo_fresh _⟩, by have := HM.out; omega, by have := HM.out; have := HX2.out; omega, HG0.out.then HK.out fun k hk e => by have := HM.out; omega⟩

/-! ### slots -/
set_option maxHeartbeats 1000000 in
theorem slots_true {g c D cap : Nat} (hn : T.n ≤ 1024) (h : Slots w g T) (h' : Slots w D T) :
    Calls Try.prog 21 #[.slice (some ⟨g, 0, none⟩) T.n c, .slice (some ⟨D, 0, none⟩) T.n cap] w fun e w' => e = .returned (.bool true) ∧ Grow w w' := by
  have H := Lib.hid h
  have H' := Lib.hid h'
  have hnz : (T.n : Int) ≤ 1024 := by omega
  clear h h'
  go_enter Try.func21, Try.ntmps21
  go_wp2
  go_loopg [5] T.n (fun gx i wr => ∃ j : Nat, j + gx = T.n ∧ i = .int .i64 (j : Int) ∧ Grow w wr)
  case atStart => exact ⟨0, by omega, rfl, Kept.refl _ _⟩
  case round =>
    obtain ⟨j, hg, rfl, hgr⟩ := hrel
    have HG := Lib.hid hg
    have HGR := Lib.hid hgr
    clear hg hgr
    by_cases hj : j < T.n
    · have hjz : (j : Int) < (T.n : Int) := by omega
      have r1 := H.out.k hj
      have r2 := H.out.v hj
      have r3 := H'.out.k hj
      have r4 := H'.out.v hj
      generalize T.K j = k at *
      generalize T.V j = v at *
      have HJ := Lib.hid hj
      clear hj
      generalize T.n = n at *
      have r1' := HGR.out.cellN r1 id
      have r2' := HGR.out.cellN r2 id
      have r3' := HGR.out.cellN r3 id
      have r4' := HGR.out.cellN r4 id
      have q1 := up_cell (F := fun _ => False) (w := wr.drew) r1' id
      have q2 := up_cell (F := fun _ => False) (w := wr.drew) r2' id
      have q3 := up_cell (F := fun _ => False) (w := wr.drew) r3' id
      have q4 := up_cell (F := fun _ => False) (w := wr.drew) r4' id
      clear r1 r2 r3 r4 r1' r2' r3' r4'
      go_upto_region 6 with (fail)
      refine wp_region_stages Grow (kept_refl _) (kept_trans _) [] [0, 1, 2, 3, 4, 5, 6, 7, 8] (by kernel_rfl) (by kernel_rfl) ?_
      simp only [selSt, sel, List.map_cons, List.map_nil, List.getD_cons_succ, List.getD_cons_zero]
      refine st_nil fun K2 hK2 => ?_
      repeat (go_big_quiet_step (fail))
      refine wpQuiet_nil (hK2 _ ?_)
      clear hK2 K2 q1 q2 q3 q4
      go_wp2
      go_roundg (n - (j + 1))
      case measure => have := HG.out; have := HJ.out; omega
      case rel => exact ⟨j + 1, by have := HG.out; have := HJ.out; omega, by go_num, HGR.out.drew⟩
    · have hjN : j = T.n := by have := HG.out; omega
      subst hjN
      go_wp2
      go_ret
      exact ⟨rfl, HGR.out⟩
end
end Go.Proofs.Ytnoofichbadkoaa.TabS
