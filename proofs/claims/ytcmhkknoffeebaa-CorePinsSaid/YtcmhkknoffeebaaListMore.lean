/-
  What the functions of package list compute (chapter 4): Last, Next, Has, Out, All, New.
-/
import Derived.Test.YtcmhkknoffeebaaListCalls
import Derived.RegionTactic
import Derived.Deep.CutRange
namespace Go.Proofs.Ytcmhkknoffeebaa.ListD
open Go.ChangeShapes Go.WideShapes Go.ChangeAt Go.RowKit
open Go.Proofs.Ytcmhkknoffeebaa.Mem Go.Proofs.Ytcmhkknoffeebaa.Blk Go.Proofs.Ytcmhkknoffeebaa.ListM Go.Proofs.Ytcmhkknoffeebaa.Rowed Go.Proofs.Ytcmhkknoffeebaa.ListC Go.Proofs.Ytcmhkknoffeebaa.Stages

section
variable {w : World} {d D n : Nat} {c : Int} {A B : Nat → Nat} {I : Nat → Bool} {zs : List Nat}

theorem nxtI_bad {k : Int} (hr : Ring n A B I zs) (hk : ¬ (0 ≤ k ∧ k < (n : Int))) : nxtI zs k = -1 := by
  unfold nxtI
  by_cases h0 : 0 ≤ k
  · rw [if_pos h0]
    have : k.toNat ∉ zs := fun hm => hk ⟨h0, by have := hr.lt _ hm; omega⟩
    unfold nxt
    rw [List.idxOf_eq_length this, if_neg (by omega)]
  · rw [if_neg h0]
theorem okO_bad {k : Int} (hr : Ring n A B I zs) (hk : ¬ (0 ≤ k ∧ k < (n : Int))) : okO zs k = false := by
  unfold okO
  by_cases h0 : 0 ≤ k
  · have : k.toNat ∉ zs := fun hm => hk ⟨h0, by have := hr.lt _ hm; omega⟩
    simp [this]
  · simp [h0]
theorem has_any (h : ListAt w d D n zs) (k : Int) : Calls Try.prog 45 #[.pointer (some ⟨d, 0, none⟩), .int .i64 k] w fun e w' => e = .returned (.bool (okO zs k)) ∧ w = w' := by
  obtain ⟨A, B, I, hl, hr⟩ := h.lnk
  have hsz := h.size
  by_cases hkn : 0 ≤ k ∧ k < (n : Int)
  · obtain ⟨K, rfl⟩ := Int.eq_ofNat_of_zero_le hkn.1
    have hKn : K < n := by omega
    have hk' : (K : Int) < (n : Int) := by omega
    have c0 := hl.c0
    have b0 := hl.i (p := K + 1) (by omega)
    have HC := Lib.hid (knows_good hl hsz K hKn)
    have HE : Hid (okO zs (K : Int) = I (K + 1)) := by
      show _ = _
      unfold okO
      rw [hr.inn K hKn, Int.toNat_natCast, decide_eq_true hkn.1]; rfl
    clear h hl hr hkn
    go_enter Try.func45, Try.ntmps45
    go_wp2_with (go_at_call 55; (with_reducible refine HC.out.mono ?_); rintro e w' ⟨rfl, rfl⟩)
    go_ret
    exact ⟨by rw [HE.out]; rfl, rfl⟩
  · have HC := Lib.hid (knows_bad hl hsz k hkn)
    have HE := Lib.hid (okO_bad hr hkn)
    clear h hl hr hkn
    go_enter Try.func45, Try.ntmps45
    go_wp2_with (go_at_call 55; (with_reducible refine HC.out.mono ?_); rintro e w' ⟨rfl, rfl⟩)
    go_ret
    exact ⟨by rw [HE.out]; rfl, rfl⟩

/-- What New makes. -/
def NewPost (n : Nat) (w : World) (e : Ending) (w' : World) : Prop :=
  ∃ d D, e = .returned (.pointer (some ⟨d, 0, none⟩)) ∧ ListAt w' d D n [] ∧ w.heap.size ≤ d ∧ w.heap.size ≤ D ∧ Grow w w'
theorem new_bad (k : Int) (hk : ¬ (0 ≤ k ∧ k ≤ 1024)) : Calls Try.prog 18 #[.int .i64 k] w fun e w' => e = .returned (.pointer none) ∧ w = w' := by
  by_cases h0 : k < 0
  · clear hk
    go_enter Try.func18, Try.ntmps18
    go_wp2
    go_ret
    exact ⟨rfl, rfl⟩
  · have h1 : 1024 < k := by omega
    clear hk
    go_enter Try.func18, Try.ntmps18
    go_wp2
    go_ret
    exact ⟨rfl, rfl⟩
theorem made3 (w : World) (n : Nat) (hn : n ≤ 1024) : (Instr.makeSlice 61 (.int .i64 ((n : Int) + 1)) (.int .i64 ((n : Int) + 1))).run Try.prog w = .ok (.slice (some ⟨w.heap.size, 0, none⟩) (n + 1) (n + 1)) (w.alloc (.cells (madeCells #[.int .i64 0, .int .i64 0, .bool false] ((n + 1) * 3)) 77)) := by
  obtain ⟨i, hi, hz, hs, hb⟩ := info_parts (show (Try.prog.info? 77).map (fun i => (i.zero, i.size, i.bytes)) = some (some (.agg #[.int .i64 0, .int .i64 0, .bool false]), 3, 24) from by kernel_rfl)
  have := run_make (P := Try.prog) w 61 77 i _ Try.underlying61 hi hz .i64 .i64 ((n : Int) + 1) ((n : Int) + 1) (by omega) (Int.le_refl _) (by rw [hb]; omega) (by omega)
  rw [hs, show ((n : Int) + 1).toNat = n + 1 by omega] at this
  exact this
theorem new_good (n : Nat) (hn : n ≤ 1024) : Calls Try.prog 18 #[.int .i64 (n : Int)] w (NewPost n w) := by
  have hn' : (n : Int) ≤ 1024 := by omega
  have km := fun (w : World) => made3 w n hn
  go_enter Try.func18, Try.ntmps18
  go_wp2
  go_ret
  clear km
  have hb := Blk.new (w.alloc (.cells (madeCells #[.int .i64 0, .int .i64 0, .bool false] ((n + 1) * 3)) 77)) 63 [.slice (some ⟨w.heap.size, 0, none⟩) (n + 1) (n + 1), .int .i64 0]
  have e1 : (w.alloc (.cells (madeCells #[.int .i64 0, .int .i64 0, .bool false] ((n + 1) * 3)) 77)).heap.size = w.heap.size + 1 := by simp
  rw [e1] at hb
  have hr : Row (w.alloc (.cells (madeCells #[.int .i64 0, .int .i64 0, .bool false] ((n + 1) * 3)) 77)) w.heap.size ((n + 1) * 3) (lcell (fun _ => 0) (fun _ => 0) (fun _ => false)) :=
    ⟨_, _, heap_alloc_new w _, by simp [size_madeCells], fun i hi => by
      simp only [madeCells, Array.getElem?_map, Array.getElem?_range, hi, if_pos, Option.map_some]
      congr 1
      unfold lcell
      have : i % 3 = 0 ∨ i % 3 = 1 ∨ i % 3 = 2 := by omega
      rcases this with e | e | e <;> simp [e]⟩
  refine ⟨_, _, rfl, ⟨⟨_, _, _, ⟨Row.of_blk hb rfl (fun i hi => ?_), hr.kept (F := fun _ => False) ((Kept.refl _ _).alloc _) id, by omega⟩, Ring.zero n⟩, hn⟩, by omega, by omega, ((Kept.refl _ _).alloc _).alloc _⟩
  have : i = 0 ∨ i = 1 := by omega
  rcases this with rfl | rfl <;> rfl

theorem out_good (h : ListAt w d D n zs) (k : Nat) (hz : k ∈ zs) :
    Calls Try.prog 34 #[.pointer (some ⟨d, 0, none⟩), .int .i64 (k : Int)] w fun e w' => e = .returned (.bool true) ∧ ListAt w' d D n (zs.erase k) ∧ Kept (Own d D) w w' := by
  obtain ⟨A, B, I, hl, hr⟩ := h.lnk
  have hsz := h.size
  have hk := hr.lt k hz
  have hk' : (k : Int) < (n : Int) := by omega
  have hlen := hr.len
  have hpos : 0 < zs.length := List.length_pos_of_mem hz
  have c0 := hl.c0
  have a0 := hl.a (p := k + 1) (by omega)
  have b0 := hl.b (p := k + 1) (by omega)
  have i0 := hl.i (p := k + 1) (by omega)
  have HC := Lib.hid (has_any h k)
  have HE : Hid (okO zs (k : Int) = true) := by
    show _ = _
    unfold okO
    simp [hz]
  rw [HE.out] at HC
  have HA := Lib.hid (hr.prevLe (k + 1) (by omega))
  have HB := Lib.hid (hr.nextLe (k + 1) (by omega))
  have HR := Lib.hid (hr.del hz)
  have HLN : Hid ((zs.erase k).length = zs.length - 1) := by show _ = _; rw [List.length_erase, if_pos hz]
  have H := Lib.hid hl
  clear h hl hr
  generalize A (k + 1) = a at *
  generalize B (k + 1) = b at *
  go_enter Try.func34, Try.ntmps34
  go_upto_region 4 with (go_at_call 45; (with_reducible refine HC.out.mono ?_); rintro e w' ⟨rfl, rfl⟩)
  have HGA : Hid (Grow w (w.alloc (.cells #[.int .i64 (a : Int), .int .i64 (b : Int), .bool (I (k + 1))] 77))) := (Kept.refl _ w).alloc _
  have HBA := Lib.hid (Blk.new w 77 [.int .i64 (a : Int), .int .i64 (b : Int), .bool (I (k + 1))])
  have HNG : Hid (¬ Own d D w.heap.size) := fun x => by
    have := H.out.lt
    rcases x with x | x <;> omega
  have H1 := Lib.hid (H.out.kept HGA.out (fun _ x => x.elim))
  have HK1 : Hid (Kept (Own d D) w (w.alloc (.cells #[.int .i64 (a : Int), .int .i64 (b : Int), .bool (I (k + 1))] 77))) := HGA.out.kept
  clear c0 a0 b0 i0 H HGA
  generalize hwa : w.alloc (.cells #[.int .i64 (a : Int), .int .i64 (b : Int), .bool (I (k + 1))] 77) = wa at H1 HBA HK1 ⊢
  clear hwa
  generalize w.heap.size = g at HBA HNG ⊢
  have haz : (a : Int) ≤ (n : Int) := by have := HA.out; omega
  have hbz : (b : Int) ≤ (n : Int) := by have := HB.out; omega
  have q0 := up_cell (F := (· = D)) (w := wa.drew) H1.out.c0 H1.out.ne
  have q1 := up_cell (F := (· = D)) (w := wa.drew) (HBA.out.cell 0) (fun x => HNG.out (.inr x))
  have q2 := up_cell (F := (· = D)) (w := wa.drew) (HBA.out.cell 1) (fun x => HNG.out (.inr x))
  have r0 := H1.out.b HA.out
  have r1 := H1.out.f1 (a * 3 + 1)
  refine wp_region_stages (Kept (· = D)) (kept_refl _) (kept_trans _) [([0, 1, 2, 3, 4, 5, 6, 7, 8, 9], 10)] [] (by kernel_rfl) (by kernel_rfl) ?_
  simp only [selSt, sel, List.map_cons, List.map_nil, List.getD_cons_succ, List.getD_cons_zero]
  refine st_cons fun K1 hK1 => ?_
  repeat (go_big_quiet_step (fail))
  refine wpQuiet_nil ?_
  clear q0 q1 q2
  go_wp2
  refine norm_up (hK1 _ _ (kept_set _ _ _ _) (st_nil fun K2 hK2 => wpQuiet_nil (hK2 _ ?_)))
  clear hK1 hK2 K1 K2 r0 r1
  have H2 : Hid (Lnk (wa.setCell ⟨D, a * 3 + 1, none⟩ (.int .i64 (b : Int))).drew d D n (zs.length : Int) A (upd B a b) I) := (H1.out.setB a b).kept (Kept.drew' _) (F := fun _ => False) (fun _ x => x.elim)
  have HK2 : Hid (Kept (Own d D) w (wa.setCell ⟨D, a * 3 + 1, none⟩ (.int .i64 (b : Int))).drew) := (HK1.out.setCell (fun _ => .inr rfl) _).drew
  have HB2 : Hid (Blk (wa.setCell ⟨D, a * 3 + 1, none⟩ (.int .i64 (b : Int))).drew g 77 [.int .i64 (a : Int), .int .i64 (b : Int), .bool (I (k + 1))]) := (HBA.out.other (p := ⟨D, a * 3 + 1, none⟩) (fun x => HNG.out (.inr x)) _).drew
  generalize (wa.setCell ⟨D, a * 3 + 1, none⟩ (.int .i64 (b : Int))).drew = w2 at H2 HK2 HB2 ⊢
  clear H1 HK1 HBA wa
  go_upto_region 5 with (fail)
  have q0 := up_cell (F := (· = D)) (w := w2.drew) H2.out.c0 H2.out.ne
  have q1 := up_cell (F := (· = D)) (w := w2.drew) (HB2.out.cell 0) (fun x => HNG.out (.inr x))
  have q2 := up_cell (F := (· = D)) (w := w2.drew) (HB2.out.cell 1) (fun x => HNG.out (.inr x))
  have r0 := H2.out.a HB.out
  have r1 := H2.out.f1 (b * 3)
  refine wp_region_stages (Kept (· = D)) (kept_refl _) (kept_trans _) [([0, 1, 2, 3, 4, 5, 6, 7, 8, 9], 10)] [] (by kernel_rfl) (by kernel_rfl) ?_
  simp only [selSt, sel, List.map_cons, List.map_nil, List.getD_cons_succ, List.getD_cons_zero]
  refine st_cons fun K1 hK1 => ?_
  repeat (go_big_quiet_step (fail))
  refine wpQuiet_nil ?_
  clear q0 q1 q2
  go_wp2
  refine norm_up (hK1 _ _ (kept_set _ _ _ _) (st_nil fun K2 hK2 => wpQuiet_nil (hK2 _ ?_)))
  clear hK1 hK2 K1 K2 r0 r1
  have H3 : Hid (Lnk (w2.setCell ⟨D, b * 3, none⟩ (.int .i64 (a : Int))).drew d D n (zs.length : Int) (upd A b a) (upd B a b) I) := (H2.out.setA b a).kept (Kept.drew' _) (F := fun _ => False) (fun _ x => x.elim)
  have HK3 : Hid (Kept (Own d D) w (w2.setCell ⟨D, b * 3, none⟩ (.int .i64 (a : Int))).drew) := (HK2.out.setCell (fun _ => .inr rfl) _).drew
  generalize (w2.setCell ⟨D, b * 3, none⟩ (.int .i64 (a : Int))).drew = w3 at H3 HK3 ⊢
  clear H2 HK2 HB2 w2 haz hbz
  have c0 := H3.out.c0
  have a0 := H3.out.a (p := k + 1) (by omega)
  have b0 := H3.out.b (p := k + 1) (by omega)
  have i0 := H3.out.i (p := k + 1) (by omega)
  have f1 := H3.out.f1
  go_upto_region 7 with (fail)
  have H4 : Hid (Lnk (((w3.setCell ⟨D, (k + 1) * 3, none⟩ (.int .i64 0)).setCell ⟨D, (k + 1) * 3 + 1, none⟩ (.int .i64 0)).setCell ⟨D, (k + 1) * 3 + 2, none⟩ (.bool false)) d D n (zs.length : Int) (upd (upd A b a) (k + 1) 0) (upd (upd B a b) (k + 1) 0) (upd I (k + 1) false)) := ((H3.out.setA (k + 1) 0).setB (k + 1) 0).setI (k + 1) false
  have HK4 : Hid (Kept (Own d D) w (((w3.setCell ⟨D, (k + 1) * 3, none⟩ (.int .i64 0)).setCell ⟨D, (k + 1) * 3 + 1, none⟩ (.int .i64 0)).setCell ⟨D, (k + 1) * 3 + 2, none⟩ (.bool false))) := ((HK3.out.setCell (fun _ => .inr rfl) _).setCell (fun _ => .inr rfl) _).setCell (fun _ => .inr rfl) _
  generalize (((w3.setCell ⟨D, (k + 1) * 3, none⟩ (.int .i64 0)).setCell ⟨D, (k + 1) * 3 + 1, none⟩ (.int .i64 0)).setCell ⟨D, (k + 1) * 3 + 2, none⟩ (.bool false)) = w4 at H4 HK4 ⊢
  clear c0 a0 b0 i0 f1 H3 HK3 w3
  have c1 := H4.out.c1
  have f0 := H4.out.f0 1
  have hl63 : (zs.length : Int) ≤ 1024 := by omega
  have hl0 : (1 : Int) ≤ (zs.length : Int) := by omega
  go_wp2
  go_ret
  refine ⟨rfl, ⟨⟨_, _, _, ?_, HR.out⟩, hsz⟩, HK4.out.setCell (fun _ => .inl rfl) _⟩
  have := H4.out.count ((zs.length : Int) - 1)
  rw [HLN.out, show ((zs.length - 1 : Nat) : Int) = (zs.length : Int) - 1 by omega]
  exact this
theorem out_any (h : ListAt w d D n zs) (k : Int) :
    Calls Try.prog 34 #[.pointer (some ⟨d, 0, none⟩), .int .i64 k] w fun e w' => e = .returned (.bool (okO zs k)) ∧ ListAt w' d D n (outL zs k) ∧ Kept (Own d D) w w' := by
  cases hk : okO zs k with
  | true =>
    have hk' := hk
    simp only [okO, Bool.and_eq_true, decide_eq_true_eq] at hk'
    obtain ⟨K, rfl⟩ := Int.eq_ofNat_of_zero_le hk'.1
    have := out_good h K hk'.2
    unfold outL
    rw [hk]
    exact this
  | false =>
    have HT := Lib.hid (has_any h k)
    rw [hk] at HT
    have HQ := Lib.hid h
    have HE : Hid (outL zs k = zs) := by show _ = _; unfold outL; rw [hk]; rfl
    clear h hk
    go_enter Try.func34, Try.ntmps34
    go_wp2_with (go_at_call 45; (with_reducible refine HT.out.mono ?_); rintro e w' ⟨rfl, rfl⟩)
    go_ret
    rw [HE.out]
    exact ⟨rfl, HQ.out, Kept.refl _ _⟩
theorem infoI : (Try.prog.info? 3).map (fun i => (i.zero, i.size, i.bytes)) = some (some (.int .i64 0), 1, 8) := by kernel_rfl
theorem all_any (h : ListAt w d D n zs) :
    Calls Try.prog 32 #[.pointer (some ⟨d, 0, none⟩)] w fun e w' => ∃ A c, e = .returned (.slice A zs.length c) ∧ Sl w' w'.heap.size .i64 A zs.length (ints zs) ∧ (∀ x, A = some x → w.heap.size ≤ x.block) ∧ Grow w w' := by
  obtain ⟨A, B, I, hl, hr⟩ := h.lnk
  have HL := Lib.hid (len_any h)
  have hsz := h.size
  have hlen := hr.len
  have HR := Lib.hid hr
  have H := Lib.hid hl
  clear h hl hr
  by_cases hz : zs = []
  · subst hz
    simp only [List.length_nil, Int.natCast_zero, Int.cast_ofNat_Int] at HL
    go_enter Try.func32, Try.ntmps32
    go_wp2
    go_step3
    go_wp2_with (go_at_call 37; (with_reducible refine HL.out.mono ?_); rintro e w' ⟨rfl, rfl⟩)
    rw [Exit.noGoto_ret]
    go_ret
    exact ⟨none, 0, rfl, Sl.nil _ _ _ _, fun x hx => (by cases hx), Kept.refl _ _⟩
  · have hz' : ((zs.length : Int) == 0) = false := by
      rw [beq_eq_false_iff_ne]
      have := List.length_pos_iff.2 hz
      omega
    go_enter Try.func32, Try.ntmps32
    go_wp2
    go_step3
    go_wp2_with (go_at_call 37; (with_reducible refine HL.out.mono ?_); rintro e w' ⟨rfl, rfl⟩)
    go_step3
    go_wp2
    go_loopg [3, 4] zs.length (fun g v i wr => ∃ j : Nat, j + g = zs.length ∧ i = .int .i64 (pl zs j : Int) ∧ wr.ownsRow w.heap.size 3 1 v j (((ints zs).take j).map (Value.int .i64)) ∧ Below w.heap.size w wr)
    case atStart => exact ⟨0, by omega, rfl, World.ownsRow_nil _ _ _ _, Below.refl _ _⟩
    case round =>
      obtain ⟨j, hg, rfl, hown, hbel⟩ := hrel
      have HO := Lib.hid hown
      have HB := Lib.hid hbel
      have HG := Lib.hid hg
      have hdev := H.out.kept (Kept.of_below hbel (F := fun _ => False)) (fun _ x => x.elim)
      have hpl := pl_le HR.out.lt j (by omega)
      have hplz : (pl zs j : Int) ≤ (n : Int) := by omega
      have c0 := hdev.c0
      have b0 := hdev.b hpl
      have hst := HR.out.step (i := j) (by omega)
      by_cases hj : j < zs.length
      · rw [hst, if_pos hj, show ((pl zs (j + 1) : Nat) : Int) = ((zs.getD j 0 : Nat) : Int) + 1 from rfl] at b0
        have hx := HR.out.lt (zs.getD j 0) (by rw [List.getD_eq_getElem?_getD, List.getElem?_eq_getElem hj]; exact List.getElem_mem _)
        have HE : Hid ((ints zs).take (j + 1) = (ints zs).take j ++ [((zs.getD j 0 : Nat) : Int)]) := by
          show _ = _
          rw [← ints_get, List.take_add_one, List.getD_eq_getElem?_getD, List.getElem?_eq_getElem (by rw [ints_len]; exact hj)]; rfl
        have HPE : Hid ((pl zs (j + 1) : Int) = ((zs.getD j 0 : Nat) : Int) + 1) := rfl
        have hbs : w.heap.size ≤ wr.heap.size := hbel.size
        clear hst hdev hown hbel hg
        generalize zs.getD j 0 = x at *
        generalize pl zs j = p at *
        have hxz : (x : Int) < (n : Int) := by omega
        go_wp2_with (at_builtin; refine wpList_append_one rfl (.tmp 17) (.tmp 20) 40 rfl w.heap.size 3 (.int .i64 0) 8 Try.underlying40 infoI rfl _ j _ rfl (World.ownsRow.alloc HO.out _) wr.heap.size (.int .i64 (x : Int)) rfl (cell_new1 _ _ _) rfl (by unfold maxLen; omega) (by omega) (by simp; omega) ?_; intro g cap w2 hown hbel; have HOW := Lib.hid hown; have HBW := Lib.hid hbel; clear hown hbel)
        go_roundg (gk - 1)
        case measure => have := HG.out; omega
        case rel => exact ⟨j + 1, by have := HG.out; omega, by rw [HPE.out], by rw [HE.out]; simpa using HOW.out, (HB.out.alloc hbs _).trans HBW.out⟩
      · obtain rfl : j = zs.length := by omega
        rw [hst, if_neg hj] at b0
        obtain ⟨A', c', rfl, hsl⟩ := Sl.of_row1 (n := zs.length) hown
        rw [List.take_of_length_le (by rw [ints_len]; omega)] at hsl
        have HSL := Lib.hid hsl
        have HNEW : Hid (∀ x, A' = some x → w.heap.size ≤ x.block) := fun x e => (World.ownsRow.lt hown x.block (by rw [e]; rfl)).1
        clear hst hdev hown hbel hg hsl
        simp only [Int.natCast_zero, Int.cast_ofNat_Int] at b0
        go_wp2
        rw [Exit.noGoto_ret]
        go_ret
        exact ⟨A', c', rfl, HSL.out, HNEW.out, Kept.of_below HB.out⟩
end
end Go.Proofs.Ytcmhkknoffeebaa.ListD
