/-
  The document's slots (chapter 9, lavaboref4): Take.
-/
import Derived.Test.YtmealcbcphfpdaaMRefHear
namespace Go.Proofs.Ytmealcbcphfpdaa.MRefK
open Go.ChangeShapes Go.WideShapes Go.ChangeAt Go.RowKit Go.Conc
open Go.Proofs.Ytmealcbcphfpdaa.Mem Go.Proofs.Ytmealcbcphfpdaa.Blk Go.Proofs.Ytmealcbcphfpdaa.Cells Go.Proofs.Ytmealcbcphfpdaa.Chan Go.Proofs.Ytmealcbcphfpdaa.Prs Go.Proofs.Ytmealcbcphfpdaa.App Go.Proofs.Ytmealcbcphfpdaa.MailM Go.Proofs.Ytmealcbcphfpdaa.MRefA Go.Proofs.Ytmealcbcphfpdaa.MRefC Go.Proofs.Ytmealcbcphfpdaa.Stages Go.Proofs.Ytmealcbcphfpdaa.Trees

section
variable {w w' : World} {m d c : Nat} {b : Bx} {G : Nat → Prop} {A : Option Addr} {ys : List P2} {os : List Int}

/-- The pairs us are told; what is made of the slots. -/
def TQ (m d : Nat) (w : World) (us : List P2) (b' : Bx) (e : Ending) (w' : World) : Prop :=
  ∃ A k, e = .returned (.slice A us.length k) ∧ Pl w' w'.heap.size A us.length us ∧ MRef w' m d b' ∧ Kept (· = m) w w'

set_option maxHeartbeats 4000000 in
theorem rtake_any (h : MRef w m d b) (g : Fit b) (n : Int) (hd : d < w.heap.size) : Calls Try.prog 12 #[.pointer (some ⟨m, 0, none⟩), .int .i64 n] w (TQ m d w (b.takeL n) (b.takeB n)) := by
  have HM := Lib.hid h
  have HD := Lib.hid hd
  have hl := g.lens
  have hl8 := g.len
  obtain ⟨N, hN⟩ : ∃ N, b.tk n = N := ⟨_, rfl⟩
  have hNl : N ≤ b.W.length := by rw [← hN]; exact tk_le b n
  have hNm : N = min n.toNat b.W.length := hN.symm
  have e1 : b.takeL n = b.W.take N := by unfold Bx.takeL; rw [hN]
  have e2 : b.takeB n = ⟨b.W.drop N, b.O ++ fsts (b.W.take N), b.A⟩ := by unfold Bx.takeB; rw [hN, e1]
  rw [e1, e2]
  have hul : (b.W.take N).length = N := by rw [List.length_take]; omega
  obtain ⟨A0, A1, A2, k0, k1, k2, hr, ⟨p0, l0, o0⟩, ⟨p1, l1, o1⟩, ⟨p2, l2, o2⟩⟩ := h.hd
  have r0 := hr.cell (i := 0) (by omega)
  simp only [mcell, if_true] at r0
  have f0 := hr.frozen 0
  have HT : Hid (Pl w w.heap.size A0 N (b.W.take N)) := Pl.take p0 hNl
  have HC : Hid (Pl w w.heap.size (if k0 = N then A0 else A0.map (·.add (N * 2))) (b.W.length - N) (b.W.drop N)) := Pl.cut p0 hNl l0.1
  have HOF := Lib.hid o0
  have HN := Lib.hid hNm
  obtain ⟨l0a, l0b⟩ := l0
  unfold maxLen at l0b
  have HL0 := Lib.hid (And.intro hNl (And.intro l0a l0b))
  have HUL := Lib.hid hul
  have HLEN := Lib.hid (And.intro hl8 hl)
  have hlz : (b.W.length : Int) ≤ 8 := by omega
  have hNz : (N : Int) ≤ (b.W.length : Int) := by omega
  have hkz : (b.W.length : Int) ≤ (k0 : Int) := by omega
  have hkm : (k0 : Int) ≤ 9223372036854775807 := by omega
  clear h g hr p0 p1 p2 o0 o1 o2 l1 l2 hl hl8 e1 e2 hN hul hNl hNm hd l0a l0b
  go_enter Try.func12, Try.ntmps12
  go_upto_region 1 with (fail)
  go_cut [5] from 8 to 16 (fun v wx => v = .int .i64 (N : Int) ∧ w = wx)
  case first =>
    go_wp2_with fail
    all_goals (go_meet; exact ⟨by have := HN.out; congr 1; omega, rfl⟩)
  case rest =>
    obtain ⟨rfl, rfl⟩ := hcut
    go_upto_region 4 with (fail)
    have hlen : (b.W.drop N).length = b.W.length - N := List.length_drop
    have HM1 : Hid (MRef (w.setCell ⟨m, 0, none⟩ (.slice (if k0 = N then A0 else A0.map (·.add (N * 2))) (b.W.length - N) (k0 - N))) m d ⟨b.W.drop N, b.O ++ fsts ((b.W.take N).take 0), b.A⟩) := by
      have hh := HM.out.putW (ys := b.W.drop N) (c := k0 - N) (A := if k0 = N then A0 else A0.map (·.add (N * 2))) (by rw [hlen]; exact HC.out) (by rw [hlen]; have := HL0.out; unfold maxLen; omega) (fun x hx => by
        by_cases e : k0 = N
        · rw [if_pos e] at hx; exact HOF.out x hx
        · rw [if_neg e] at hx
          cases hA : A0 with
          | none => rw [hA] at hx; cases hx
          | some a =>
            rw [hA] at hx
            injection hx with hx
            have := HOF.out a hA
            rw [← hx]
            unfold Addr.add
            split <;> exact this)
      rw [hlen] at hh
      rw [List.take_zero]
      show MRef _ m d ⟨_, b.O ++ [], _⟩
      rw [List.append_nil]
      exact hh
    have HK1 : Hid (Kept (· = m) w (w.setCell ⟨m, 0, none⟩ (.slice (if k0 = N then A0 else A0.map (·.add (N * 2))) (b.W.length - N) (k0 - N)))) := kept_set w m 0 _
    generalize w.setCell ⟨m, 0, none⟩ (.slice (if k0 = N then A0 else A0.map (·.add (N * 2))) (b.W.length - N) (k0 - N)) = w1 at HM1 HK1 ⊢
    generalize hUS : b.W.take N = us at *
    clear f0 r0 HC hlen hUS
    generalize (if k0 = N then A0 else A0.map (·.add (N * 2))) = AX
    go_wp2
    go_loopg [7] N (fun gx i wr => ∃ j : Nat, j + gx = N ∧ i = .int .i64 (j : Int) ∧ MRef wr m d ⟨b.W.drop N, b.O ++ fsts (us.take j), b.A⟩ ∧ Kept (· = m) w wr)
    case atStart => exact ⟨0, by omega, rfl, HM1.out, HK1.out⟩
    case round =>
      obtain ⟨j, hg, rfl, hm, hk⟩ := hrel
      have HG := Lib.hid hg
      have HMR := Lib.hid hm
      have HKR := Lib.hid hk
      clear hg hm hk HM1 HK1
      by_cases hj : j < N
      · have hjz : (j : Int) < (N : Int) := by omega
        have hjl : j < us.length := by rw [HUL.out]; exact hj
        have hsn : fsts (us.take (j + 1)) = fsts (us.take j) ++ [(us.getD j (0, 0)).1] := by rw [take_snocP hjl, fsts_append]; rfl
        have hol : (b.O ++ fsts (us.take j)).length ≤ 100 := by
          have h1 := HLEN.out
          have h2 : (us.take j).length ≤ j := by rw [List.length_take]; omega
          have h3 := HL0.out
          rw [List.length_append, fsts_len]
          omega
        obtain ⟨bb, off, rfl, _, hc⟩ := HT.out.at_ (by omega)
        have hbm := (HOF.out _ rfl).1
        have q1 := HKR.out.cellN (hc j hj).1 hbm
        obtain ⟨_, _, A2', _, _, k2', hrow, _, _, ⟨p2, l2, o2⟩⟩ := HMR.out.hd
        have r2 := hrow.cell (i := 2) (by omega)
        have f2 := hrow.frozen 2
        simp only [mcell, if_false, Nat.succ_ne_zero, Nat.reduceEqDiff] at r2
        have HSN := Lib.hid hsn
        generalize (us.getD j (0, 0)).1 = x at q1 HSN
        have HP2 : Hid (Sl wr wr.heap.size .i64 A2' (b.O ++ fsts (us.take j)).length (b.O ++ fsts (us.take j))) := p2
        have HEND : Hid (∀ w2 A3 c3, Grow wr w2 → Sl w2 w2.heap.size .i64 A3 ((b.O ++ fsts (us.take j)).length + 1) (b.O ++ fsts (us.take j) ++ [x]) → ((b.O ++ fsts (us.take j)).length + 1 ≤ c3 ∧ c3 ≤ maxLen) → (∀ y, A3 = some y → wr.heap.size ≤ y.block) →
            (w2.cell? ⟨m, 2, none⟩ = some (.slice A2' (b.O ++ fsts (us.take j)).length k2') ∧ w2.frozen? ⟨m, 2, none⟩ = false) ∧ MRef (w2.setCell ⟨m, 2, none⟩ (.slice A3 ((b.O ++ fsts (us.take j)).length + 1) c3)) m d ⟨b.W.drop N, b.O ++ fsts (us.take (j + 1)), b.A⟩ ∧ Kept (· = m) w (w2.setCell ⟨m, 2, none⟩ (.slice A3 ((b.O ++ fsts (us.take j)).length + 1) c3))) := fun w2 A3 c3 hg hs hc hx => by
          have hlen : (b.O ++ fsts (us.take j) ++ [x]).length = (b.O ++ fsts (us.take j)).length + 1 := by rw [List.length_append]; rfl
          have h1 := (HMR.out.grow hg).putO (os := b.O ++ fsts (us.take j) ++ [x]) (by rw [hlen]; exact hs) (by rw [hlen]; exact hc) (off_new HMR.out.lt (by have h1 := HD.out; have h2 := HKR.out.size; omega) hx)
          rw [hlen] at h1
          refine ⟨⟨hg.cellN r2 id, (hrow.kept hg id).frozen 2⟩, ?_, HKR.out.trans ((Grow.kept hg).trans (kept_set _ m 2 _))⟩
          rw [HSN.out, ← List.append_assoc]
          exact h1
        have hml : ¬ (wr.heap.size ≤ m) := by have := HMR.out.lt; omega
        have hbl : ¬ (wr.heap.size ≤ bb) := by have := block_lt_of_cell q1; simp only at this; omega
        have rd : wr.drew.cell? ⟨m, 2, none⟩ = some (.slice A2' (b.O ++ fsts (us.take j)).length k2') := r2
        have qd : wr.drew.cell? ⟨bb, off + j * 2, none⟩ = some (.int .i64 x) := q1
        clear hc hrow p2 l2 o2 hsn hjl r2 f2 HMR HKR HSN
        generalize b.O ++ fsts (us.take j) = os at *
        have hoz : (os.length : Int) ≤ 100 := by omega
        go_upto_region 7 with (fail)
        refine wp_region_tree (Kept (wr.heap.size ≤ ·)) (Kept fun k => wr.heap.size ≤ k ∨ k = m) (kept_refl _) (kept_trans _) (kept_refl _) (kept_trans _) (fun _ _ h => h.mono fun _ _ x => .inl x) [16]
          (.two true [0, 2, 3, 4, 5, 7, 8, 9, 10, 11] 1 (.two true [] 6 (.one true [] 12 (.one true [] 13 (.one false [14, 15] 16 (.last false [])))) 12 (.one true [] 6 (.one true [] 13 (.one false [14, 15] 16 (.last false []))))) 12 (.one true [] 1 (.one true [] 6 (.one true [] 13 (.one false [14, 15] 16 (.last false [])))))) (by kernel_rfl) (by kernel_rfl) ?_
        refine tr_twoE fun K1 hK1 K2 hK2 => ?_
        simp only [sel, List.map_cons, List.map_nil, List.getD_cons_succ, List.getD_cons_zero]
        have u0 := up_cell (F := (wr.heap.size ≤ ·)) (w := wr.drew) (p := ⟨m, 2, none⟩) rd hml
        have u1 := up_cell (F := (wr.heap.size ≤ ·)) (w := wr.drew) (p := ⟨bb, off + j * 2, none⟩) qd hbl
        repeat (go_big_quiet_step (fail))
        refine wpQuiet_nil ?_
        clear u0 u1 rd qd
        refine ⟨?_, ?_⟩
        · go_wp2
          refine norm_up (hK1 _ _ (Lr_early (by decide) ((Kept.refl _ _).alloc _)) ?_)
          clear hK1 hK2 K1 K2
          refine tr_twoE fun K1 hK1 K2 hK2 => ?_
          simp only [sel, List.map_cons, List.map_nil, List.getD_cons_succ, List.getD_cons_zero]
          refine wpQuiet_nil ?_
          refine ⟨?_, ?_⟩
          · have hg0 : Grow wr (wr.alloc (.cells #[] 3)).drew := ((Kept.refl _ _).alloc _).drew
            have ho0 : (wr.alloc (.cells #[] 3)).drew.ownsRow wr.heap.size 3 1 (.slice (some ⟨wr.heap.size, 0, none⟩) 0 0) 0 ([].map (Value.int .i64)) := World.ownsRow_lit (base := wr.heap.size) (e := 3) (size := 1) wr #[] 0 (Nat.le_refl _) (by unfold maxLen; omega) rfl
            obtain ⟨v1, w2, hr1, ho1, hb1⟩ := append_sl (m := os.length) (A := A2') (B := wr.heap.size) (c := k2') (ys := []) 27 ho0 (Sl.kept HP2.out hg0 (Nat.le_refl _) (fun _ _ x => x)) (by omega) (by simp)
            have hg1 : Grow wr w2 := grow_own ho0 hg0 hb1 (Nat.le_refl _)
            have ho1' := World.ownsRow.alloc ho1 (.cells #[.int .i64 x] 3)
            obtain ⟨v2, w3, hr2, ho2, hb2⟩ := append_sl (m := 1) (zs := [x]) (A := some ⟨w2.heap.size, 0, none⟩) (B := w2.heap.size + 1) (c := 1) 27 ho1' (sl_one w2 x) (by omega) (by have := hg1.size; simp; omega)
            have hg2 : Grow wr w3 := grow_own ho1' (hg1.alloc _) hb2 (Nat.le_refl _)
            have HB1 := Lib.hid (kept_own ho0 hb1)
            have HB2 := Lib.hid (kept_own ho1' hb2)
            obtain ⟨A3, c3, rfl, hs3, hc3, hm3, hx3⟩ := own_form ho2
            simp only [Nat.zero_add, List.nil_append] at hr2 hs3 hc3
            obtain ⟨⟨c9, f9⟩, m9, k9⟩ := HEND.out w3 A3 c3 hg2 hs3 ⟨hc3, hm3⟩ hx3
            have HR1 := Lib.hid hr1
            have HR2 := Lib.hid hr2
            have HM9 := Lib.hid (And.intro m9 k9)
            clear hr1 hr2 ho0 ho1 ho1' ho2 hb1 hb2 hg0 hg1 hg2 hs3 hc3 hm3 hx3 m9 k9 HEND
            go_wp2_with (at_builtin; refine Lib.wpList_append_run _ rfl _ _ _ _ rfl _ _ rfl rfl _ _ HR1.out ?_)
            refine norm_up (hK1 _ _ (Lr_early (by decide) HB1.out) ?_)
            clear hK1 hK2 K1 K2
            refine tr_oneE fun K hK => ?_
            simp only [sel, List.map_cons, List.map_nil, List.getD_cons_succ, List.getD_cons_zero]
            refine wpQuiet_nil ?_
            go_wp2
            refine norm_up (hK _ _ (Lr_early (by decide) ((Kept.refl _ _).alloc _)) ?_)
            clear hK K
            refine tr_oneE fun K hK => ?_
            simp only [sel, List.map_cons, List.map_nil, List.getD_cons_succ, List.getD_cons_zero]
            refine wpQuiet_nil ?_
            go_wp2_with (at_builtin; refine Lib.wpList_append_run _ rfl _ _ _ _ rfl _ _ rfl rfl _ _ HR2.out ?_)
            refine norm_up (hK _ _ (Lr_early (by decide) HB2.out) ?_)
            clear hK K
            refine tr_oneL fun K hK => ?_
            simp only [sel, List.map_cons, List.map_nil, List.getD_cons_succ, List.getD_cons_zero]
            repeat (go_big_quiet_step (fail))
            refine wpQuiet_nil ?_
            go_wp2
            refine norm_up (hK _ _ (Lr_late (by decide) ((kept_set _ m 2 _).mono fun _ _ e => .inr e)) ?_)
            clear hK K c9 f9
            refine tr_lastL fun K hK => ?_
            simp only [sel, List.map_cons, List.map_nil, List.getD_cons_succ, List.getD_cons_zero]
            refine wpQuiet_nil (hK _ ?_)
            clear hK K
            go_wp2
            go_roundg (gk - 1)
            case measure => have := HG.out; omega
            case rel => exact ⟨j + 1, by have := HG.out; omega, by go_num, HM9.out.1, HM9.out.2⟩
          · go_wp2
            refine norm_up (hK2 _ _ (Lr_early (by decide) ((Kept.refl _ _).alloc _)) ?_)
            clear hK1 hK2 K1 K2
            have hg0 : Grow wr ((wr.alloc (.cells #[] 3)).alloc (.cells #[.int .i64 x] 3)).drew := (((Kept.refl _ _).alloc _).alloc _).drew
            have ho00 : (wr.alloc (.cells #[] 3)).ownsRow wr.heap.size 3 1 (.slice (some ⟨wr.heap.size, 0, none⟩) 0 0) 0 ([].map (Value.int .i64)) := World.ownsRow_lit (base := wr.heap.size) (e := 3) (size := 1) wr #[] 0 (Nat.le_refl _) (by unfold maxLen; omega) rfl
            have ho0 : ((wr.alloc (.cells #[] 3)).alloc (.cells #[.int .i64 x] 3)).drew.ownsRow wr.heap.size 3 1 (.slice (some ⟨wr.heap.size, 0, none⟩) 0 0) 0 ([].map (Value.int .i64)) := World.ownsRow.alloc ho00 _
            have hx0 : Sl ((wr.alloc (.cells #[] 3)).alloc (.cells #[.int .i64 x] 3)).drew (wr.heap.size + 1 + 1) .i64 (some ⟨wr.heap.size + 1, 0, none⟩) 1 [x] := by
              have := sl_one (wr.alloc (.cells #[] 3)) x
              rw [show (wr.alloc (.cells #[] 3)).heap.size = wr.heap.size + 1 by simp] at this
              exact this
            obtain ⟨v1, w2, hr1, ho1, hb1⟩ := append_sl (m := os.length) (A := A2') (B := wr.heap.size) (c := k2') (ys := []) 27 ho0 (Sl.kept HP2.out hg0 (Nat.le_refl _) (fun _ _ x => x)) (by omega) (by simp; omega)
            have hg1 : Grow wr w2 := grow_own ho0 hg0 hb1 (Nat.le_refl _)
            have hx1 := App.Sl.kept' hx0 hb1 fun y hy e => by injection hy with hy; injection e with e; rw [← hy] at e; simp only at e; omega
            obtain ⟨v2, w3, hr2, ho2, hb2⟩ := append_sl (m := 1) (zs := [x]) (A := some ⟨wr.heap.size + 1, 0, none⟩) (B := wr.heap.size + 1 + 1) (c := 1) 27 ho1 hx1 (by omega) hg1.size
            have hg2 : Grow wr w3 := grow_own ho1 hg1 hb2 (Nat.le_refl _)
            have HB1 := Lib.hid (kept_own ho0 hb1)
            have HB2 := Lib.hid (kept_own ho1 hb2)
            obtain ⟨A3, c3, rfl, hs3, hc3, hm3, hx3⟩ := own_form ho2
            simp only [Nat.zero_add, List.nil_append] at hr2 hs3 hc3
            obtain ⟨⟨c9, f9⟩, m9, k9⟩ := HEND.out w3 A3 c3 hg2 hs3 ⟨hc3, hm3⟩ hx3
            have HR1 := Lib.hid hr1
            have HR2 := Lib.hid hr2
            have HM9 := Lib.hid (And.intro m9 k9)
            clear hr1 hr2 ho0 ho00 ho1 ho2 hb1 hb2 hg0 hg1 hg2 hs3 hc3 hm3 hx3 m9 k9 HEND hx0 hx1
            refine tr_oneE fun K hK => ?_
            simp only [sel, List.map_cons, List.map_nil, List.getD_cons_succ, List.getD_cons_zero]
            refine wpQuiet_nil ?_
            go_wp2_with (at_builtin; refine Lib.wpList_append_run _ rfl _ _ _ _ rfl _ _ rfl rfl _ _ HR1.out ?_)
            refine norm_up (hK _ _ (Lr_early (by decide) HB1.out) ?_)
            clear hK K
            refine tr_oneE fun K hK => ?_
            simp only [sel, List.map_cons, List.map_nil, List.getD_cons_succ, List.getD_cons_zero]
            refine wpQuiet_nil ?_
            go_wp2_with (at_builtin; refine Lib.wpList_append_run _ rfl _ _ _ _ rfl _ _ rfl rfl _ _ HR2.out ?_)
            refine norm_up (hK _ _ (Lr_early (by decide) HB2.out) ?_)
            clear hK K
            refine tr_oneL fun K hK => ?_
            simp only [sel, List.map_cons, List.map_nil, List.getD_cons_succ, List.getD_cons_zero]
            repeat (go_big_quiet_step (fail))
            refine wpQuiet_nil ?_
            go_wp2
            refine norm_up (hK _ _ (Lr_late (by decide) ((kept_set _ m 2 _).mono fun _ _ e => .inr e)) ?_)
            clear hK K c9 f9
            refine tr_lastL fun K hK => ?_
            simp only [sel, List.map_cons, List.map_nil, List.getD_cons_succ, List.getD_cons_zero]
            refine wpQuiet_nil (hK _ ?_)
            clear hK K
            go_wp2
            go_roundg (gk - 1)
            case measure => have := HG.out; omega
            case rel => exact ⟨j + 1, by have := HG.out; omega, by go_num, HM9.out.1, HM9.out.2⟩
        · go_wp2
          refine norm_up (hK2 _ _ (Lr_early (by decide) ((Kept.refl _ _).alloc _)) ?_)
          clear hK1 hK2 K1 K2
          refine tr_oneE fun K hK => ?_
          simp only [sel, List.map_cons, List.map_nil, List.getD_cons_succ, List.getD_cons_zero]
          refine wpQuiet_nil ?_
          go_wp2
          refine norm_up (hK _ _ (Lr_early (by decide) ((Kept.refl _ _).alloc _)) ?_)
          clear hK K
          have hg0 : Grow wr ((wr.alloc (.cells #[.int .i64 x] 3)).alloc (.cells #[] 3)).drew := (((Kept.refl _ _).alloc _).alloc _).drew
          have ho0 : ((wr.alloc (.cells #[.int .i64 x] 3)).alloc (.cells #[] 3)).drew.ownsRow wr.heap.size 3 1 (.slice (some ⟨wr.heap.size + 1, 0, none⟩) 0 0) 0 ([].map (Value.int .i64)) := by
            have := World.ownsRow_lit (base := wr.heap.size) (e := 3) (size := 1) (wr.alloc (.cells #[.int .i64 x] 3)) #[] 0 (by simp) (by unfold maxLen; omega) rfl
            rw [show (wr.alloc (.cells #[.int .i64 x] 3)).heap.size = wr.heap.size + 1 by simp] at this
            exact this
          have hx0 : Sl ((wr.alloc (.cells #[.int .i64 x] 3)).alloc (.cells #[] 3)).drew (wr.heap.size + 1) .i64 (some ⟨wr.heap.size, 0, none⟩) 1 [x] := App.Sl.kept' (F := fun _ => False) (sl_one wr x) ((Kept.refl _ _).alloc _).drew fun _ _ e => e
          obtain ⟨v1, w2, hr1, ho1, hb1⟩ := append_sl (m := os.length) (A := A2') (B := wr.heap.size) (c := k2') (ys := []) 27 ho0 (Sl.kept HP2.out hg0 (Nat.le_refl _) (fun _ _ x => x)) (by omega) (by simp; omega)
          have hg1 : Grow wr w2 := grow_own ho0 hg0 hb1 (Nat.le_refl _)
          have hx1 := App.Sl.kept' hx0 hb1 fun y hy e => by injection hy with hy; injection e with e; rw [← hy] at e; simp only at e; omega
          obtain ⟨v2, w3, hr2, ho2, hb2⟩ := append_sl (m := 1) (zs := [x]) (A := some ⟨wr.heap.size, 0, none⟩) (B := wr.heap.size + 1) (c := 1) 27 ho1 hx1 (by omega) hg1.size
          have hg2 : Grow wr w3 := grow_own ho1 hg1 hb2 (Nat.le_refl _)
          have HB1 := Lib.hid (kept_own ho0 hb1)
          have HB2 := Lib.hid (kept_own ho1 hb2)
          obtain ⟨A3, c3, rfl, hs3, hc3, hm3, hx3⟩ := own_form ho2
          simp only [Nat.zero_add, List.nil_append] at hr2 hs3 hc3
          obtain ⟨⟨c9, f9⟩, m9, k9⟩ := HEND.out w3 A3 c3 hg2 hs3 ⟨hc3, hm3⟩ hx3
          have HR1 := Lib.hid hr1
          have HR2 := Lib.hid hr2
          have HM9 := Lib.hid (And.intro m9 k9)
          clear hr1 hr2 ho0 ho1 ho2 hb1 hb2 hg0 hg1 hg2 hs3 hc3 hm3 hx3 m9 k9 HEND hx0 hx1
          refine tr_oneE fun K hK => ?_
          simp only [sel, List.map_cons, List.map_nil, List.getD_cons_succ, List.getD_cons_zero]
          refine wpQuiet_nil ?_
          go_wp2_with (at_builtin; refine Lib.wpList_append_run _ rfl _ _ _ _ rfl _ _ rfl rfl _ _ HR1.out ?_)
          refine norm_up (hK _ _ (Lr_early (by decide) HB1.out) ?_)
          clear hK K
          refine tr_oneE fun K hK => ?_
          simp only [sel, List.map_cons, List.map_nil, List.getD_cons_succ, List.getD_cons_zero]
          refine wpQuiet_nil ?_
          go_wp2_with (at_builtin; refine Lib.wpList_append_run _ rfl _ _ _ _ rfl _ _ rfl rfl _ _ HR2.out ?_)
          refine norm_up (hK _ _ (Lr_early (by decide) HB2.out) ?_)
          clear hK K
          refine tr_oneL fun K hK => ?_
          simp only [sel, List.map_cons, List.map_nil, List.getD_cons_succ, List.getD_cons_zero]
          repeat (go_big_quiet_step (fail))
          refine wpQuiet_nil ?_
          go_wp2
          refine norm_up (hK _ _ (Lr_late (by decide) ((kept_set _ m 2 _).mono fun _ _ e => .inr e)) ?_)
          clear hK K c9 f9
          refine tr_lastL fun K hK => ?_
          simp only [sel, List.map_cons, List.map_nil, List.getD_cons_succ, List.getD_cons_zero]
          refine wpQuiet_nil (hK _ ?_)
          clear hK K
          go_wp2
          go_roundg (gk - 1)
          case measure => have := HG.out; omega
          case rel => exact ⟨j + 1, by have := HG.out; omega, by go_num, HM9.out.1, HM9.out.2⟩
      · obtain rfl : j = N := by have := HG.out; omega
        have hus : us.take j = us := by rw [← HUL.out, List.take_length]
        rw [hus] at HMR
        have HEND : Hid (TQ m d w us ⟨b.W.drop j, b.O ++ fsts us, b.A⟩ (.returned (.slice A0 us.length j)) wr) := ⟨A0, j, rfl, by
          rw [HUL.out]
          exact (HT.out.more HKR.out.size).kept HKR.out fun x hx e => (HOF.out x hx).1 e, HMR.out, HKR.out⟩
        clear HMR HKR hus
        go_wp2
        go_ret
        have := HEND.out
        rwa [HUL.out] at this
end
end Go.Proofs.Ytmealcbcphfpdaa.MRefK
