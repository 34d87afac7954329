/-
  For every input the call of lavabolaw14.HistFails returns true and leaves its arguments as they were; no condition.
-/
import Derived.Test.YtjdlpknflhgkfaaTold14
import Derived.Test.YtjdlpknflhgkfaaHsTop
import Derived.Test.YtjdlpknflhgkfaaHsHist
import Derived.Test.YtjdlpknflhgkfaaRows
import Derived.WalkKit
import Derived.ProofKit
import Derived.OpenShut
import Derived.ShutString
import Derived.ChangeOld
import Derived.Below
namespace Go.Proofs.Ytjdlpknflhgkfaa.histFails
open Go.ChangeShapes Go.WideShapes Go.ChangeAt Go.RowKit
open Go.ChangeMaps (open_string shut_string)
open Go.Proofs.Ytjdlpknflhgkfaa.Mem Go.Proofs.Ytjdlpknflhgkfaa.Blk Go.Proofs.Ytjdlpknflhgkfaa.Cells Go.Proofs.Ytjdlpknflhgkfaa.MdM Go.Proofs.Ytjdlpknflhgkfaa.MdC Go.Proofs.Ytjdlpknflhgkfaa.HsM Go.Proofs.Ytjdlpknflhgkfaa.HsE Go.Proofs.Ytjdlpknflhgkfaa.HsB Go.Proofs.Ytjdlpknflhgkfaa.HsC Go.Proofs.Ytjdlpknflhgkfaa.HsO Go.Proofs.Ytjdlpknflhgkfaa.HsRO Go.Proofs.Ytjdlpknflhgkfaa.HsRC Go.Proofs.Ytjdlpknflhgkfaa.HsRS Go.Proofs.Ytjdlpknflhgkfaa.HsK Go.Proofs.Ytjdlpknflhgkfaa.HsT Go.Proofs.Ytjdlpknflhgkfaa.HsF Go.Proofs.Ytjdlpknflhgkfaa.HsW Go.Proofs.Ytjdlpknflhgkfaa.HsR Go.Proofs.Ytjdlpknflhgkfaa.HsRm Go.Proofs.Ytjdlpknflhgkfaa.HsMk Go.Proofs.Ytjdlpknflhgkfaa.HsMake Go.Proofs.Ytjdlpknflhgkfaa.HsRest Go.Proofs.Ytjdlpknflhgkfaa.PmM Go.Proofs.Ytjdlpknflhgkfaa.PmC Go.Proofs.Ytjdlpknflhgkfaa.MdI Go.Proofs.Ytjdlpknflhgkfaa.Trees Go.Proofs.Ytjdlpknflhgkfaa.HsRS Go.Proofs.Ytjdlpknflhgkfaa.Calls13 Go.Proofs.Ytjdlpknflhgkfaa.Args13 Go.Proofs.Ytjdlpknflhgkfaa.Told14 Go.Proofs.Ytjdlpknflhgkfaa.Stages
set_option linter.unusedVariables false

theorem own : ownKnob Try.prog.godebug = none := by kernel_rfl
theorem laidOut : laidOutB Try.prog = true := by kernel_rfl

theorem op_box (w : World) (k p h o n s : Value) : Blk (w.alloc (.cells #[k, p, h, o, n, s] 25)) w.heap.size 25 [k, p, h, o, n, s] ∧ Grow w (w.alloc (.cells #[k, p, h, o, n, s] 25)) := ⟨Blk.new w _ _, (Kept.refl _ _).alloc _⟩
set_option maxHeartbeats 8000000 in
set_option maxRecDepth 100000 in
theorem walk (a0 : Option Addr) (len0 cap0 : Nat) (a1 : Option Addr) (len1 cap1 : Nat) (a2 : Int) (a3 : Int) (w : World) (w0 : CallsAt w a0 len0 cap0) (w1 : IntsAt w a1 len1 cap1) (w2 : (Lit.int .i64 a2).wf = true) (w3 : (Lit.int .i64 a3).wf = true) :
    Calls Try.prog 7 #[.slice a0 len0 cap0, .slice a1 len1 cap1, .int .i64 a2, .int .i64 a3] w fun e w' => e = .returned (.bool true) ∧ Below w.heap.size w w' := by
  have k2 := bounds_i64 w2
  have k3 := bounds_i64 w3
  have HCA := Lib.hid w0
  obtain ⟨hlc, hcm, hops⟩ := w0
  obtain ⟨ds, hwt⟩ := w1
  unfold maxLen at hcm
  have HOPS := Lib.hid hops
  have HWT := Lib.hid hwt
  clear hops hwt
  go_enter Try.func7, Try.ntmps7
  by_cases h40 : 40 < len0
  · have h40z : (40 : Int) < (len0 : Int) := by omega
    go_wp2_with (go_at_call 10; (with_reducible refine (told_any _).mono ?_); rintro e wt ⟨rfl, hge⟩; have HGE := Lib.hid hge; clear hge)
    go_ret
    exact ⟨rfl, Grow.below HGE.out⟩
  have h40z : (len0 : Int) ≤ 40 := by omega
  go_wp2
  go_loopg [9] len0 (fun gx v9 wx => ∃ j : Nat, j + gx = len0 ∧ v9 = .int .i64 (j : Int) ∧ wx = w)
  case atStart => exact ⟨0, by omega, rfl, rfl⟩
  case round =>
    obtain ⟨j, hg, rfl, hwx⟩ := hrel
    subst hwx
    have HG := Lib.hid hg
    clear hg
    by_cases hj : j < len0
    · have hjz : (j : Int) < (len0 : Int) := by omega
      have HJ := Lib.hid hj
      obtain ⟨ab, ao, rfl, hab, hall⟩ := HOPS.out (by omega)
      obtain ⟨x, hx⟩ := hall j hj
      have cd := hx.d
      clear hall hx hj hab
      by_cases h41 : 40 < x.len
      · have h41y : (40 : Int) < (x.len : Int) := by omega
        go_wp2_with (go_at_call 10; (with_reducible refine (told_any _).mono ?_); rintro e wt ⟨rfl, hge⟩; have HGE := Lib.hid hge; clear hge)
        go_ret
        exact ⟨rfl, Grow.below HGE.out⟩
      have h41y : (x.len : Int) ≤ 40 := by omega
      clear h41
      go_wp2
      go_roundg (gk - 1)
      case measure => have := HG.out; have := HJ.out; omega
      case rel => exact ⟨j + 1, by have := HG.out; have := HJ.out; omega, by go_num, rfl⟩
    · have hjN : j = len0 := by have := HG.out; omega
      subst hjN
      clear hj HOPS HG
      have CG := Lib.hid (good_any HCA.out (by omega) HWT.out cap1)
      obtain ⟨d, hd, hd3⟩ := tmod_nat a3 3 (by omega)
      obtain ⟨q, hq, hq8⟩ := tmod_nat a2 8 (by omega)
      simp only [Int.cast_ofNat_Int] at hd hq
      have hdz : (d : Int) < 3 := by omega
      have hqz : (q : Int) < 8 := by omega
      go_upto_region 9 with (go_at_call 24; (with_reducible refine CG.out.mono ?_); rintro e w1 ⟨A, c, M, a, now, O, rfl, h1, h2, hev, hI, hnow, hf, hg⟩; have HG1 := Lib.hid hg; have HEV := Lib.hid hev; have HFI := Lib.hid hf; have HI := Lib.hid hI; have HNOW := Lib.hid hnow; clear h1 h2 hev hI hnow hf hg)
      clear CG
      have hn5 : j ≤ 100000 := by omega
      have HT : Hid (∀ i, i < j → (M i).b ≤ 300 ∧ (M i).s ≤ 300 ∧ (M i).e ≤ 300) := fun i hi => by
        have h1 := HI.out.tm i hi
        have h2 := HNOW.out
        have h3 := HI.out.bg i hi
        refine ⟨?_, ?_, ?_⟩ <;> omega
      go_wp2
      clear hd
      have HD3 := Lib.hid hd3
      clear hd3
      obtain ⟨gO, hgO⟩ : ∃ g, g = gk := ⟨_, rfl⟩
      subst hgO
      obtain ⟨wo, rfl⟩ : ∃ wo, wo = wr := ⟨_, rfl⟩
      go_loopg [12] j (fun gx v12 wx => ∃ i : Nat, i + gx = j ∧ v12 = .int .i64 (i : Int) ∧ wx = w1 ∧ ∀ t, t < i → (M t).c = (d : Int) → (M t).e ≠ 0)
      case atStart => exact ⟨0, by omega, rfl, rfl, fun t ht => absurd ht (Nat.not_lt_zero t)⟩
      case round =>
        obtain ⟨i, hg, rfl, hwx, hno⟩ := hrel
        replace hwx := hwx.symm
        subst hwx
        have HG := Lib.hid hg
        have HNO := Lib.hid hno
        clear hg hno
        by_cases hi : i < j
        · have hiz : (i : Int) < (j : Int) := by omega
          have HJ := Lib.hid hi
          obtain ⟨b, off, Q, rfl, hall⟩ := evs_parts HEV.out (by omega)
          have e0 : w1.cell? ⟨b, off + i * 14 + 0, none⟩ = some (.int .i64 (M i).c) := (hall i hi).1 0 (by omega)
          have e13 : w1.cell? ⟨b, off + i * 14 + 13, none⟩ = some (.int .i64 (M i).e) := (hall i hi).1 13 (by omega)
          rw [Nat.add_zero] at e0
          clear hall hi
          by_cases hc : (M i).c = (d : Int)
          · by_cases he : (M i).e = 0
            · rw [hc] at e0
              rw [he] at e13
              clear hc he
              go_wp2_with (go_at_call 10; (with_reducible refine (told_any _).mono ?_); rintro e wt ⟨rfl, hge⟩; have HGE := Lib.hid hge; clear hge)
              go_ret
              exact ⟨rfl, Grow.below (HG1.out.trans HGE.out)⟩
            · have HE := Lib.hid he
              have hez : ((M i).e == 0) = false := beq_eq_false_iff_ne.2 he
              rw [hc] at e0
              clear hc he
              go_wp2
              go_roundg (gk - 1)
              case measure => have := HG.out; have := HJ.out; omega
              case rel => exact ⟨i + 1, by have := HG.out; have := HJ.out; omega, by go_num, rfl, fun t ht hc => by
                by_cases e : t = i
                · subst e; exact HE.out
                · exact HNO.out t (by omega) hc⟩
          · have HC := Lib.hid hc
            have hcz : ((M i).c == (d : Int)) = false := beq_eq_false_iff_ne.2 hc
            clear hc
            go_wp2
            go_roundg (gk - 1)
            case measure => have := HG.out; have := HJ.out; omega
            case rel => exact ⟨i + 1, by have := HG.out; have := HJ.out; omega, by go_num, rfl, fun t ht hc => by
              by_cases e : t = i
              · subst e; exact absurd hc HC.out
              · exact HNO.out t (by omega) hc⟩
        · obtain rfl : i = j := by have := HG.out; omega
          clear hi HG
          have CFI := Lib.hid (final_any HEV.out hn5 5 3 c)
          go_upto_region 16 with (go_at_call 13; (with_reducible refine CFI.out.mono ?_); rintro e w3 ⟨X1, n1, c1, X2, n2, c2, X3, n3, c3, b1, rfl, hb, hs, hg⟩; obtain rfl : b1 = true := hb.2 ⟨_, HFI.out⟩; have HS1 := Lib.hid (hs _ HFI.out); have HG3 := Lib.hid hg; clear hb hs hg)
          obtain ⟨hbs, hgs⟩ := st_box w3 (.slice X1 n1 c1) (.slice X2 n2 c2) (.slice X3 n3 c3)
          generalize w3.alloc (.cells #[.slice X1 n1 c1, .slice X2 n2 c2, .slice X3 n3 c3] 39) = w4 at hbs hgs ⊢
          generalize w3.heap.size = gs at hbs ⊢
          have HG4 : Hid (Grow w1 w4) := HG3.out.trans hgs
          have HP4 := Lib.hid (HS1.out.grow hgs)
          have HBS := Lib.hid hbs
          clear hbs hgs CFI
          go_upto_region 17 with (fail)
          obtain ⟨hbo, hgo⟩ := op_box w4 (.int .i64 (1 + (q : Int))) (.int .i64 0) (.int .i64 0) (.int .i64 0) (.int .i64 0) (.slice none 0 0)
          generalize w4.alloc (.cells #[.int .i64 (1 + (q : Int)), .int .i64 0, .int .i64 0, .int .i64 0, .int .i64 0, .slice none 0 0] 25) = w5 at hbo hgo ⊢
          generalize w4.heap.size = go at hbo ⊢
          have HBO := Lib.hid hbo
          have HG5 : Hid (Grow w1 w5) := HG4.out.trans hgo
          have HP5 := Lib.hid (HP4.out.grow hgo)
          have HBS5 := Lib.hid (HBS.out.grow hgo)
          have HEV5 := Lib.hid (HEV.out.grow HG5.out)
          clear hbo hgo hq
          obtain ⟨xe, hxe⟩ : ∃ xe : Ev, xe = ⟨(d : Int), ⟨1 + (q : Int), 0, 0, 0, 0, []⟩, ⟨9, 0, 0, []⟩, 10000, 10001, 10002⟩ := ⟨_, rfl⟩
          have HXE := Lib.hid hxe
          have HRNG : Hid (Rng xe) := by rw [hxe]; show Rng _; unfold Rng I64; dsimp only; omega
          have HDD : Hid (xe.o.d = [] ∧ xe.r.d = []) := by rw [hxe]; exact ⟨rfl, rfl⟩
          have HOPN : Hid (∀ t, t < i → (M t).c = xe.c → (M t).e ≠ 0) := by rw [hxe]; exact HNO.out
          have HXC : Hid (0 ≤ xe.c ∧ xe.c < 3) := by rw [hxe]; have := HD3.out; exact ⟨by dsimp only; omega, by dsimp only; omega⟩
          have HXT : Hid (0 < xe.b ∧ 300 < xe.b ∧ (xe.b ≤ xe.s ∧ xe.s ≤ xe.e)) := by rw [hxe]; exact ⟨(by dsimp only; omega), (by dsimp only; omega), (by dsimp only; omega), (by dsimp only; omega)⟩
          clear hxe
          go_cut [16] (fun s16 wx => ∃ g cap, s16 = .slice (some ⟨g, 0, none⟩) (i + 1) cap ∧ (i + 1 ≤ cap ∧ cap ≤ maxLen) ∧ EvsAt wx Any (some ⟨g, 0, none⟩) (i + 1) (updE M i xe) ∧ Grow w5 wx)
          case first =>
            have HS5 : Hid (∃ s, s = w5.heap.size) := ⟨_, rfl⟩
            obtain ⟨s, hs⟩ := HS5.out
            have HS := Lib.hid hs
            clear HS5
            have HOF : Hid (¬ (s ≤ go)) := by have := HBO.out.lt; show ¬ (s ≤ go); omega
            have z0 := HBO.out.cell 0
            have z1 := HBO.out.cell 1
            have z2 := HBO.out.cell 2
            have z3 := HBO.out.cell 3
            have z4 := HBO.out.cell 4
            have z5 := HBO.out.cell 5
            simp only [List.getElem?_cons_zero, List.getElem?_cons_succ] at z0 z1 z2 z3 z4 z5
            replace z0 := up_cell (F := (s ≤ ·)) (w := w5.drew) z0 HOF.out
            replace z1 := up_cell (F := (s ≤ ·)) (w := w5.drew) z1 HOF.out
            replace z2 := up_cell (F := (s ≤ ·)) (w := w5.drew) z2 HOF.out
            replace z3 := up_cell (F := (s ≤ ·)) (w := w5.drew) z3 HOF.out
            replace z4 := up_cell (F := (s ≤ ·)) (w := w5.drew) z4 HOF.out
            replace z5 := up_cell (F := (s ≤ ·)) (w := w5.drew) z5 HOF.out
            clear hs
            refine wp_region_tree (Kept (s ≤ ·)) (Kept (s ≤ ·)) (kept_refl _) (kept_trans _) (kept_refl _) (kept_trans _) (fun _ _ h => h) [] (.two true [1, 3, 4, 5, 6] 0 (.two true [] 2 (.one true [] 7 (.one true [] 8 (.last false [9]))) 7 (.one true [] 2 (.one true [] 8 (.last false [9])))) 7 (.one true [] 0 (.one true [] 2 (.one true [] 8 (.last false [9]))))) (by kernel_rfl) (by kernel_rfl) ?_
            refine tr_twoE fun K1 hK1 K2 hK2 => ?_
            simp only [sel, List.map_cons, List.map_nil, List.getD_cons_succ, List.getD_cons_zero]
            repeat (go_big_quiet_step (fail))
            refine wpQuiet_nil ?_
            clear z0 z1 z2 z3 z4 z5
            refine ⟨?_, ?_⟩
            · go_wp2
              refine norm_up (hK1 _ _ (Lr_early (by decide) ((Kept.refl _ _).alloc _)) ?_)
              clear hK1 hK2 K1 K2
              rw [← HS.out]
              have HG1 : Hid (Grow w5 (w5.alloc (.cells #[] 29)).drew) := ((Kept.refl _ w5).alloc _).drew
              have HL1 : Hid ((w5.alloc (.cells #[] 29)).drew.ownsRow s 29 14 (.slice (some ⟨s, 0, none⟩) 0 0) 0 []) := by rw [HS.out]; exact ev_lit w5
              have HZ1 : Hid ((w5.alloc (.cells #[] 29)).drew.heap.size = s + 1) := by rw [HS.out]; show (w5.alloc _).heap.size = _; simp
              generalize (w5.alloc (.cells #[] 29)).drew = u1 at HG1 HL1 HZ1 ⊢
              refine tr_twoE fun K1 hK1 K2 hK2 => ?_
              simp only [sel, List.map_cons, List.map_nil, List.getD_cons_succ, List.getD_cons_zero]
              refine wpQuiet_nil ?_
              refine ⟨?_, ?_⟩
              · obtain ⟨v2, u2, Q2, hr2, hrow2, hk2⟩ := copy_at 30 HEV5.out HG1.out hn5 c HL1.out (Nat.le_of_eq HS.out.symm) (by have := HZ1.out; omega)
                have HR2 := Lib.hid hr2
                have HROW2 := Lib.hid hrow2
                have HK2 := Lib.hid hk2
                clear hr2 hrow2 hk2
                go_wp2_with (at_builtin; refine Lib.wpList_append_run _ rfl _ _ _ _ rfl _ _ rfl rfl _ _ HR2.out ?_)
                refine norm_up (hK1 _ _ (Lr_early (by decide) (HK2.out.mono fun k _ (e : k = s) => by show s ≤ k; omega)) ?_)
                clear hK1 hK2 K1 K2
                refine tr_oneE fun K hK => ?_
                simp only [sel, List.map_cons, List.map_nil, List.getD_cons_succ, List.getD_cons_zero]
                refine wpQuiet_nil ?_
                go_wp2
                refine norm_up (hK _ _ (Lr_early (by decide) ((Kept.refl _ _).alloc _)) ?_)
                clear hK K
                have HB3 : Hid (Blk (u2.alloc (.cells #[.int .i64 (d : Int), .int .i64 (1 + (q : Int)), .int .i64 0, .int .i64 0, .int .i64 0, .int .i64 0, .slice none 0 0, .int .i64 9, .int .i64 0, .int .i64 0, .slice none 0 0, .int .i64 10000, .int .i64 10001, .int .i64 10002] 29)) u2.heap.size 29 (evq xe ad0)) := by rw [HXE.out]; exact Blk.new u2 _ _
                have HG3 : Hid (Grow u2 (u2.alloc (.cells #[.int .i64 (d : Int), .int .i64 (1 + (q : Int)), .int .i64 0, .int .i64 0, .int .i64 0, .int .i64 0, .slice none 0 0, .int .i64 9, .int .i64 0, .int .i64 0, .slice none 0 0, .int .i64 10000, .int .i64 10001, .int .i64 10002] 29))) := (Kept.refl _ u2).alloc _
                generalize u2.alloc (.cells #[.int .i64 (d : Int), .int .i64 (1 + (q : Int)), .int .i64 0, .int .i64 0, .int .i64 0, .int .i64 0, .slice none 0 0, .int .i64 9, .int .i64 0, .int .i64 0, .slice none 0 0, .int .i64 10000, .int .i64 10001, .int .i64 10002] 29) = u3 at HB3 HG3 ⊢
                generalize u2.heap.size = vb at HB3 ⊢
                have HROW3 := Lib.hid (HROW2.out.grow HG3.out)
                have HSZ : Hid (s ≤ u3.heap.size) := by have h1 := HZ1.out; have h2 := HK2.out.size; have h3 := HG3.out.size; show s ≤ _; omega
                have HGU : Hid (Kept (s ≤ ·) w5 u3) := (HG1.out.kept.trans (HK2.out.mono fun k _ (e : k = s) => by show s ≤ k; omega)).trans HG3.out.kept
                obtain ⟨g, cap, u4, hr4, h1, h2, hev4, hk4⟩ := more_row (c := 1) 30 HROW3.out hn5 HB3.out HRNG.out HDD.out HSZ.out
                have HR4 := Lib.hid hr4
                have HEV4 := Lib.hid hev4
                have HK4 := Lib.hid (hk4.mono (G := (s ≤ ·)) fun k _ (e : s ≤ k) => by show s ≤ k; omega)
                have HCP := Lib.hid (And.intro h1 h2)
                have HG4 : Hid (Grow w5 u4) := (Kept.refl (fun _ => False) w5).then (HGU.out.trans HK4.out) fun k hk (e : s ≤ k) => by have := HS.out; omega
                clear hr4 h1 h2 hev4 hk4
                refine tr_oneE fun K hK => ?_
                simp only [sel, List.map_cons, List.map_nil, List.getD_cons_succ, List.getD_cons_zero]
                refine wpQuiet_nil ?_
                go_wp2_with (at_builtin; refine Lib.wpList_append_run _ rfl _ _ _ _ rfl _ _ rfl rfl _ _ HR4.out ?_)
                refine norm_up (hK _ _ (Lr_early (by decide) HK4.out) ?_)
                clear hK K
                refine tr_lastL fun K hK => ?_
                simp only [sel, List.map_cons, List.map_nil, List.getD_cons_succ, List.getD_cons_zero]
                repeat (go_big_quiet_step (fail))
                refine wpQuiet_nil (hK _ ?_)
                clear hK K
                go_wp2_with fail
                go_meet
                case rel => exact ⟨g, cap, rfl, HCP.out, HEV4.out, HG4.out⟩
              · go_wp2
                refine norm_up (hK2 _ _ (Lr_early (by decide) ((Kept.refl _ _).alloc _)) ?_)
                clear hK1 hK2 K1 K2
                have HB2 : Hid (Blk (u1.alloc (.cells #[.int .i64 (d : Int), .int .i64 (1 + (q : Int)), .int .i64 0, .int .i64 0, .int .i64 0, .int .i64 0, .slice none 0 0, .int .i64 9, .int .i64 0, .int .i64 0, .slice none 0 0, .int .i64 10000, .int .i64 10001, .int .i64 10002] 29)) u1.heap.size 29 (evq xe ad0)) := by rw [HXE.out]; exact Blk.new u1 _ _
                have HG2 : Hid (Grow u1 (u1.alloc (.cells #[.int .i64 (d : Int), .int .i64 (1 + (q : Int)), .int .i64 0, .int .i64 0, .int .i64 0, .int .i64 0, .slice none 0 0, .int .i64 9, .int .i64 0, .int .i64 0, .slice none 0 0, .int .i64 10000, .int .i64 10001, .int .i64 10002] 29))) := (Kept.refl _ u1).alloc _
                have HL2 := Lib.hid (World.ownsRow.alloc HL1.out (.cells #[.int .i64 (d : Int), .int .i64 (1 + (q : Int)), .int .i64 0, .int .i64 0, .int .i64 0, .int .i64 0, .slice none 0 0, .int .i64 9, .int .i64 0, .int .i64 0, .slice none 0 0, .int .i64 10000, .int .i64 10001, .int .i64 10002] 29))
                generalize u1.alloc (.cells #[.int .i64 (d : Int), .int .i64 (1 + (q : Int)), .int .i64 0, .int .i64 0, .int .i64 0, .int .i64 0, .slice none 0 0, .int .i64 9, .int .i64 0, .int .i64 0, .slice none 0 0, .int .i64 10000, .int .i64 10001, .int .i64 10002] 29) = u2 at HB2 HG2 HL2 ⊢
                obtain ⟨vb, hvb⟩ : ∃ vb, vb = u1.heap.size := ⟨_, rfl⟩
                rw [← hvb] at HB2 ⊢
                have HVB : Hid (vb ≠ s) := by have := HZ1.out; show vb ≠ s; omega
                clear hvb
                obtain ⟨v2, u3, Q2, hr2, hrow2, hk2⟩ := copy_at 30 HEV5.out (HG1.out.trans HG2.out) hn5 c HL2.out (Nat.le_of_eq HS.out.symm) (by have h1 := HZ1.out; have h2 := HG2.out.size; omega)
                have HR2 := Lib.hid hr2
                have HROW3 := Lib.hid hrow2
                have HK2 := Lib.hid hk2
                clear hr2 hrow2 hk2
                refine tr_oneE fun K hK => ?_
                simp only [sel, List.map_cons, List.map_nil, List.getD_cons_succ, List.getD_cons_zero]
                refine wpQuiet_nil ?_
                go_wp2_with (at_builtin; refine Lib.wpList_append_run _ rfl _ _ _ _ rfl _ _ rfl rfl _ _ HR2.out ?_)
                refine norm_up (hK _ _ (Lr_early (by decide) (HK2.out.mono fun k _ (e : k = s) => by show s ≤ k; omega)) ?_)
                clear hK K
                have HB3 := Lib.hid (HB2.out.kept HK2.out HVB.out)
                have HSZ : Hid (s ≤ u3.heap.size) := by have h1 := HZ1.out; have h2 := HK2.out.size; have h3 := HG2.out.size; show s ≤ _; omega
                have HGU : Hid (Kept (s ≤ ·) w5 u3) := (HG1.out.kept.trans HG2.out.kept).trans (HK2.out.mono fun k _ (e : k = s) => by show s ≤ k; omega)
                obtain ⟨g, cap, u4, hr4, h1, h2, hev4, hk4⟩ := more_row (c := 1) 30 HROW3.out hn5 HB3.out HRNG.out HDD.out HSZ.out
                have HR4 := Lib.hid hr4
                have HEV4 := Lib.hid hev4
                have HK4 := Lib.hid (hk4.mono (G := (s ≤ ·)) fun k _ (e : s ≤ k) => by show s ≤ k; omega)
                have HCP := Lib.hid (And.intro h1 h2)
                have HG4 : Hid (Grow w5 u4) := (Kept.refl (fun _ => False) w5).then (HGU.out.trans HK4.out) fun k hk (e : s ≤ k) => by have := HS.out; omega
                clear hr4 h1 h2 hev4 hk4
                refine tr_oneE fun K hK => ?_
                simp only [sel, List.map_cons, List.map_nil, List.getD_cons_succ, List.getD_cons_zero]
                refine wpQuiet_nil ?_
                go_wp2_with (at_builtin; refine Lib.wpList_append_run _ rfl _ _ _ _ rfl _ _ rfl rfl _ _ HR4.out ?_)
                refine norm_up (hK _ _ (Lr_early (by decide) HK4.out) ?_)
                clear hK K
                refine tr_lastL fun K hK => ?_
                simp only [sel, List.map_cons, List.map_nil, List.getD_cons_succ, List.getD_cons_zero]
                repeat (go_big_quiet_step (fail))
                refine wpQuiet_nil (hK _ ?_)
                clear hK K
                go_wp2_with fail
                go_meet
                case rel => exact ⟨g, cap, rfl, HCP.out, HEV4.out, HG4.out⟩
            · go_wp2
              refine norm_up (hK2 _ _ (Lr_early (by decide) ((Kept.refl _ _).alloc _)) ?_)
              clear hK1 hK2 K1 K2
              have HB1 : Hid (Blk (w5.alloc (.cells #[.int .i64 (d : Int), .int .i64 (1 + (q : Int)), .int .i64 0, .int .i64 0, .int .i64 0, .int .i64 0, .slice none 0 0, .int .i64 9, .int .i64 0, .int .i64 0, .slice none 0 0, .int .i64 10000, .int .i64 10001, .int .i64 10002] 29)).drew w5.heap.size 29 (evq xe ad0)) := by rw [HXE.out]; exact (Blk.new w5 _ _).drew
              have HG1 : Hid (Grow w5 (w5.alloc (.cells #[.int .i64 (d : Int), .int .i64 (1 + (q : Int)), .int .i64 0, .int .i64 0, .int .i64 0, .int .i64 0, .slice none 0 0, .int .i64 9, .int .i64 0, .int .i64 0, .slice none 0 0, .int .i64 10000, .int .i64 10001, .int .i64 10002] 29)).drew) := ((Kept.refl _ w5).alloc _).drew
              have HZ1 : Hid ((w5.alloc (.cells #[.int .i64 (d : Int), .int .i64 (1 + (q : Int)), .int .i64 0, .int .i64 0, .int .i64 0, .int .i64 0, .slice none 0 0, .int .i64 9, .int .i64 0, .int .i64 0, .slice none 0 0, .int .i64 10000, .int .i64 10001, .int .i64 10002] 29)).drew.heap.size = w5.heap.size + 1) := by show (w5.alloc _).heap.size = _; simp
              generalize (w5.alloc (.cells #[.int .i64 (d : Int), .int .i64 (1 + (q : Int)), .int .i64 0, .int .i64 0, .int .i64 0, .int .i64 0, .slice none 0 0, .int .i64 9, .int .i64 0, .int .i64 0, .slice none 0 0, .int .i64 10000, .int .i64 10001, .int .i64 10002] 29)).drew = u1 at HB1 HG1 HZ1 ⊢
              rw [← HS.out] at HB1 HZ1 ⊢
              refine tr_oneE fun K hK => ?_
              simp only [sel, List.map_cons, List.map_nil, List.getD_cons_succ, List.getD_cons_zero]
              refine wpQuiet_nil ?_
              go_wp2
              refine norm_up (hK _ _ (Lr_early (by decide) ((Kept.refl _ _).alloc _)) ?_)
              clear hK K
              have HG2 : Hid (Grow u1 (u1.alloc (.cells #[] 29))) := (Kept.refl _ u1).alloc _
              have HL2 := Lib.hid (ev_lit u1)
              have HB2 := Lib.hid (HB1.out.grow HG2.out)
              generalize u1.alloc (.cells #[] 29) = u2 at HG2 HL2 HB2 ⊢
              rw [HZ1.out] at HL2 ⊢
              obtain ⟨v2, u3, Q2, hr2, hrow2, hk2⟩ := copy_at 30 HEV5.out (HG1.out.trans HG2.out) hn5 c HL2.out (by have := HS.out; omega) (by have h1 := HZ1.out; have h2 := HG2.out.size; omega)
              have HR2 := Lib.hid hr2
              have HROW3 := Lib.hid hrow2
              have HK2 := Lib.hid hk2
              clear hr2 hrow2 hk2
              refine tr_oneE fun K hK => ?_
              simp only [sel, List.map_cons, List.map_nil, List.getD_cons_succ, List.getD_cons_zero]
              refine wpQuiet_nil ?_
              go_wp2_with (at_builtin; refine Lib.wpList_append_run _ rfl _ _ _ _ rfl _ _ rfl rfl _ _ HR2.out ?_)
              refine norm_up (hK _ _ (Lr_early (by decide) (HK2.out.mono fun k _ (e : k = s + 1) => by show s ≤ k; omega)) ?_)
              clear hK K
              have HB3 := Lib.hid (HB2.out.kept HK2.out fun (e : s = s + 1) => by omega)
              have HSZ : Hid (s + 1 ≤ u3.heap.size) := by have h1 := HZ1.out; have h2 := HK2.out.size; have h3 := HG2.out.size; show s + 1 ≤ _; omega
              have HGU : Hid (Kept (s ≤ ·) w5 u3) := (HG1.out.kept.trans HG2.out.kept).trans (HK2.out.mono fun k _ (e : k = s + 1) => by show s ≤ k; omega)
              obtain ⟨g, cap, u4, hr4, h1, h2, hev4, hk4⟩ := more_row (c := 1) 30 HROW3.out hn5 HB3.out HRNG.out HDD.out HSZ.out
              have HR4 := Lib.hid hr4
              have HEV4 := Lib.hid hev4
              have HK4 := Lib.hid (hk4.mono (G := (s ≤ ·)) fun k _ (e : s + 1 ≤ k) => by show s ≤ k; omega)
              have HCP := Lib.hid (And.intro h1 h2)
              have HG4 : Hid (Grow w5 u4) := (Kept.refl (fun _ => False) w5).then (HGU.out.trans HK4.out) fun k hk (e : s ≤ k) => by have := HS.out; omega
              clear hr4 h1 h2 hev4 hk4
              refine tr_oneE fun K hK => ?_
              simp only [sel, List.map_cons, List.map_nil, List.getD_cons_succ, List.getD_cons_zero]
              refine wpQuiet_nil ?_
              go_wp2_with (at_builtin; refine Lib.wpList_append_run _ rfl _ _ _ _ rfl _ _ rfl rfl _ _ HR4.out ?_)
              refine norm_up (hK _ _ (Lr_early (by decide) HK4.out) ?_)
              clear hK K
              refine tr_lastL fun K hK => ?_
              simp only [sel, List.map_cons, List.map_nil, List.getD_cons_succ, List.getD_cons_zero]
              repeat (go_big_quiet_step (fail))
              refine wpQuiet_nil (hK _ ?_)
              clear hK K
              go_wp2_with fail
              go_meet
              case rel => exact ⟨g, cap, rfl, HCP.out, HEV4.out, HG4.out⟩
          case rest =>
            obtain ⟨g, cap, rfl, hcp, hev, hgr⟩ := hcut
            have HEV6 := Lib.hid hev
            have HG6 := Lib.hid hgr
            have HCP := Lib.hid hcp
            have hn6 : i + 1 ≤ 100000 := by omega
            clear hev hgr hcp
            have CFX := Lib.hid (final_any HEV6.out hn6 5 3 cap)
            have CB : Hid (∀ wx, Calls Try.prog 20 #[.agg #[.int .i64 (1 + (q : Int)), .int .i64 0, .int .i64 0, .int .i64 0, .int .i64 0, .slice none 0 0], .int .i64 9] wx (Tells (badC (1 + (q : Int)) 9) wx)) := fun wx => bad_any _ _ _ _ _ _ _ _ _ wx
            have ho6 := HBO.out.grow HG6.out
            by_cases hbad : badC (1 + (q : Int)) 9
            · have HFX : Hid (Fin (updE M i xe) (i + 1) 5 3 a) := more_bad HFI.out HT.out HXC.out HXT.out.1 HXT.out.2.1 HXT.out.2.2 HOPN.out (by rw [HXE.out]; exact ⟨hbad, rfl, rfl, rfl⟩)
              have HBAD := Lib.hid hbad
              clear hbad
              go_upto_region 19 with (go_at_call 13; (with_reducible refine CFX.out.mono ?_); rintro e w7 ⟨Z1, l1, e1, Z2, l2, e2, Z3, l3, e3, b2, rfl, hb, hs, hg⟩; obtain rfl : b2 = true := hb.2 ⟨_, HFX.out⟩; have HS2 := Lib.hid (hs _ HFX.out); have HG7 := Lib.hid hg; clear hb hs hg)
              obtain ⟨hbt, hgt⟩ := st_box w7 (.slice Z1 l1 e1) (.slice Z2 l2 e2) (.slice Z3 l3 e3)
              generalize w7.alloc (.cells #[.slice Z1 l1 e1, .slice Z2 l2 e2, .slice Z3 l3 e3] 39) = w8 at hbt hgt ⊢
              generalize w7.heap.size = gt at hbt ⊢
              have HG8 : Hid (Grow wc w8) := HG7.out.trans hgt
              have HP8 := Lib.hid (HS2.out.grow hgt)
              have HBT := Lib.hid hbt
              clear hbt hgt CFX
              have ho8 := ho6.grow HG8.out
              have o0 := ho8.cell 0
              have o1 := ho8.cell 1
              have o2 := ho8.cell 2
              have o3 := ho8.cell 3
              have o4 := ho8.cell 4
              have o5 := ho8.cell 5
              simp only [List.getElem?_cons_zero, List.getElem?_cons_succ] at o0 o1 o2 o3 o4 o5
              clear ho6 ho8
              have CRF : Hid (∀ wx, Grow w5 wx → Calls Try.prog 14 #[.slice A i c, .int .i64 5, .int .i64 3] wx (RFinP M i 5 3 wx)) := fun wx hg => rfinal_any (HEV5.out.grow hg) hn5 5 3 c
              go_upto_region 22 with (first
                | (go_at_call 20; (with_reducible refine (CB.out _).mono ?_); rintro e wg ⟨⟨x1, rfl, hx⟩, hg⟩; obtain rfl : x1 = true := hx.2 HBAD.out; have HGG := Lib.hid hg; clear hx hg)
                | (go_at_call 14; (with_reducible refine (CRF.out _ ((HG6.out.trans HG8.out).trans HGG.out)).mono ?_); rintro e w9 ⟨Y1, m1, d1, Y2, m2, d2, Y3, m3, d3, b3, rfl, hb, hs, hg⟩; have HS3 := Lib.hid (hs _ HFI.out); have HGF := Lib.hid hg; clear hb hs hg))
              obtain ⟨hbx, hgx⟩ := s_box w9 (.slice Y1 m1 d1) (.slice Y2 m2 d2) (.slice Y3 m3 d3)
              generalize w9.alloc (.cells #[.slice Y1 m1 d1, .slice Y2 m2 d2, .slice Y3 m3 d3] 44) = w10 at hbx hgx ⊢
              generalize w9.heap.size = gx at hbx ⊢
              have HGA : Hid (Grow w8 w10) := (HGG.out.trans HGF.out).trans hgx
              have HGB : Hid (Grow w5 w10) := (HG6.out.trans HG8.out).trans HGA.out
              have HPS := Lib.hid (HP5.out.grow HGB.out)
              have HPT := Lib.hid (HP8.out.grow HGA.out)
              have HSX := Lib.hid (HS3.out.grow hgx)
              have HBX := Lib.hid hbx
              have HBSX := Lib.hid (HBS5.out.grow HGB.out)
              have HBTX := Lib.hid (HBT.out.grow HGA.out)
              clear hbx hgx o0 o1 o2 o3 o4 o5
              go_wp2_with (first
                | (go_at_call 10; (with_reducible refine (told_any _).mono ?_); rintro e wt ⟨rfl, hge⟩; have HGE := Lib.hid hge; have h5 := HBX.out.grow hge; have h6 := HBSX.out.grow hge; have h7 := HBTX.out.grow hge; have x0 := h5.cell 0; have x1 := h5.cell 1; have x2 := h5.cell 2; have z0 := h6.cell 0; have z1 := h6.cell 1; have z2 := h6.cell 2; simp only [List.getElem?_cons_zero, List.getElem?_cons_succ] at x0 x1 x2 z0 z1 z2; clear hge h5 h6 h7)
                | (go_at_call 19; (with_reducible refine (is_true (HSX.out.grow HGE.out) (HPS.out.grow HGE.out).seen).mono ?_); rintro e ws ⟨rfl, hge⟩; have HGI := Lib.hid (HGE.out.trans hge); have h5 := HBX.out.grow HGI.out; have h7 := HBTX.out.grow HGI.out; have x0 := h5.cell 0; have x1 := h5.cell 1; have x2 := h5.cell 2; have y0 := h7.cell 0; have y1 := h7.cell 1; have y2 := h7.cell 2; simp only [List.getElem?_cons_zero, List.getElem?_cons_succ] at x0 x1 x2 y0 y1 y2; clear hge h5 h7)
                | (go_at_call 19; (with_reducible refine (is_true (HSX.out.grow HGI.out) (HPT.out.grow HGI.out).seen).mono ?_); rintro e wv ⟨rfl, hge⟩; have HGV := Lib.hid (HGI.out.trans hge); clear hge))
              go_ret
              exact ⟨rfl, Grow.below ((HG1.out.trans HG5.out).trans (HGB.out.trans HGV.out))⟩
            · have HCX : Hid (Chk (updE M i xe) (i + 1) 5 3 ((i : Int) + 1)) := more_no HFI.out HT.out HXC.out HXT.out.1 HXT.out.2.1 HXT.out.2.2 HOPN.out (by rw [HXE.out]; exact hbad) (by rw [HXE.out]; dsimp only; omega)
              have HBAD := Lib.hid hbad
              clear hbad
              have HNF : Hid (¬ ∃ a, Fin (updE M i xe) (i + 1) 5 3 a) := fun h => by have := (fin_iff HCX.out).2 h; omega
              go_upto_region 19 with (go_at_call 13; (with_reducible refine CFX.out.mono ?_); rintro e w7 ⟨Z1, l1, e1, Z2, l2, e2, Z3, l3, e3, b2, rfl, hb, hs, hg⟩; obtain rfl : b2 = false := Bool.eq_false_iff.2 fun h => HNF.out (hb.1 h); have HG7 := Lib.hid hg; clear hb hs hg)
              obtain ⟨hbt, hgt⟩ := st_box w7 (.slice Z1 l1 e1) (.slice Z2 l2 e2) (.slice Z3 l3 e3)
              generalize w7.alloc (.cells #[.slice Z1 l1 e1, .slice Z2 l2 e2, .slice Z3 l3 e3] 39) = w8 at hbt hgt ⊢
              generalize w7.heap.size = gt at hbt ⊢
              have HG8 : Hid (Grow wc w8) := HG7.out.trans hgt
              clear hbt hgt CFX
              have ho8 := ho6.grow HG8.out
              have o0 := ho8.cell 0
              have o1 := ho8.cell 1
              have o2 := ho8.cell 2
              have o3 := ho8.cell 3
              have o4 := ho8.cell 4
              have o5 := ho8.cell 5
              simp only [List.getElem?_cons_zero, List.getElem?_cons_succ] at o0 o1 o2 o3 o4 o5
              clear ho6 ho8
              have CK : Hid (∀ wx, Grow wc wx → Calls Try.prog 11 #[.slice (some ⟨g, 0, none⟩) (i + 1) cap, .int .i64 5, .int .i64 3] wx fun e w' => e = .returned (.int .i64 ((i : Int) + 1)) ∧ Grow wx w') := fun wx hg => t_check (HEV6.out.grow hg) hn6 HCX.out cap
              go_wp2_with (first
                | (go_at_call 20; (with_reducible refine (CB.out _).mono ?_); rintro e wg ⟨⟨x1, rfl, hx⟩, hg⟩; obtain rfl : x1 = false := Bool.eq_false_iff.2 fun h => HBAD.out (hx.1 h); have HGG := Lib.hid (HG8.out.trans hg); clear hx hg)
                | (go_at_call 10; (with_reducible refine (told_any _).mono ?_); rintro e wt ⟨rfl, hge⟩; have HGE := Lib.hid (HGG.out.trans hge); clear hge)
                | (go_at_call 11; (with_reducible refine (CK.out _ HGE.out).mono ?_); rintro e wk ⟨rfl, hge⟩; have HGK := Lib.hid (HGE.out.trans hge); clear hge))
              go_ret
              exact ⟨rfl, Grow.below ((HG1.out.trans HG5.out).trans (HG6.out.trans HGK.out))⟩

set_option maxRecDepth 100000 in
theorem lifted (os : Os) (started : os.Started) (H : Type) (enc : TypeId × Value → H) :
    ReturnsInHanded {} Try.checked os 7 .any (Rows.histFailsSpec.pre6 enc Try.prog Try.f7 Rows.histFailsRow.domain false) (Rows.histFailsSpec.post enc Try.prog Try.f7 false true false false) := by
  refine returnsInHanded_of_change (C := Try.checked) own started (by kernel_rfl) Try.func7
    (ChangeSpec.witness6 (enc := enc) (C := Try.checked) false ⟨#[], #[.slice none 0 0, .slice none 0 0, .int .i64 0, .int .i64 0], []⟩ 8 (by kernel_rfl) (by kernel_rfl) (by kernel_rfl) (by kernel_rfl)) ?_
  intro W base args ds gs before hval0 hW hcnd _
  have hval : ∀ (j : Nat) t v, Try.f7.params[j]? = some t → args[j]? = some v → Value.okWide Try.prog W .any base t v := hval0
  have hW' := hW
  obtain ⟨p, q, hA0, hV, rfl, hfz, hnd⟩ := hW
  have hA : DataW.TrodAll enc Try.prog W 0 (fun _ => true) true Try.f7.params.toList args.toList ds p := hA0
  rw [Try.params7] at hA hval
  obtain ⟨v0, vs0, d0, ds0, p0, q0, hargs, rfl, rfl, h0, r0⟩ := trodAll_cons hA
  obtain ⟨v1, vs1, d1, ds1, p1, q1, rfl, rfl, rfl, h1, r1⟩ := trodAll_cons r0
  obtain ⟨v2, vs2, d2, ds2, p2, q2, rfl, rfl, rfl, h2, r2⟩ := trodAll_cons r1
  obtain ⟨v3, vs3, d3, ds3, p3, q3, rfl, rfl, rfl, h3, r3⟩ := trodAll_cons r2
  obtain ⟨rfl, rfl, rfl⟩ := trodAll_nil r3
  obtain rfl : args = #[v0, v1, v2, v3] := by cases args; simp_all
  obtain ⟨rfl, rfl⟩ := trodVars_none hV
  obtain ⟨a0, len0, cap0, rfl⟩ := okWide_slice Try.underlying53 (hval 0 53 v0 rfl rfl)
  have k0 := h0
  have lt0 : ∀ x ∈ p0, x.block < W.heap.size := by obtain ⟨m, hm⟩ := k0; exact DataW.trod_lt m _ _ _ hm
  have w0 : CallsAt W a0 len0 cap0 := by obtain ⟨fuel, hf⟩ := h0; exact calls_open hf
  obtain ⟨a1, len1, cap1, rfl⟩ := okWide_slice Try.underlying48 (hval 1 48 v1 rfl rfl)
  have k1 := h1
  have lt1 : ∀ x ∈ p1, x.block < W.heap.size := by obtain ⟨m, hm⟩ := k1; exact DataW.trod_lt m _ _ _ hm
  have w1 : IntsAt W a1 len1 cap1 := by obtain ⟨fuel, hf⟩ := h1; exact wait_open hf
  obtain ⟨a2, rfl, rfl, rfl, w2⟩ := open_int Try.underlying3 (hval 2 3 v2 rfl rfl) h2
  obtain ⟨a3, rfl, rfl, rfl, w3⟩ := open_int Try.underlying3 (hval 3 3 v3 rfl rfl) h3
  clear hA0 hval0
  refine (walk a0 len0 cap0 a1 len1 cap1 a2 a3 W w0 w1 w2 w3).mono fun e W' ⟨he, bel⟩ => ?_
  subst he
  exact ⟨_, rfl, _, _, _, [], _, [], hW', trodAll_mk1 (shut_bool Try.underlying4 _), (trodAll_cons_mk (Below.trod laidOut (by kernel_rfl) (of_decide_eq_true (by kernel_rfl)) k0 bel lt0) (trodAll_cons_mk (Below.trod laidOut (by kernel_rfl) (of_decide_eq_true (by kernel_rfl)) k1 bel lt1) (trodAll_cons_mk (shut_int Try.underlying3 w2) (trodAll_cons_mk (shut_int Try.underlying3 w3) trodAll_mk0)))), rfl, bel.frame _, fun h => by cases h⟩

theorem over : Rows.histFailsRow.holds Try.pinned (OpenSpec.ofChange Rows.histFailsSpec) :=
  OpenClaim.holds_of_wide 7 Try.f7 rfl rfl rfl rfl rfl rfl rfl ⟨rfl, rfl, rfl, rfl, rfl⟩ rfl rfl rfl rfl rfl (by kernel_rfl) Try.func7 (by kernel_rfl)
    (of_decide_eq_true (by kernel_rfl)) (by unfold Func.isWrapper; first | (rw [if_pos (by decide +kernel)]; kernel_rfl) | (rw [if_neg (by decide +kernel)]; exact ⟨rfl, rfl⟩))
    (fun os started H enc _ => lifted os started H enc)

/-- ████ THE STATEMENT ████ -/
theorem proved : Rows.HistFailsSaid := over
#print axioms proved
end Go.Proofs.Ytjdlpknflhgkfaa.histFails
