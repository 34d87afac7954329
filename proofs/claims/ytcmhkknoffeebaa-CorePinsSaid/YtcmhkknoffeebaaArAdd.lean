/-
  Package arena (chapter 10): spare, Add, New, at every arena and number.
-/
import Derived.Test.YtcmhkknoffeebaaArTake
namespace Go.Proofs.Ytcmhkknoffeebaa.ArA
open Go.ChangeShapes Go.WideShapes Go.ChangeAt Go.RowKit
open Go.Proofs.Ytcmhkknoffeebaa.Mem Go.Proofs.Ytcmhkknoffeebaa.Blk Go.Proofs.Ytcmhkknoffeebaa.Cells Go.Proofs.Ytcmhkknoffeebaa.Orow Go.Proofs.Ytcmhkknoffeebaa.GsC Go.Proofs.Ytcmhkknoffeebaa.TabM Go.Proofs.Ytcmhkknoffeebaa.ArM Go.Proofs.Ytcmhkknoffeebaa.ArC Go.Proofs.Ytcmhkknoffeebaa.ArD Go.Proofs.Ytcmhkknoffeebaa.ArB Go.Proofs.Ytcmhkknoffeebaa.ArR Go.Proofs.Ytcmhkknoffeebaa.Stages

section
variable {w w' : World} {G H F : Nat → Prop} {d g cap dl Dl dt Dt : Nat} {T : Tb} {a : Ar}
theorem spare_none (h : Nil w G d a) : Calls Try.prog 42 #[.pointer (some ⟨d, 0, none⟩)] w fun e w' => e = .returned (.int .i64 0) ∧ w = w' := by
  have c0 := h.h0
  clear h
  go_enter Try.func42, Try.ntmps42
  go_wp2
  go_step3
  go_wp2
  go_step3
  go_wp2
  go_loopg [3] 1 (fun gx i wr => i = .int .i64 0 ∧ w = wr)
  case atStart => exact ⟨rfl, rfl⟩
  case round =>
    obtain ⟨rfl, rfl⟩ := hrel
    go_wp2
    try rw [Exit.noGoto_ret]
    go_ret
    exact ⟨rfl, rfl⟩
theorem spare_big (h : Big w G d g cap dl Dl dt Dt T a) (hn : a.n ≤ 32) : Calls Try.prog 42 #[.pointer (some ⟨d, 0, none⟩)] w fun e w' => e = .returned (.int .i64 (a.spare : Int)) ∧ w = w' := by
  have H := Lib.hid h
  have hnz : (a.n : Int) ≤ 32 := by omega
  clear h
  go_enter Try.func42, Try.ntmps42
  go_wp2
  go_step3
  go_wp2
  go_step3
  go_wp2
  go_loopg [3] a.n (fun gx i wr => ∃ j : Nat, j + gx = a.n ∧ i = .int .i64 (j : Int) ∧ (∀ k, k < j → isG a k = false) ∧ w = wr)
  case atStart => exact ⟨0, by omega, rfl, fun k hk => absurd hk (by omega), rfl⟩
  case round =>
    obtain ⟨j, hg, rfl, hno, rfl⟩ := hrel
    have HG := Lib.hid hg
    have HNO := Lib.hid hno
    clear hg hno
    have c0 := H.out.h0
    by_cases hj : j < a.n
    · have hjz : (j : Int) < (a.n : Int) := by omega
      have f0 := H.out.fr.c0 hj
      by_cases h4 : (a.F j).st = 4
      · have HE : Hid (a.spare = j) := least_eq hj (decide_eq_true h4) HNO.out
        rw [h4] at f0
        go_wp2
        try rw [Exit.noGoto_ret]
        go_ret
        exact ⟨by rw [HE.out]; rfl, rfl⟩
      · have HE : Hid (isG a j = false) := decide_eq_false h4
        have h4' : ((a.F j).st == 4) = false := beq_eq_false_iff_ne.2 h4
        generalize (a.F j).st = st at *
        go_wp2
        go_roundg (gk - 1)
        case measure => have := HG.out; omega
        case rel =>
          refine ⟨j + 1, by have := HG.out; omega, by go_num, fun k hk => ?_, rfl⟩
          by_cases e : k = j
          · subst e; exact HE.out
          · exact HNO.out k (by omega)
    · obtain rfl : j = a.n := by have := HG.out; omega
      have HE : Hid (a.spare = a.n) := least_all HNO.out
      go_wp2
      try rw [Exit.noGoto_ret]
      go_ret
      exact ⟨by rw [HE.out]; rfl, rfl⟩
theorem addF_n (a : Ar) (v : Fr) : (⟨a.n + 1, upd a.F a.n v, a.B, a.Q⟩ : Ar).dropF a.n = a.addF a.n := by
  unfold Ar.dropF Ar.addF
  rw [if_neg (by omega)]
  congr 1
  funext x
  unfold upd
  dsimp only
  split <;> rfl
theorem joined_frame (F : Nat → Fr) (n : Nat) (i : Nat) (hi : i < (n + 1) * 5) : joined (fcell F) (fcell fun _ => ⟨0, 0, 0, false⟩) (n * 5) i = fcell (upd F n ⟨0, 0, 0, false⟩) i := by
  unfold joined
  by_cases e : i < n * 5
  · rw [if_pos e]
    unfold fcell
    rw [upd_other _ _ (by omega)]
  · rw [if_neg e]
    unfold fcell
    rw [show i / 5 = n by omega, upd_same, show (i - n * 5) % 5 = i % 5 by omega]
/-- The block of a frame that is appended. -/
def zfr (w : World) : World := w.alloc (.cells #[.int .i64 0, .int .i64 0, .int .i64 0, .int .i64 0, .bool false] 36)
/-- One frame more in the frames' row. -/
theorem more_frame {n : Nat} {F : Nat → Fr} {v : Value} (h : OS w G v 36 5 n (fcell F)) (hn : n ≤ 1000) :
    ∃ g cap w', (∀ ty, (Builtin.append_ #[30, 30] ty #[v, .slice (some ⟨w.heap.size, 0, none⟩) 1 1]).run Try.prog (zfr w) = .ok (.slice (some ⟨g, 0, none⟩) (n + 1) cap) w') ∧ FR w' g cap (n + 1) (upd F n ⟨0, 0, 0, false⟩) ∧ Kept (fun k => v.ownBlock = some k) w w' ∧ (v.ownBlock = some g ∨ w.heap.size ≤ g) := by
  obtain ⟨i0, hi, hz0, hz1, hz2⟩ := info_parts infoFr
  have hb := Blk.new w 36 [.int .i64 0, .int .i64 0, .int .i64 0, .int .i64 0, .bool false]
  have hg : Grow w (zfr w) := (Kept.refl _ w).alloc _
  have key := fun ty => append_or (P := Try.prog) 30 ty i0 _ 40 Try.underlying30 hi hz0 hz1 hz2 rfl (by omega) (h.kept hg fun _ _ x => x) (by omega) (by omega) w.heap.size 1 (u := fcell fun _ => ⟨0, 0, 0, false⟩) (fun j hj => by
    refine (Blk.cell hb j).trans ?_
    have : j = 0 ∨ j = 1 ∨ j = 2 ∨ j = 3 ∨ j = 4 := by omega
    rcases this with rfl | rfl | rfl | rfl | rfl <;> rfl) (fun j _ => fcell_one _ j)
  obtain ⟨g, cap, w', h1, h2, h3, h4⟩ := key 0
  refine ⟨g, cap, w', fun ty => ?_, OR.congr h2 fun i hi => joined_frame F n i hi, hg.kept.trans h3, ?_⟩
  · obtain ⟨g', cap', w2, k1, _⟩ := key ty
    rw [← h1]
    rfl
  · rcases h4 with h4 | h4
    · exact .inl h4
    · exact .inr (by rw [h4]; exact hg.size)
theorem add_full (h : ArAt w G d a) (hs : ¬ a.spare < 32) : Calls Try.prog 33 #[.pointer (some ⟨d, 0, none⟩)] w fun e w' => e = .returned (.int .i64 (-1)) ∧ w = w' := by
  have hn := h.good.n
  have hsn := spare_le (a := a)
  have e : a.spare = 32 := by omega
  obtain ⟨g, cap, dl, Dl, dt, Dt, T, hb⟩ := ArAt.big h (by omega)
  have HS := Lib.hid (spare_big hb hn)
  rw [e] at HS
  simp only [Int.cast_ofNat_Int] at HS
  clear h hb hs hn hsn e
  go_enter Try.func33, Try.ntmps33
  go_wp2_with (go_at_call 42; (with_reducible refine HS.out.mono ?_); rintro e w' ⟨rfl, rfl⟩)
  go_ret
  exact ⟨rfl, rfl⟩
theorem add_old (h : ArAt w G d a) (hs : a.spare < a.n) : Calls Try.prog 33 #[.pointer (some ⟨d, 0, none⟩)] w (APost G d w (.int .i64 (a.spare : Int)) (a.addF a.spare)) := by
  have hn := h.good.n
  obtain ⟨g, cap, dl, Dl, dt, Dt, T, hb⟩ := ArAt.big h (by omega)
  have HS := Lib.hid (spare_big hb hn)
  have h4 := spare_gone hs
  have HR := Lib.hid (release_any hb.core hn a.spare hs (fun hm => by have := (h.good.q _).1 hm; omega))
  have HG := Lib.hid (h.good.addF (by omega))
  have HT : Hid (Tabs T (a.addF a.spare)) := hb.ts.addF (by omega) (fun _ => by omega)
  have HE := Lib.hid (addF_old hs)
  have HP : Hid (0 < (a.addF a.spare).n) := by show 0 < _; rw [addF_old hs]; exact hb.pos
  have c0 := hb.h0
  have c1 := hb.h1
  have hsz : (a.spare : Int) < (a.n : Int) := by omega
  have hnz : (a.n : Int) ≤ 32 := by omega
  have hse : ((a.spare : Int) == 32) = false := by rw [beq_eq_false_iff_ne]; omega
  have hse2 : ((a.spare : Int) == (a.n : Int)) = false := by rw [beq_eq_false_iff_ne]; omega
  clear h hb h4
  generalize a.spare = s at *
  go_enter Try.func33, Try.ntmps33
  go_wp2_with (first
    | (go_at_call 42; (with_reducible refine HS.out.mono ?_); rintro e w' ⟨rfl, rfl⟩)
    | (go_at_call 44; (with_reducible refine HR.out.mono ?_); rintro e w2 ⟨rfl, hc, hk⟩; have HC := Lib.hid hc; have HK := Lib.hid hk; clear hc hk))
  go_ret
  rw [HE.out] at HG HT HP ⊢
  exact ⟨rfl, ⟨HG.out, .inr ⟨_, _, _, _, _, _, _, HC.out.big HT.out HP.out⟩⟩, HK.out⟩
theorem add_new (h : ArAt w G d a) (hnew : ∀ k, w.heap.size ≤ k → G k) (h0 : 0 < a.n) (hs : a.spare = a.n) (h32 : a.n < 32) : Calls Try.prog 33 #[.pointer (some ⟨d, 0, none⟩)] w (APost G d w (.int .i64 (a.spare : Int)) (a.addF a.spare)) := by
  have hn := h.good.n
  obtain ⟨g, cap, dl, Dl, dt, Dt, T, hb⟩ := ArAt.big h h0
  have HS := Lib.hid (spare_big hb hn)
  have HG := Lib.hid (h.good.addF (by omega))
  have HT : Hid (Tabs T (a.addF a.spare)) := hb.ts.addF (by omega) (fun _ => by omega)
  have HP : Hid (0 < (a.addF a.spare).n) := by show 0 < _; rw [hs, addF_more]; exact Nat.succ_pos _
  rw [hs] at HS HG HT HP ⊢
  obtain ⟨g', cap', w1, hr, hf, hk, hg⟩ := more_frame (v := .slice (some ⟨g, 0, none⟩) a.n cap) (.inr ⟨g, cap, rfl, hb.fr, hb.inG.2.1⟩) (by omega)
  have HR := Lib.hid hr
  have hne := hb.ne
  have hd1 := hb.hd.kept hk (fun e => by injection e with e; exact hne.dg e.symm)
  have c0 := hb.h0
  have e0 : w1.cell? ⟨d, 0, none⟩ = some (.slice (some ⟨g, 0, none⟩) a.n cap) := hd1.cell (i := 0) (by omega)
  have fz := hd1.frozen 0
  have hnz : (a.n : Int) < 32 := by omega
  have hse : ((a.n : Int) == 32) = false := by rw [beq_eq_false_iff_ne]; omega
  have HC2 : Hid (Core (w1.setCell ⟨d, 0, none⟩ (.slice (some ⟨g', 0, none⟩) (a.n + 1) cap')) G d g' cap' dl Dl dt Dt T ⟨a.n + 1, upd a.F a.n ⟨0, 0, 0, false⟩, a.B, a.Q⟩) := by
    have hlt := hb.lt
    have hg' : (g = g' ∨ w.heap.size ≤ g') := hg.imp_left fun e => by injection e
    have hk2 := kept_set w1 d 0 (.slice (some ⟨g', 0, none⟩) (a.n + 1) cap')
    have hnd : d ≠ g' := by rcases hg' with e | e; exact e ▸ hne.dg; omega
    obtain ⟨i0, i1, i2, i3, i4, i5⟩ := hb.inG
    refine ⟨(hd1.set 0 _).congr fun i hi => ?_, OR.kept hf hk2 hnd.symm, (hb.li.kept hk fun k x y => ?_).kept hk2 fun k x y => ?_, TabC.Raw.kept (TabC.Raw.kept hb.ta hk fun k x y => ?_) hk2 fun k x y => ?_, ?_, ⟨i0, ?_, i2, i3, i4, i5⟩⟩
    · show (if i = 0 then _ else acell _ _ _ _ i) = acell _ _ _ _ i
      unfold acell
      by_cases e : i = 0
      · rw [if_pos e, if_pos e]
      · rw [if_neg e, if_neg e, if_neg e]
    · injection x with x
      subst x
      rcases y with y | y
      · exact hne.gdl y
      · exact hne.gDl y
    · subst x
      rcases y with y | y
      · exact hne.ddl y
      · exact hne.dDl y
    · injection x with x
      subst x
      rcases y with y | y
      · exact hne.gdt y
      · exact hne.gDt y
    · subst x
      rcases y with y | y
      · exact hne.ddt y
      · exact hne.dDt y
    · rcases hg' with e | e
      · subst e; exact hne
      · exact ⟨hnd, hne.ddl, hne.dDl, hne.ddt, hne.dDt, by omega, by omega, by omega, by omega, hne.ldt, hne.lDt, hne.Ldt, hne.LDt⟩
    · rcases hg' with e | e
      · subst e; exact i1
      · exact hnew _ e
  have HK2 : Hid (Kept G w (w1.setCell ⟨d, 0, none⟩ (.slice (some ⟨g', 0, none⟩) (a.n + 1) cap'))) := (hk.mono fun k _ e => by injection e with e; subst e; exact hb.inG.2.1).trans ((kept_set w1 d 0 _).mono fun k _ e => by subst e; exact hb.inG.1)
  have HQ : Hid (a.n ∉ a.Q) := fun hm => by have := (h.good.q _).1 hm; omega
  have HFN := Lib.hid (addF_n a ⟨0, 0, 0, false⟩)
  clear hr h hb hk hf hg hne hd1
  go_enter Try.func33, Try.ntmps33
  go_upto_region 8 with (first
    | (go_at_call 42; (with_reducible refine HS.out.mono ?_); rintro e w' ⟨rfl, rfl⟩)
    | (at_builtin; refine Lib.wpList_append_run _ rfl _ _ _ _ rfl _ _ rfl rfl _ _ (HR.out _) ?_))
  clear c0 e0 fz HR HS
  generalize w1.setCell ⟨d, 0, none⟩ (.slice (some ⟨g', 0, none⟩) (a.n + 1) cap') = w2 at HC2 HK2 ⊢
  have c1 := HC2.out.h1
  have HRE := Lib.hid (release_any HC2.out h32 a.n (Nat.lt_succ_self _) HQ.out)
  rw [HFN.out] at HRE
  go_wp2_with (go_at_call 44; (with_reducible refine HRE.out.mono ?_); rintro e w3 ⟨rfl, hc, hk⟩; have HC := Lib.hid hc; have HK := Lib.hid hk; clear hc hk)
  go_ret
  exact ⟨rfl, ⟨HG.out, .inr ⟨_, _, _, _, _, _, _, HC.out.big HT.out HP.out⟩⟩, HK2.out.trans HK.out⟩
theorem add_first (h : Nil w G d a) (hgd : ArM.Good a) (hnew : ∀ k, w.heap.size ≤ k → G k) : Calls Try.prog 33 #[.pointer (some ⟨d, 0, none⟩)] w (APost G d w (.int .i64 0) (a.addF 0)) := by
  have hz := h.zero
  have hq := hgd.empty hz
  have hsp : a.spare = 0 := by have := spare_le (a := a); omega
  have HS := Lib.hid (spare_none h)
  have HG := Lib.hid (hgd.addF (by omega))
  rw [hsp] at HG
  have HP : Hid (0 < (a.addF 0).n) := by show 0 < (if 0 < a.n then a.n else 0 + 1); rw [if_neg (by omega)]; omega
  have HT : Hid (Tabs (TabM.fresh 64) (a.addF 0)) := Tabs.none (by omega) fun x hx => by
    show (upd a.F 0 fFree x).st ≠ 1
    have hx : x < (if 0 < a.n then a.n else 0 + 1) := hx
    rw [if_neg (by omega)] at hx
    obtain rfl : x = 0 := by omega
    rw [upd_same]
    show (0 : Int) ≠ 1
    omega
  obtain ⟨g', cap', w1, hr, hf, hk, hg⟩ := more_frame (w := w) (G := G) (v := .slice none 0 0) (n := 0) (F := a.F) (.inl ⟨rfl, rfl⟩) (by omega)
  have HR := Lib.hid hr
  have hgr : Grow w w1 := hk.mono fun k _ e => by cases e
  have hg' : w.heap.size ≤ g' := by rcases hg with e | e; cases e; exact e
  have hd1 := h.hd.kept hgr (fun x => x)
  have c0 := h.h0
  have e0 : w1.cell? ⟨d, 0, none⟩ = some (.slice none 0 0) := hd1.cell (i := 0) (by omega)
  have fz := hd1.frozen 0
  have HD : Hid (Row (w1.setCell ⟨d, 0, none⟩ (.slice (some ⟨g', 0, none⟩) 1 cap')) d 515 (acell (.slice (some ⟨g', 0, none⟩) 1 cap') a.B (.pointer none) (.pointer none))) := (hd1.set 0 _).congr fun i hi => by
    show (if i = 0 then _ else acell _ _ _ _ i) = acell _ _ _ _ i
    unfold acell
    by_cases e : i = 0
    · rw [if_pos e, if_pos e]
    · rw [if_neg e, if_neg e, if_neg e]
  have hk2 := kept_set w1 d 0 (.slice (some ⟨g', 0, none⟩) 1 cap')
  have hlt := h.hd.lt
  have HF : Hid (FR (w1.setCell ⟨d, 0, none⟩ (.slice (some ⟨g', 0, none⟩) 1 cap')) g' cap' 1 (upd a.F 0 ⟨0, 0, 0, false⟩)) := OR.kept hf hk2 (by omega)
  have HK2 : Hid (Kept (· = d) w (w1.setCell ⟨d, 0, none⟩ (.slice (some ⟨g', 0, none⟩) 1 cap'))) := hgr.kept.trans hk2
  have HGD := Lib.hid h.inG
  clear hr h hk hf hg hd1 hgr hk2
  go_enter Try.func33, Try.ntmps33
  go_upto_region 8 with (first
    | (go_at_call 42; (with_reducible refine HS.out.mono ?_); rintro e w' ⟨rfl, rfl⟩)
    | (at_builtin; refine Lib.wpList_append_run _ rfl _ _ _ _ rfl _ _ rfl rfl _ _ (HR.out _) ?_))
  clear c0 e0 fz HR HS
  generalize w1.setCell ⟨d, 0, none⟩ (.slice (some ⟨g', 0, none⟩) 1 cap') = w2 at HD HF HK2 ⊢
  have c1 : w2.cell? ⟨d, 513, none⟩ = some (.pointer none) := HD.out.cell (i := 513) (by omega)
  have HL0 := Lib.hid (ListD.new_good (w := w2) 32 (by omega))
  have HT0 : Hid (∀ wx, Calls Try.prog 43 #[.int .i64 ((64 : Nat) : Int)] wx (TabO.NewPost 64 wx)) := fun wx => TabO.new_good 64 (by omega) (by omega)
  simp only [Int.cast_ofNat_Int] at HL0 HT0
  go_upto_region 10 with (first
    | (go_at_call 18; (with_reducible refine HL0.out.mono ?_); rintro e w3 ⟨dl, Dl, rfl, hl, b1, b2, hg⟩; have HL := Lib.hid hl; have HB1 := Lib.hid (And.intro b1 b2); have HG3 := Lib.hid hg; clear hl b1 b2 hg c1)
    | (go_at_call 43; (with_reducible refine (HT0.out _).mono ?_); rintro e w4 ⟨dt, Dt, rfl, ht, b1, b2, hg⟩; have HTA := Lib.hid ht; have HB2 := Lib.hid (And.intro b1 b2); have HG4 := Lib.hid hg; clear ht b1 b2 hg; have HD4 := Lib.hid ((HD.out.kept HG3.out (fun x => x)).kept HG4.out (fun x => x)); have c2 : w4.cell? ⟨d, 513, none⟩ = some (.pointer none) := HD4.out.cell (i := 513) (by omega); have c3 : w4.cell? ⟨d, 514, none⟩ = some (.pointer none) := HD4.out.cell (i := 514) (by omega); have fz := HD4.out.frozen))
  have HC5 : Hid (Core ((w4.setCell ⟨d, 513, none⟩ (.pointer (some ⟨dl, 0, none⟩))).setCell ⟨d, 514, none⟩ (.pointer (some ⟨dt, 0, none⟩))) G d g' cap' dl Dl dt Dt (TabM.fresh 64) ⟨0 + 1, upd a.F 0 ⟨0, 0, 0, false⟩, a.B, []⟩) := by
    have l1 := HF.out.lt
    have l2 := HD.out.lt
    have l3 := HL.out.lt
    obtain ⟨l4, l5⟩ := TabC.Raw.lt HTA.out
    obtain ⟨b1, b2⟩ := HB1.out
    obtain ⟨b3, b4⟩ := HB2.out
    have z1 := HG3.out.size
    have z2 := HG4.out.size
    have z0 := HK2.out.size
    have k5 : Kept (· = d) w4 ((w4.setCell ⟨d, 513, none⟩ (.pointer (some ⟨dl, 0, none⟩))).setCell ⟨d, 514, none⟩ (.pointer (some ⟨dt, 0, none⟩))) := (kept_set _ _ _ _).trans (kept_set _ _ _ _)
    refine ⟨((HD4.out.set 513 _).set 514 _).congr fun i hi => ?_, OR.kept ((HF.out.grow HG3.out).grow HG4.out) k5 (by omega), (HL.out.grow HG4.out).kept k5 fun k x y => ?_, TabC.Raw.kept HTA.out k5 fun k x y => ?_, ⟨by omega, by omega, by omega, by omega, by omega, by omega, by omega, by omega, by omega, by omega, by omega, by omega, by omega⟩, ⟨HGD.out, hnew _ (by omega), hnew _ (by omega), hnew _ (by omega), hnew _ (by omega), hnew _ (by omega)⟩⟩
    · show (if i = 514 then _ else if i = 513 then _ else acell _ _ _ _ i) = acell _ _ _ _ i
      unfold acell
      by_cases e : i = 514
      · subst e; rfl
      · rw [if_neg e]
        by_cases e2 : i = 513
        · subst e2; rfl
        · rw [if_neg e2]
          by_cases e0 : i = 0
          · rw [if_pos e0, if_pos e0]
          · rw [if_neg e0, if_neg e0, if_pos (by omega), if_pos (by omega)]
    · subst x
      rcases y with y | y <;> omega
    · subst x
      rcases y with y | y <;> omega
  have HK5 : Hid (Kept (· = d) w ((w4.setCell ⟨d, 513, none⟩ (.pointer (some ⟨dl, 0, none⟩))).setCell ⟨d, 514, none⟩ (.pointer (some ⟨dt, 0, none⟩)))) := (((HK2.out.trans HG3.out.kept).trans HG4.out.kept).trans (kept_set _ _ _ _)).trans (kept_set _ _ _ _)
  clear c2 c3 fz HD4 HD HF HL HTA HT0 HL0
  generalize (w4.setCell ⟨d, 513, none⟩ (.pointer (some ⟨dl, 0, none⟩))).setCell ⟨d, 514, none⟩ (.pointer (some ⟨dt, 0, none⟩)) = w5 at HC5 HK5 ⊢
  have HFN : Hid ((⟨0 + 1, upd a.F 0 ⟨0, 0, 0, false⟩, a.B, []⟩ : Ar).dropF 0 = a.addF 0) := by
    have := addF_n a ⟨0, 0, 0, false⟩
    rw [hz, hq] at this
    exact this
  have HRE := Lib.hid (release_any HC5.out (by show 0 + 1 ≤ 32; omega) 0 (Nat.lt_succ_self _) (by simp))
  rw [HFN.out] at HRE
  simp only [Int.natCast_zero] at HRE
  go_wp2_with (go_at_call 44; (with_reducible refine HRE.out.mono ?_); rintro e w6 ⟨rfl, hc, hk⟩; have HC := Lib.hid hc; have HK := Lib.hid hk; clear hc hk)
  go_ret
  exact ⟨rfl, ⟨HG.out, .inr ⟨_, _, _, _, _, _, _, HC.out.big HT.out HP.out⟩⟩, (HK5.out.mono fun k _ e => by subst e; exact HGD.out).trans HK.out⟩
theorem add_any (h : ArAt w G d a) (hnew : ∀ k, w.heap.size ≤ k → G k) : Calls Try.prog 33 #[.pointer (some ⟨d, 0, none⟩)] w (APost G d w (.int .i64 a.addC) a.add) := by
  have hn := h.good.n
  have hle := spare_le (a := a)
  by_cases h32 : a.spare < 32
  · have e1 : a.addC = (a.spare : Int) := by unfold Ar.addC; rw [if_pos h32]
    have e2 : a.add = a.addF a.spare := by unfold Ar.add; rw [if_pos h32]
    rw [e1, e2]
    by_cases h1 : a.spare < a.n
    · exact add_old h h1
    · have hs : a.spare = a.n := by omega
      rcases h.mem with h' | ⟨g, cap, dl, Dl, dt, Dt, T, hb⟩
      · rw [hs, h'.zero]
        exact add_first h' h.good hnew
      · exact add_new h hnew hb.pos hs (by omega)
  · have e1 : a.addC = -1 := by unfold Ar.addC; rw [if_neg h32]
    have e2 : a.add = a := by unfold Ar.add; rw [if_neg h32]
    rw [e1, e2]
    exact (add_full h h32).mono fun e w' ⟨h1, h2⟩ => ⟨h1, h2 ▸ h, h2 ▸ Kept.refl _ _⟩
end
end Go.Proofs.Ytcmhkknoffeebaa.ArA
