/-
  The document's frames (chapter 10, lavaboref10): Add, NewArena.
-/
import Derived.Test.YtcebjeemganhdaaArRefAdd
namespace Go.Proofs.Ytcebjeemganhdaa.ArRefN
open Go.ChangeShapes Go.WideShapes Go.ChangeAt Go.RowKit
open Go.Proofs.Ytcebjeemganhdaa.Mem Go.Proofs.Ytcebjeemganhdaa.Blk Go.Proofs.Ytcebjeemganhdaa.Cells Go.Proofs.Ytcebjeemganhdaa.Orow Go.Proofs.Ytcebjeemganhdaa.TabM Go.Proofs.Ytcebjeemganhdaa.ArM Go.Proofs.Ytcebjeemganhdaa.ArC Go.Proofs.Ytcebjeemganhdaa.ArB Go.Proofs.Ytcebjeemganhdaa.ArA Go.Proofs.Ytcebjeemganhdaa.ArRefC Go.Proofs.Ytcebjeemganhdaa.ArRefT Go.Proofs.Ytcebjeemganhdaa.ArRefA Go.Proofs.Ytcebjeemganhdaa.Txt Go.Proofs.Ytcebjeemganhdaa.Stages Go.Proofs.Ytcebjeemganhdaa.Trees
open Go.Proofs.Ytcebjeemganhdaa.ListM (ints ints_len ints_get)

theorem infoSt : (Try.prog.info? 9).map (fun i => (i.zero, i.size, i.bytes)) = some (some (.string ⟨#[]⟩), 1, 16) := by kernel_rfl
section
variable {w w' : World} {G H F P : Nat → Prop} {m c n : Nat} {vL vB : Value} {A : Option Addr} {S : Nat → List Int} {a : Ar}
theorem os_kept {v : Value} {t : TypeId} {s : Nat} {f : Nat → Value} (h : OS w P v t s n f) (hk : Kept F w w') (hF : ∀ k, v.ownBlock = some k → ¬ F k) : OS w' P v t s n f := by
  rcases h with h | ⟨g, c, e, ho, hg⟩
  · exact .inl h
  · exact .inr ⟨g, c, e, ho.kept hk (hF g (by rw [e]; rfl)), hg⟩
/-- The blocks of both rows. -/
def Rows2 (vL vB : Value) (k : Nat) : Prop := vL.ownBlock = some k ∨ vB.ownBlock = some k
/-- One frame more, out of a block that holds one. -/
theorem app_frame {F : Nat → Fr} {vb : Nat} (h : OS w P vL 42 5 n (fcell F)) (hn : n ≤ 1000) (hb : Blk w vb 42 [.int .i64 0, .int .i64 0, .int .i64 0, .int .i64 0, .bool false]) :
    ∃ g cap w', (∀ ty, (Builtin.append_ #[39, 39] ty #[vL, .slice (some ⟨vb, 0, none⟩) 1 1]).run Try.prog w = .ok (.slice (some ⟨g, 0, none⟩) (n + 1) cap) w') ∧ FR w' g cap (n + 1) (upd F n ⟨0, 0, 0, false⟩) ∧ Kept (fun k => vL.ownBlock = some k) w w' ∧ (vL.ownBlock = some g ∨ g = w.heap.size) := by
  obtain ⟨i0, hi, hz0, hz1, hz2⟩ := info_parts infoFr
  have key := fun ty => append_or (P := Try.prog) 39 ty i0 _ 40 Try.underlying39 hi hz0 hz1 hz2 rfl (by omega) h (by omega) (by omega) vb 1 (u := fcell fun _ => ⟨0, 0, 0, false⟩) (fun j hj => by
    refine (Blk.cell hb j).trans ?_
    have : j = 0 ∨ j = 1 ∨ j = 2 ∨ j = 3 ∨ j = 4 := by omega
    rcases this with rfl | rfl | rfl | rfl | rfl <;> rfl) (fun j _ => fcell_one _ j)
  obtain ⟨g, cap, w', h1, h2, h3, h4⟩ := key 0
  refine ⟨g, cap, w', fun ty => ?_, OR.congr h2 fun i hi => joined_frame F n i hi, h3, h4⟩
  rw [← h1]
  rfl
/-- One string more. -/
theorem app_str {vb : Nat} (h : OS w P vB 9 1 n (scell S)) (hn : n ≤ 1000) (hb : Blk w vb 9 [.string ⟨#[]⟩]) :
    ∃ g cap w', (∀ ty, (Builtin.append_ #[54, 54] ty #[vB, .slice (some ⟨vb, 0, none⟩) 1 1]).run Try.prog w = .ok (.slice (some ⟨g, 0, none⟩) (n + 1) cap) w') ∧ OR w' g 9 1 cap (n + 1) (scell (upd S n [])) ∧ Kept (fun k => vB.ownBlock = some k) w w' ∧ (vB.ownBlock = some g ∨ g = w.heap.size) := by
  obtain ⟨i0, hi, hz0, hz1, hz2⟩ := info_parts infoSt
  have key := fun ty => append_or (P := Try.prog) 54 ty i0 _ 16 Try.underlying54 hi hz0 hz1 hz2 rfl (by omega) h (by omega) (by omega) vb 1 (u := fun _ => .string ⟨#[]⟩) (fun j hj => by
    refine (Blk.cell hb j).trans ?_
    obtain rfl : j = 0 := by omega
    rfl) (fun j _ => rfl)
  obtain ⟨g, cap, w', h1, h2, h3, h4⟩ := key 0
  refine ⟨g, cap, w', fun ty => ?_, OR.congr h2 fun i hi => ?_, h3, h4⟩
  · rw [← h1]
    rfl
  · unfold joined scell
    by_cases e : i < n * 1
    · rw [if_pos e, upd_other _ _ (by omega)]
    · rw [if_neg e, show i = n by omega, upd_same]
      rfl
/-- Both rows have one more, and both are laid into the head. -/
theorem RMem.rows {F' : Nat → Fr} {S' : Nat → List Int} {y y' z z' : World} {gL cL gB cB : Nat} (h : RMem w G m vL vB A c S a) (hnew : ∀ k, w.heap.size ≤ k → G k)
    (hy : Grow w y) (hL : FR y' gL cL (a.n + 1) F') (kL : Kept (fun k => vL.ownBlock = some k) y y') (oL : vL.ownBlock = some gL ∨ gL = y.heap.size)
    (hz : Grow y' z) (hB : OR z' gB 9 1 cB (a.n + 1) (scell S')) (kB : Kept (fun k => vB.ownBlock = some k) z z') (oB : vB.ownBlock = some gB ∨ gB = z.heap.size)
    (hs : ∀ x, x < a.n + 1 → (F' x).st = 1 → S' x = a.B x) :
    RMem ((z'.setCell ⟨m, 0, none⟩ (.slice (some ⟨gL, 0, none⟩) (a.n + 1) cL)).setCell ⟨m, 1, none⟩ (.slice (some ⟨gB, 0, none⟩) (a.n + 1) cB)) G m (.slice (some ⟨gL, 0, none⟩) (a.n + 1) cL) (.slice (some ⟨gB, 0, none⟩) (a.n + 1) cB) A c S' ⟨a.n + 1, F', a.B, a.Q⟩ ∧ Kept (fun k => Rows2 vL vB k ∨ k = m) w ((z'.setCell ⟨m, 0, none⟩ (.slice (some ⟨gL, 0, none⟩) (a.n + 1) cL)).setCell ⟨m, 1, none⟩ (.slice (some ⟨gB, 0, none⟩) (a.n + 1) cB)) := by
  obtain ⟨_, fL⟩ := h.fr.own
  obtain ⟨_, fB⟩ := h.bo.own
  have hm := h.hd.lt
  have s1 := hy.size
  have s2 := kL.size
  have s3 := hz.size
  have s4 := kB.size
  have lL := hL.lt
  have lB := hB.lt
  have hmL : ∀ k, vL.ownBlock = some k → k ≠ m := fun k e => (fL k e).1.2.1
  have hmB : ∀ k, vB.ownBlock = some k → k ≠ m := fun k e => (fB k e).1.2
  have kz : Kept (fun k => Rows2 vL vB k) w z' := (((hy.kept.trans (kL.mono fun k _ e => .inl e)).trans hz.kept).trans (kB.mono fun k _ e => .inr e))
  have k5 : Kept (· = m) z' ((z'.setCell ⟨m, 0, none⟩ (.slice (some ⟨gL, 0, none⟩) (a.n + 1) cL)).setCell ⟨m, 1, none⟩ (.slice (some ⟨gB, 0, none⟩) (a.n + 1) cB)) := (kept_set _ _ _ _).trans (kept_set _ _ _ _)
  have hgL : G gL ∧ gL ≠ m ∧ gL ≠ gB := by
    rcases oL with e | e
    · obtain ⟨⟨g1, g2, g3⟩, g4⟩ := fL gL e
      refine ⟨g1, g2, fun x => ?_⟩
      rcases oB with e' | e'
      · exact g3 (by rw [x]; exact e')
      · omega
    · refine ⟨hnew _ (by omega), by omega, fun x => ?_⟩
      rcases oB with e' | e'
      · have := (fB gB e').2; omega
      · omega
  have hgB : G gB ∧ gB ≠ m := by
    rcases oB with e' | e'
    · exact (fB gB e').1
    · exact ⟨hnew _ (by omega), by omega⟩
  have hLz : FR z' gL cL (a.n + 1) F' := OR.kept (OR.grow hL hz) kB fun e => by
    rcases oL with e' | e'
    · exact (fL gL e').1.2.2 e
    · have := (fB gL e).2; omega
  refine ⟨⟨?_, .inr ⟨gL, cL, rfl, OR.kept hLz k5 hgL.2.1, hgL.1, hgL.2.1, fun e => hgL.2.2 (by injection e with e; exact e.symm)⟩, .inr ⟨gB, cB, rfl, OR.kept hB k5 hgB.2, hgB⟩, hs, ?_, h.cc, fun x e => ?_, h.inG, fun x e => ?_⟩, (kz.mono fun k _ e => .inl e).trans (k5.mono fun k _ e => .inr e)⟩
  · refine (((h.hd.kept kz fun e => ?_).set 0 _).set 1 _).congr fun i hi => ?_
    · rcases e with e | e
      · exact hmL m e rfl
      · exact hmB m e rfl
    · have : i = 0 ∨ i = 1 ∨ i = 2 := by omega
      rcases this with rfl | rfl | rfl <;> rfl
  · exact sl_at (sl_at h.id kz fun x e y => by
      rcases y with y | y
      · exact (h.off x e).2.2.1 y
      · exact (h.off x e).2.2.2 y) k5 fun x e y => (h.off x e).2.1 y
  · obtain ⟨o1, o2, o3, o4⟩ := h.off x e
    have hl := h.lt x e
    refine ⟨o1, o2, fun y => ?_, fun y => ?_⟩
    · injection y with y
      have y : gL = x.block := y
      rcases oL with e' | e'
      · exact o3 (by rw [← y]; exact e')
      · omega
    · injection y with y
      have y : gB = x.block := y
      rcases oB with e' | e'
      · exact o4 (by rw [← y]; exact e')
      · omega
  · exact Nat.lt_of_lt_of_le (Nat.lt_of_lt_of_le (h.lt x e) kz.size) k5.size
theorem radd_old (h : RAt w G m a) (hnew : ∀ k, w.heap.size ≤ k → G k) (hsp : a.spare < a.n) : Calls Try.prog 24 #[.pointer (some ⟨m, 0, none⟩)] w (RPost G m w (.int .i64 (a.spare : Int)) (a.addF a.spare)) := by
  have hn32 := h.good.n
  have HQL : Hid (a.Q.length ≤ 32) := by show _ ≤ _; rw [h.good.free]; exact Nat.le_trans (cnt_le _ _) hn32
  have hs4 := spare_gone hsp
  have HG := Lib.hid (h.good.addF (by omega))
  have e2 : a.addF a.spare = ⟨a.n, upd a.F a.spare fFree, a.B, a.Q ++ [a.spare]⟩ := addF_old hsp
  rw [e2] at HG ⊢
  obtain ⟨g, cap, vB, A, c, S, hb, hfr, hgG⟩ := h.form (by omega)
  have HNW := Lib.hid hnew
  have HB := Lib.hid hb
  have HFR := Lib.hid hfr
  have hnz : (a.n : Int) ≤ 32 := by omega
  have HSP : Hid (∀ j, j < a.n → (∀ k, k < j → isG a k = false) → isG a j = true → a.spare = j) := fun j hj hno hh => least_eq hj hh hno
  have HS4 : Hid (isG a a.spare = true) := decide_eq_true hs4
  clear h hb hfr hnew e2 hs4
  go_enter Try.func24, Try.ntmps24
  go_wp2
  go_loopg [3] a.n (fun gx i wr => ∃ j : Nat, j + gx = a.n ∧ i = .int .i64 (j : Int) ∧ (∀ k, k < j → isG a k = false) ∧ w = wr)
  case atStart => exact ⟨0, by omega, rfl, fun k hk => absurd hk (by omega), rfl⟩
  case round =>
    obtain ⟨j, hg, rfl, hno, rfl⟩ := hrel
    have HJ := Lib.hid hg
    have HNO := Lib.hid hno
    clear hg hno
    have c0 := HB.out.c0
    by_cases hj : j < a.n
    · have hjz : (j : Int) < (a.n : Int) := by omega
      have f0 := FR.c0 HFR.out hj
      by_cases h4 : (a.F j).st = 4
      · have hsj : a.spare = j := HSP.out j hj HNO.out (decide_eq_true h4)
        rw [hsj] at HG
        have HSJ := Lib.hid hsj
        rw [h4] at f0
        have f1 := FR.c1 HFR.out hj
        have f2 := FR.c2 HFR.out hj
        have f3 := FR.c3 HFR.out hj
        have f4 := FR.c4 HFR.out hj
        have fz := OR.frozen HFR.out
        have hj32 : (j : Int) < 32 := by omega
        have hjn : ((j : Int) == (a.n : Int)) = false := by rw [beq_eq_false_iff_ne]; omega
        have HK1 := Lib.hid (kept_setF w g j fFree)
        have H1 := Lib.hid (RMem.frm HB.out (FR.setF HFR.out j fFree) HK1.out fun x hx hs1 => HB.out.sb x hx (by
          by_cases e : x = j
          · subst e; rw [upd_same] at hs1; have : (0 : Int) = 1 := hs1; omega
          · rw [upd_other _ _ e] at hs1; exact hs1))
        have HKG : Hid (Kept G w (setF w g j fFree)) := HK1.out.mono fun k _ e => by subst e; exact hgG
        clear h4 hsj hj
        go_upto_region 9 with (fail)
        rw [show (((((w.setCell ⟨g, j * 5, none⟩ (.int .i64 0)).setCell ⟨g, j * 5 + 1, none⟩ (.int .i64 (-1))).setCell ⟨g, j * 5 + 2, none⟩ (.int .i64 0)).setCell ⟨g, j * 5 + 3, none⟩ (.int .i64 0)).setCell ⟨g, j * 5 + 4, none⟩ (.bool false)) = setF w g j fFree from rfl]
        clear c0 f0 f1 f2 f3 f4 fz HK1 HFR HB
        obtain ⟨f, rfl⟩ : ∃ f, f = j := ⟨_, rfl⟩
        generalize setF w g f fFree = w1 at *
        have HNW1 : Hid (∀ k, w1.heap.size ≤ k → G k) := fun k hk => HNW.out k (Nat.le_trans HKG.out.size hk)
        have c2 : w1.cell? ⟨m, 2, none⟩ = some (.slice A a.Q.length c) := H1.out.c2
        obtain ⟨v2, w2, hr2, ho2, hg2⟩ := copy_idle (a := ⟨a.n, upd a.F f fFree, a.B, a.Q⟩) H1.out (Nat.le_trans HQL.out (by omega))
        have c2a : (w1.alloc (.cells #[] 3)).cell? ⟨m, 2, none⟩ = some (.slice A a.Q.length c) := Lib.cell?_alloc_some _ c2
        clear c2
        have HR2 := Lib.hid hr2
        have HO2 := Lib.hid ho2
        have HG2 := Lib.hid hg2
        clear hr2 ho2 hg2
        go_wp2_with (first
          | (at_builtin; refine Lib.wpList_append_run _ rfl _ _ _ _ rfl _ _ rfl rfl _ _ (HR2.out _) ?_)
          | (at_builtin; refine wpList_append_one rfl _ _ 45 rfl w1.heap.size 3 (.int .i64 0) 8 Try.underlying45 infoI rfl _ a.Q.length _ rfl (World.ownsRow.alloc HO2.out _) w2.heap.size (.int .i64 (f : Int)) rfl (cell_new1 _ _ _) rfl (by have := HQL.out; unfold maxLen; omega) (by have := HQL.out; omega) (by have := HG2.out.size; simp; omega) ?_; intro g4 cap4 w4 hown hbel; have HOW4 := Lib.hid hown; have HG4 := Lib.hid (below_grow (HG2.out.trans ((Kept.refl _ w2).alloc _)) (Nat.le_refl _) hbel); clear hown hbel c2a; have e2 : w4.cell? ⟨m, 2, none⟩ = some (.slice A a.Q.length c) := (H1.out.hd.kept HG4.out (fun x => x)).cell (i := 2) (by omega); have mz := (H1.out.hd.kept HG4.out (fun x => x)).frozen 2))
        obtain ⟨hs4, hc4, hA4⟩ := own_sl HOW4.out
        have H4 := Lib.hid (RMem.idle (a := ⟨a.n, upd a.F f fFree, a.B, a.Q⟩) H1.out HNW1.out HG4.out hs4 hc4 hA4)
        have HK4 : Hid (Kept G w1 (w4.setCell ⟨m, 2, none⟩ (.slice (some ⟨g4, 0, none⟩) (a.Q.length + 1) cap4))) := HG4.out.kept.trans ((kept_set _ _ _ _).mono fun k _ e => by subst e; exact H1.out.inG)
        clear hs4 hc4 hA4 e2 mz
        go_ret
        rw [HSJ.out]
        exact ⟨rfl, ⟨HG.out, _, _, _, _, _, H4.out⟩, HKG.out.trans HK4.out⟩
      · have HE : Hid (isG a j = false) := decide_eq_false h4
        have h4' : ((a.F j).st == 4) = false := beq_eq_false_iff_ne.2 h4
        have h4'' : ((a.F j).st != 4) = true := by unfold bne; rw [h4']; rfl
        generalize (a.F j).st = st at *
        go_wp2
        go_roundg (gk - 1)
        case measure => have := HJ.out; omega
        case rel =>
          refine ⟨j + 1, by have := HJ.out; omega, by go_num, fun k hk => ?_, rfl⟩
          by_cases e : k = j
          · subst e; exact HE.out
          · exact HNO.out k (by omega)
    · exfalso
      have := HNO.out a.spare (by omega)
      rw [HS4.out] at this
      cases this
theorem seek_low {p : Nat → Bool} {g i j : Nat} (h1 : i ≤ j) (h2 : j < seek p g i) : p j = false := by
  induction g generalizing i with
  | zero => unfold seek at h2; omega
  | succ g ih =>
    unfold seek at h2
    split at h2
    · omega
    · next e =>
      by_cases ei : i = j
      · subst ei; simpa using e
      · exact ih (by omega) h2
theorem no_gone {a : Ar} (h : a.spare = a.n) {k : Nat} (hk : k < a.n) : isG a k = false := seek_low (p := isG a) (g := a.n) (i := 0) (Nat.zero_le _) (by
  have : seek (isG a) a.n 0 = a.n := h
  omega)
theorem radd_full (h : RAt w G m a) (hs : a.spare = a.n) (h32 : a.n = 32) : Calls Try.prog 24 #[.pointer (some ⟨m, 0, none⟩)] w fun e w' => e = .returned (.int .i64 (-1)) ∧ w = w' := by
  obtain ⟨vL, vB, A, c, S, hb⟩ := h.mem
  obtain ⟨AL, cL, rfl, hL⟩ := os_sl hb.fr
  have HL := Lib.hid hL
  have HB := Lib.hid hb
  have HNG : Hid (∀ k, k < a.n → isG a k = false) := fun k hk => no_gone hs hk
  have hnz : (a.n : Int) = 32 := by omega
  have hnz2 : (a.n : Int) ≤ 32 := by omega
  have hnz3 : (32 : Int) ≤ (a.n : Int) := by omega
  clear h hb hs hL hnz
  go_enter Try.func24, Try.ntmps24
  go_wp2
  go_loopg [3] a.n (fun gx i wr => ∃ j : Nat, j + gx = a.n ∧ i = .int .i64 (j : Int) ∧ w = wr)
  case atStart => exact ⟨0, by omega, rfl, rfl⟩
  case round =>
    obtain ⟨j, hg, rfl, rfl⟩ := hrel
    have HJ := Lib.hid hg
    clear hg
    have c0 := HB.out.c0
    by_cases hj : j < a.n
    · have hjz : (j : Int) < (a.n : Int) := by omega
      obtain ⟨gL, rfl, ho⟩ := HL.out (by omega)
      have f0 := FR.c0 ho hj
      have h4' : ((a.F j).st == 4) = false := beq_eq_false_iff_ne.2 (of_decide_eq_false (HNG.out j hj))
      have h4'' : ((a.F j).st != 4) = true := by unfold bne; rw [h4']; rfl
      clear ho
      generalize (a.F j).st = st at *
      go_wp2
      go_roundg (gk - 1)
      case measure => have := HJ.out; omega
      case rel => exact ⟨j + 1, by have := HJ.out; omega, by go_num, rfl⟩
    · obtain rfl : j = a.n := by have := HJ.out; omega
      go_wp2
      go_ret
      exact ⟨rfl, rfl⟩
/-- What the two rows are behind their appends. -/
def NRows (w : World) (G : Nat → Prop) (m : Nat) (A : Option Addr) (c : Nat) (S : Nat → List Int) (a : Ar) (wx : World) : Prop :=
  ∃ gL cL gB cB, RMem wx G m (.slice (some ⟨gL, 0, none⟩) (a.n + 1) cL) (.slice (some ⟨gB, 0, none⟩) (a.n + 1) cB) A c (upd S a.n []) ⟨a.n + 1, upd a.F a.n ⟨0, 0, 0, false⟩, a.B, a.Q⟩ ∧ Kept G w wx
set_option maxHeartbeats 4000000 in
theorem radd_new (h : RAt w G m a) (hnew : ∀ k, w.heap.size ≤ k → G k) (hs : a.spare = a.n) (h32 : a.n < 32) : Calls Try.prog 24 #[.pointer (some ⟨m, 0, none⟩)] w (RPost G m w (.int .i64 (a.n : Int)) (a.addF a.n)) := by
  have hn32 := h.good.n
  have HQL : Hid (a.Q.length ≤ 32) := by show _ ≤ _; rw [h.good.free]; exact Nat.le_trans (cnt_le _ _) hn32
  have HG := h.good.addF (by omega)
  rw [hs] at HG
  have HG' := Lib.hid HG
  obtain ⟨vL, vB, A, c, S, hb⟩ := h.mem
  obtain ⟨AL, cL, rfl, hL⟩ := os_sl hb.fr
  have HL := Lib.hid hL
  have HB := Lib.hid hb
  have HNW := Lib.hid hnew
  have HNG : Hid (∀ k, k < a.n → isG a k = false) := fun k hk => no_gone hs hk
  have hnz : (a.n : Int) < 32 := by omega
  have hne32 : ((a.n : Int) == 32) = false := by rw [beq_eq_false_iff_ne]; omega
  clear h hb hs hL hnew HG
  go_enter Try.func24, Try.ntmps24
  go_wp2
  go_loopg [3] a.n (fun gx i wr => ∃ j : Nat, j + gx = a.n ∧ i = .int .i64 (j : Int) ∧ w = wr)
  case atStart => exact ⟨0, by omega, rfl, rfl⟩
  case round =>
    obtain ⟨j, hg, rfl, rfl⟩ := hrel
    have HJ := Lib.hid hg
    clear hg
    have c0 := HB.out.c0
    by_cases hj : j < a.n
    · have hjz : (j : Int) < (a.n : Int) := by omega
      obtain ⟨gL, rfl, ho⟩ := HL.out (by omega)
      have f0 := FR.c0 ho hj
      have h4' : ((a.F j).st == 4) = false := beq_eq_false_iff_ne.2 (of_decide_eq_false (HNG.out j hj))
      have h4'' : ((a.F j).st != 4) = true := by unfold bne; rw [h4']; rfl
      clear ho
      generalize (a.F j).st = st at *
      go_wp2
      go_roundg (gk - 1)
      case measure => have := HJ.out; omega
      case rel => exact ⟨j + 1, by have := HJ.out; omega, by go_num, rfl⟩
    · obtain rfl : j = a.n := by have := HJ.out; omega
      have HSB : Hid (∀ x, x < a.n + 1 → (upd a.F a.n ⟨0, 0, 0, false⟩ x).st = 1 → upd S a.n [] x = a.B x) := fun x hx hs1 => by
        by_cases e : x = a.n
        · subst e; rw [upd_same] at hs1; have hs1 : (0 : Int) = 1 := hs1; omega
        · rw [upd_other _ _ e] at hs1 ⊢; exact HB.out.sb x (by omega) hs1
      have HR2 : Hid (∀ k, Rows2 (.slice AL a.n cL) vB k ∨ k = m → G k) := fun k x => by
        rcases x with (x | x) | x
        · exact (HB.out.fr.own.2 k x).1.1
        · exact (HB.out.bo.own.2 k x).1.1
        · subst x; exact HB.out.inG
      have HNM : Hid (¬ Rows2 (.slice AL a.n cL) vB m) := fun x => x.elim (fun e => (HB.out.fr.own.2 m e).1.2.1 rfl) (fun e => (HB.out.bo.own.2 m e).1.2 rfl)
      have c1 := HB.out.c1
      go_upto_region 7 with (fail)
      go_cut [] from 33 to 51 (fun wx => NRows w G m A c S a wx)
      case first =>
        have q0 := up_cell (F := Rows2 (.slice AL a.n cL) vB) (w := w.drew) (p := ⟨m, 0, none⟩) c0 HNM.out
        have q1 := up_cell (F := Rows2 (.slice AL a.n cL) vB) (w := w.drew) (p := ⟨m, 1, none⟩) c1 HNM.out
        refine wp_region_tree (Kept (Rows2 (.slice AL a.n cL) vB)) (Kept fun k => Rows2 (.slice AL a.n cL) vB k ∨ k = m) (kept_refl _) (kept_trans _) (kept_refl _) (kept_trans _) (fun _ _ h => h.mono fun _ _ x => .inl x) [17, 20]
          (.look false [1, 9, 10, 11] (.two true [0, 2, 3, 4, 5, 6, 12] 7 (.two true [] 8 (.one true [] 13 (.one true [] 14 (.one false [15, 16] 17 (.one false [18, 19] 20 (.last false []))))) 13 (.one true [] 8 (.one true [] 14 (.one false [15, 16] 17 (.one false [18, 19] 20 (.last false [])))))) 13 (.one true [] 7 (.one true [] 8 (.one true [] 14 (.one false [15, 16] 17 (.one false [18, 19] 20 (.last false [])))))))) (by kernel_rfl) (by kernel_rfl) ?_
        refine tr_lookL fun K hK => ?_
        simp only [sel, List.map_cons, List.map_nil, List.getD_cons_succ, List.getD_cons_zero]
        repeat (go_big_quiet_step (fail))
        refine wpQuiet_nil (hK _ ?_)
        clear hK K
        refine tr_twoE fun K1 hK1 K2 hK2 => ?_
        simp only [sel, List.map_cons, List.map_nil, List.getD_cons_succ, List.getD_cons_zero]
        repeat (go_big_quiet_step (fail))
        refine wpQuiet_nil ⟨?_, ?_⟩
        · clear hK2 K2
          go_wp2
          have hb7 := Blk.drew (Blk.new w 42 [.int .i64 0, .int .i64 0, .int .i64 0, .int .i64 0, .bool false])
          have gx1 : Grow w ((w.alloc (.cells #[.int .i64 0, .int .i64 0, .int .i64 0, .int .i64 0, .bool false] 42)).drew) := ((Kept.refl _ w).alloc _).drew
          refine norm_up (hK1 _ _ (Lr_early (by decide) (show Kept _ w.drew (w.alloc (.cells #[.int .i64 0, .int .i64 0, .int .i64 0, .int .i64 0, .bool false] 42)).drew from (Kept.refl _ w.drew).alloc (.cells #[.int .i64 0, .int .i64 0, .int .i64 0, .int .i64 0, .bool false] 42))) ?_)
          have HB7 : Hid (Blk ((w.alloc (.cells #[.int .i64 0, .int .i64 0, .int .i64 0, .int .i64 0, .bool false] 42)).drew) w.heap.size 42 [.int .i64 0, .int .i64 0, .int .i64 0, .int .i64 0, .bool false]) := hb7
          have HGx1 := Lib.hid gx1
          clear hK1 K1 hb7 gx1
          generalize (w.alloc (.cells #[.int .i64 0, .int .i64 0, .int .i64 0, .int .i64 0, .bool false] 42)).drew = x1 at *
          refine tr_twoE fun Ka hKa Kb hKb => ?_
          simp only [sel, List.map_cons, List.map_nil, List.getD_cons_succ, List.getD_cons_zero]
          refine wpQuiet_nil ⟨?_, ?_⟩
          · clear hKb Kb
            obtain ⟨gL, cL', x2, hr8, hf8, hk8, ho8⟩ := app_frame (P := fun _ => True) (vb := w.heap.size) (os_mono (HB.out.fr.kept HGx1.out fun _ _ x => x) fun _ _ _ => trivial) (by omega) HB7.out
            have HR8 := Lib.hid hr8
            have HF8 := Lib.hid hf8
            have HK8 := Lib.hid hk8
            have HO8 := Lib.hid ho8
            clear hr8 hf8 hk8 ho8
            go_wp2_with (at_builtin; refine Lib.wpList_append_run _ rfl _ _ _ _ rfl _ _ rfl rfl _ _ (HR8.out _) ?_)
            refine norm_up (hKa _ _ (Lr_early (by decide) (HK8.out.mono fun k _ e => .inl e)) ?_)
            clear hKa Ka HR8
            refine tr_oneE fun K hK => ?_
            simp only [sel, List.map_cons, List.map_nil, List.getD_cons_succ, List.getD_cons_zero]
            refine wpQuiet_nil ?_
            go_wp2
            have hb13 := Blk.new x2 9 [.string ⟨#[]⟩]
            have g3 : Grow x2 (x2.alloc (.cells #[.string ⟨#[]⟩] 9)) := (Kept.refl _ _).alloc _
            refine norm_up (hK _ _ (Lr_early (by decide) ((Kept.refl _ _).alloc _)) ?_)
            have HB13 : Hid (Blk (x2.alloc (.cells #[.string ⟨#[]⟩] 9)) x2.heap.size 9 [.string ⟨#[]⟩]) := hb13
            have HG3 := Lib.hid g3
            clear hK K hb13 g3
            generalize x2.alloc (.cells #[.string ⟨#[]⟩] 9) = x3 at *
            refine tr_oneE fun K hK => ?_
            simp only [sel, List.map_cons, List.map_nil, List.getD_cons_succ, List.getD_cons_zero]
            refine wpQuiet_nil ?_
            have hnB : ∀ k, vB.ownBlock = some k → k < w.heap.size := fun k e => (HB.out.bo.own.2 k e).2
            obtain ⟨gB, cB, z4, hr14, hf14, hk14, ho14⟩ := app_str (P := fun _ => True) (S := S) (vb := x2.heap.size) (os_mono (os_kept (os_kept HB.out.bo ((Grow.kept (F := fun k => (Value.slice AL a.n cL).ownBlock = some k) HGx1.out).trans HK8.out) (fun k x y => (HB.out.fr.own.2 k y).1.2.2 x)) HG3.out fun _ _ x => x) fun _ _ _ => trivial) (by omega) (HB13.out)
            have HR14 := Lib.hid hr14
            go_wp2_with (at_builtin; refine Lib.wpList_append_run _ rfl _ _ _ _ rfl _ _ rfl rfl _ _ (HR14.out _) ?_)
            refine norm_up (hK _ _ (Lr_early (by decide) (hk14.mono fun k _ e => .inr e)) ?_)
            clear hK K hr14 HR14
            obtain ⟨hm5, hk5⟩ := RMem.rows HB.out HNW.out HGx1.out HF8.out HK8.out HO8.out HG3.out hf14 hk14 ho14 HSB.out
            have HM5 := Lib.hid hm5
            have HK5 := Lib.hid hk5
            have hdz := HB.out.hd.kept (F := Rows2 (.slice AL a.n cL) vB) ((((Grow.kept HGx1.out).trans (HK8.out.mono fun k _ e => .inl e)).trans (Grow.kept HG3.out)).trans (hk14.mono fun k _ e => .inr e)) HNM.out
            have d0 : z4.cell? ⟨m, 0, none⟩ = some (.slice AL a.n cL) := hdz.cell (i := 0) (by omega)
            have dz := hdz.frozen
            have e1 : (z4.setCell ⟨m, 0, none⟩ (.slice (some ⟨gL, 0, none⟩) (a.n + 1) cL')).cell? ⟨m, 1, none⟩ = some vB := (hdz.set 0 _).cell (i := 1) (by omega)
            have ez := (hdz.set 0 (.slice (some ⟨gL, 0, none⟩) (a.n + 1) cL')).frozen
            clear hm5 hk5 hf14 hk14 ho14 hdz hnB
            refine tr_oneL fun K hK => ?_
            simp only [sel, List.map_cons, List.map_nil, List.getD_cons_succ, List.getD_cons_zero]
            repeat (go_big_quiet_step (fail))
            refine wpQuiet_nil ?_
            go_wp2
            refine norm_up (hK _ _ (Lr_late (by decide) ((kept_set _ _ _ _).mono fun k _ e => .inr e)) ?_)
            clear hK K d0 dz
            refine tr_oneL fun K hK => ?_
            simp only [sel, List.map_cons, List.map_nil, List.getD_cons_succ, List.getD_cons_zero]
            repeat (go_big_quiet_step (fail))
            refine wpQuiet_nil ?_
            go_wp2
            refine norm_up (hK _ _ (Lr_late (by decide) ((kept_set _ _ _ _).mono fun k _ e => .inr e)) ?_)
            clear hK K e1 ez
            refine tr_lastL fun K hK => ?_
            simp only [sel, List.map_cons, List.map_nil, List.getD_cons_succ, List.getD_cons_zero]
            refine wpQuiet_nil (hK _ ?_)
            clear hK K
            go_wp2
            go_meet
            exact ⟨gL, cL', gB, cB, HM5.out, HK5.out.mono fun k _ x => HR2.out k x⟩
          · clear hKa Ka
            go_wp2
            have hb13 := Blk.new x1 9 [.string ⟨#[]⟩]
            have gx2 : Grow w (x1.alloc (.cells #[.string ⟨#[]⟩] 9)) := HGx1.out.alloc _
            refine norm_up (hKb _ _ (Lr_early (by decide) ((Kept.refl _ _).alloc _)) ?_)
            have HB13 : Hid (Blk (x1.alloc (.cells #[.string ⟨#[]⟩] 9)) x1.heap.size 9 [.string ⟨#[]⟩]) := hb13
            have HGx2 := Lib.hid gx2
            have HB7 := Lib.hid (Blk.grow HB7.out ((Kept.refl _ x1).alloc (.cells #[.string ⟨#[]⟩] 9)))
            clear hKb Kb hb13 gx2
            generalize x1.alloc (.cells #[.string ⟨#[]⟩] 9) = x2 at *
            refine tr_oneE fun Ka hKa => ?_
            simp only [sel, List.map_cons, List.map_nil, List.getD_cons_succ, List.getD_cons_zero]
            refine wpQuiet_nil ?_
            obtain ⟨gL, cL', x3, hr8, hf8, hk8, ho8⟩ := app_frame (P := fun _ => True) (vb := w.heap.size) (os_mono (HB.out.fr.kept HGx2.out fun _ _ x => x) fun _ _ _ => trivial) (by omega) HB7.out
            have HR8 := Lib.hid hr8
            have HF8 := Lib.hid hf8
            have HK8 := Lib.hid hk8
            have HO8 := Lib.hid ho8
            clear hr8 hf8 hk8 ho8
            go_wp2_with (at_builtin; refine Lib.wpList_append_run _ rfl _ _ _ _ rfl _ _ rfl rfl _ _ (HR8.out _) ?_)
            refine norm_up (hKa _ _ (Lr_early (by decide) (HK8.out.mono fun k _ e => .inl e)) ?_)
            clear hKa Ka HR8
            refine tr_oneE fun K hK => ?_
            simp only [sel, List.map_cons, List.map_nil, List.getD_cons_succ, List.getD_cons_zero]
            refine wpQuiet_nil ?_
            have hnB : ∀ k, vB.ownBlock = some k → k < w.heap.size := fun k e => (HB.out.bo.own.2 k e).2
            obtain ⟨gB, cB, z4, hr14, hf14, hk14, ho14⟩ := app_str (P := fun _ => True) (S := S) (vb := x1.heap.size) (os_mono (os_kept HB.out.bo ((Grow.kept (F := fun k => (Value.slice AL a.n cL).ownBlock = some k) HGx2.out).trans HK8.out) (fun k x y => (HB.out.fr.own.2 k y).1.2.2 x)) fun _ _ _ => trivial) (by omega) (Blk.kept HB13.out HK8.out (fun e => by have h1 := (HB.out.fr.own.2 _ e).2; have h2 := HGx1.out.size; omega))
            have HR14 := Lib.hid hr14
            go_wp2_with (at_builtin; refine Lib.wpList_append_run _ rfl _ _ _ _ rfl _ _ rfl rfl _ _ (HR14.out _) ?_)
            refine norm_up (hK _ _ (Lr_early (by decide) (hk14.mono fun k _ e => .inr e)) ?_)
            clear hK K hr14 HR14
            obtain ⟨hm5, hk5⟩ := RMem.rows HB.out HNW.out HGx2.out HF8.out HK8.out HO8.out (Kept.refl _ _) hf14 hk14 ho14 HSB.out
            have HM5 := Lib.hid hm5
            have HK5 := Lib.hid hk5
            have hdz := HB.out.hd.kept (F := Rows2 (.slice AL a.n cL) vB) ((((Grow.kept HGx2.out).trans (HK8.out.mono fun k _ e => .inl e)).trans (Grow.kept (Kept.refl _ _))).trans (hk14.mono fun k _ e => .inr e)) HNM.out
            have d0 : z4.cell? ⟨m, 0, none⟩ = some (.slice AL a.n cL) := hdz.cell (i := 0) (by omega)
            have dz := hdz.frozen
            have e1 : (z4.setCell ⟨m, 0, none⟩ (.slice (some ⟨gL, 0, none⟩) (a.n + 1) cL')).cell? ⟨m, 1, none⟩ = some vB := (hdz.set 0 _).cell (i := 1) (by omega)
            have ez := (hdz.set 0 (.slice (some ⟨gL, 0, none⟩) (a.n + 1) cL')).frozen
            clear hm5 hk5 hf14 hk14 ho14 hdz hnB
            refine tr_oneL fun K hK => ?_
            simp only [sel, List.map_cons, List.map_nil, List.getD_cons_succ, List.getD_cons_zero]
            repeat (go_big_quiet_step (fail))
            refine wpQuiet_nil ?_
            go_wp2
            refine norm_up (hK _ _ (Lr_late (by decide) ((kept_set _ _ _ _).mono fun k _ e => .inr e)) ?_)
            clear hK K d0 dz
            refine tr_oneL fun K hK => ?_
            simp only [sel, List.map_cons, List.map_nil, List.getD_cons_succ, List.getD_cons_zero]
            repeat (go_big_quiet_step (fail))
            refine wpQuiet_nil ?_
            go_wp2
            refine norm_up (hK _ _ (Lr_late (by decide) ((kept_set _ _ _ _).mono fun k _ e => .inr e)) ?_)
            clear hK K e1 ez
            refine tr_lastL fun K hK => ?_
            simp only [sel, List.map_cons, List.map_nil, List.getD_cons_succ, List.getD_cons_zero]
            refine wpQuiet_nil (hK _ ?_)
            clear hK K
            go_wp2
            go_meet
            exact ⟨gL, cL', gB, cB, HM5.out, HK5.out.mono fun k _ x => HR2.out k x⟩
        · clear hK1 K1
          go_wp2
          have hb13 := Blk.drew (Blk.new w 9 [.string ⟨#[]⟩])
          have gx1 : Grow w ((w.alloc (.cells #[.string ⟨#[]⟩] 9)).drew) := ((Kept.refl _ w).alloc _).drew
          refine norm_up (hK2 _ _ (Lr_early (by decide) (show Kept _ w.drew (w.alloc (.cells #[.string ⟨#[]⟩] 9)).drew from (Kept.refl _ w.drew).alloc (.cells #[.string ⟨#[]⟩] 9))) ?_)
          have HB13 : Hid (Blk ((w.alloc (.cells #[.string ⟨#[]⟩] 9)).drew) w.heap.size 9 [.string ⟨#[]⟩]) := hb13
          have HGx1 := Lib.hid gx1
          clear hK2 K2 hb13 gx1
          generalize (w.alloc (.cells #[.string ⟨#[]⟩] 9)).drew = x1 at *
          refine tr_oneE fun Ka hKa => ?_
          simp only [sel, List.map_cons, List.map_nil, List.getD_cons_succ, List.getD_cons_zero]
          refine wpQuiet_nil ?_
          go_wp2
          have hb7 := Blk.new x1 42 [.int .i64 0, .int .i64 0, .int .i64 0, .int .i64 0, .bool false]
          have gx2 : Grow w (x1.alloc (.cells #[.int .i64 0, .int .i64 0, .int .i64 0, .int .i64 0, .bool false] 42)) := HGx1.out.alloc _
          refine norm_up (hKa _ _ (Lr_early (by decide) ((Kept.refl _ _).alloc _)) ?_)
          have HB7 : Hid (Blk (x1.alloc (.cells #[.int .i64 0, .int .i64 0, .int .i64 0, .int .i64 0, .bool false] 42)) x1.heap.size 42 [.int .i64 0, .int .i64 0, .int .i64 0, .int .i64 0, .bool false]) := hb7
          have HGx2 := Lib.hid gx2
          have HB13b : Hid (Blk (x1.alloc (.cells #[.int .i64 0, .int .i64 0, .int .i64 0, .int .i64 0, .bool false] 42)) w.heap.size 9 [.string ⟨#[]⟩]) := Blk.grow HB13.out ((Kept.refl _ _).alloc _)
          clear hKa Ka hb7 gx2
          generalize x1.alloc (.cells #[.int .i64 0, .int .i64 0, .int .i64 0, .int .i64 0, .bool false] 42) = x2 at *
          refine tr_oneE fun Ka hKa => ?_
          simp only [sel, List.map_cons, List.map_nil, List.getD_cons_succ, List.getD_cons_zero]
          refine wpQuiet_nil ?_
          obtain ⟨gL, cL', x3, hr8, hf8, hk8, ho8⟩ := app_frame (P := fun _ => True) (vb := x1.heap.size) (os_mono (HB.out.fr.kept HGx2.out fun _ _ x => x) fun _ _ _ => trivial) (by omega) HB7.out
          have HR8 := Lib.hid hr8
          have HF8 := Lib.hid hf8
          have HK8 := Lib.hid hk8
          have HO8 := Lib.hid ho8
          clear hr8 hf8 hk8 ho8
          go_wp2_with (at_builtin; refine Lib.wpList_append_run _ rfl _ _ _ _ rfl _ _ rfl rfl _ _ (HR8.out _) ?_)
          refine norm_up (hKa _ _ (Lr_early (by decide) (HK8.out.mono fun k _ e => .inl e)) ?_)
          clear hKa Ka HR8
          refine tr_oneE fun K hK => ?_
          simp only [sel, List.map_cons, List.map_nil, List.getD_cons_succ, List.getD_cons_zero]
          refine wpQuiet_nil ?_
          have hnB : ∀ k, vB.ownBlock = some k → k < w.heap.size := fun k e => (HB.out.bo.own.2 k e).2
          obtain ⟨gB, cB, z4, hr14, hf14, hk14, ho14⟩ := app_str (P := fun _ => True) (S := S) (vb := w.heap.size) (os_mono (os_kept HB.out.bo ((Grow.kept (F := fun k => (Value.slice AL a.n cL).ownBlock = some k) HGx2.out).trans HK8.out) (fun k x y => (HB.out.fr.own.2 k y).1.2.2 x)) fun _ _ _ => trivial) (by omega) (Blk.kept HB13b.out HK8.out (fun e => by have h1 := (HB.out.fr.own.2 _ e).2; omega))
          have HR14 := Lib.hid hr14
          go_wp2_with (at_builtin; refine Lib.wpList_append_run _ rfl _ _ _ _ rfl _ _ rfl rfl _ _ (HR14.out _) ?_)
          refine norm_up (hK _ _ (Lr_early (by decide) (hk14.mono fun k _ e => .inr e)) ?_)
          clear hK K hr14 HR14
          obtain ⟨hm5, hk5⟩ := RMem.rows HB.out HNW.out HGx2.out HF8.out HK8.out HO8.out (Kept.refl _ _) hf14 hk14 ho14 HSB.out
          have HM5 := Lib.hid hm5
          have HK5 := Lib.hid hk5
          have hdz := HB.out.hd.kept (F := Rows2 (.slice AL a.n cL) vB) ((((Grow.kept HGx2.out).trans (HK8.out.mono fun k _ e => .inl e)).trans (Grow.kept (Kept.refl _ _))).trans (hk14.mono fun k _ e => .inr e)) HNM.out
          have d0 : z4.cell? ⟨m, 0, none⟩ = some (.slice AL a.n cL) := hdz.cell (i := 0) (by omega)
          have dz := hdz.frozen
          have e1 : (z4.setCell ⟨m, 0, none⟩ (.slice (some ⟨gL, 0, none⟩) (a.n + 1) cL')).cell? ⟨m, 1, none⟩ = some vB := (hdz.set 0 _).cell (i := 1) (by omega)
          have ez := (hdz.set 0 (.slice (some ⟨gL, 0, none⟩) (a.n + 1) cL')).frozen
          clear hm5 hk5 hf14 hk14 ho14 hdz hnB
          refine tr_oneL fun K hK => ?_
          simp only [sel, List.map_cons, List.map_nil, List.getD_cons_succ, List.getD_cons_zero]
          repeat (go_big_quiet_step (fail))
          refine wpQuiet_nil ?_
          go_wp2
          refine norm_up (hK _ _ (Lr_late (by decide) ((kept_set _ _ _ _).mono fun k _ e => .inr e)) ?_)
          clear hK K d0 dz
          refine tr_oneL fun K hK => ?_
          simp only [sel, List.map_cons, List.map_nil, List.getD_cons_succ, List.getD_cons_zero]
          repeat (go_big_quiet_step (fail))
          refine wpQuiet_nil ?_
          go_wp2
          refine norm_up (hK _ _ (Lr_late (by decide) ((kept_set _ _ _ _).mono fun k _ e => .inr e)) ?_)
          clear hK K e1 ez
          refine tr_lastL fun K hK => ?_
          simp only [sel, List.map_cons, List.map_nil, List.getD_cons_succ, List.getD_cons_zero]
          refine wpQuiet_nil (hK _ ?_)
          clear hK K
          go_wp2
          go_meet
          exact ⟨gL, cL', gB, cB, HM5.out, HK5.out.mono fun k _ x => HR2.out k x⟩
      case rest =>
        obtain ⟨gL, cL', gB, cB, hm, hkc⟩ := hcut
        have HM := Lib.hid hm
        have HKC := Lib.hid hkc
        obtain ⟨g', c', e, hfr, hgG, _⟩ := hm.fr.form (Nat.succ_pos _)
        have e' : gL = g' ∧ cL' = c' := by
          injection e with e1 e2 e3
          injection e1 with e1
          injection e1 with e1
          exact ⟨e1, e3⟩
        obtain ⟨rfl, rfl⟩ := e'
        have HFR := Lib.hid hfr
        have hlt : a.n < a.n + 1 := Nat.lt_succ_self _
        have HADD : Hid ((⟨a.n + 1, upd (upd a.F a.n ⟨0, 0, 0, false⟩) a.n fFree, a.B, a.Q ++ [a.n]⟩ : Ar) = a.addF a.n) := addF_n a ⟨0, 0, 0, false⟩
        have c0 := HM.out.c0
        have f0 := FR.c0 HFR.out hlt
        have f1 := FR.c1 HFR.out hlt
        have f2 := FR.c2 HFR.out hlt
        have f3 := FR.c3 HFR.out hlt
        have f4 := FR.c4 HFR.out hlt
        have fz := OR.frozen HFR.out
        have HK1 := Lib.hid (kept_setF wc gL a.n fFree)
        have H1 := Lib.hid (RMem.frm (a := ⟨a.n + 1, upd a.F a.n ⟨0, 0, 0, false⟩, a.B, a.Q⟩) HM.out (FR.setF HFR.out a.n fFree) HK1.out fun x hx hs1 => HM.out.sb x hx (by
          by_cases e : x = a.n
          · subst e; rw [upd_same] at hs1; have : (0 : Int) = 1 := hs1; omega
          · rw [upd_other _ _ e] at hs1; exact hs1))
        have HKG : Hid (Kept G w (setF wc gL a.n fFree)) := HKC.out.trans (HK1.out.mono fun k _ e => by subst e; exact hgG)
        have hnz1 : (a.n : Int) < ((a.n + 1 : Nat) : Int) := by omega
        clear hm hkc e hfr HB HL
        go_upto_region 9 with (fail)
        rw [show (((((wc.setCell ⟨gL, a.n * 5, none⟩ (.int .i64 0)).setCell ⟨gL, a.n * 5 + 1, none⟩ (.int .i64 (-1))).setCell ⟨gL, a.n * 5 + 2, none⟩ (.int .i64 0)).setCell ⟨gL, a.n * 5 + 3, none⟩ (.int .i64 0)).setCell ⟨gL, a.n * 5 + 4, none⟩ (.bool false)) = setF wc gL a.n fFree from rfl]
        clear c0 f0 f1 f2 f3 f4 fz HK1 HFR HM HKC
        generalize setF wc gL a.n fFree = w1 at *
        have HNW1 : Hid (∀ k, w1.heap.size ≤ k → G k) := fun k hk => HNW.out k (Nat.le_trans HKG.out.size hk)
        have c2 : w1.cell? ⟨m, 2, none⟩ = some (.slice A a.Q.length c) := H1.out.c2
        obtain ⟨v2, w2, hr2, ho2, hg2⟩ := copy_idle (a := ⟨a.n + 1, upd (upd a.F a.n ⟨0, 0, 0, false⟩) a.n fFree, a.B, a.Q⟩) H1.out (Nat.le_trans HQL.out (by omega))
        have c2a : (w1.alloc (.cells #[] 3)).cell? ⟨m, 2, none⟩ = some (.slice A a.Q.length c) := Lib.cell?_alloc_some _ c2
        clear c2
        have HR2 := Lib.hid hr2
        have HO2 := Lib.hid ho2
        have HG2 := Lib.hid hg2
        clear hr2 ho2 hg2
        go_wp2_with (first
          | (at_builtin; refine Lib.wpList_append_run _ rfl _ _ _ _ rfl _ _ rfl rfl _ _ (HR2.out _) ?_)
          | (at_builtin; refine wpList_append_one rfl _ _ 45 rfl w1.heap.size 3 (.int .i64 0) 8 Try.underlying45 infoI rfl _ a.Q.length _ rfl (World.ownsRow.alloc HO2.out _) w2.heap.size (.int .i64 (a.n : Int)) rfl (cell_new1 _ _ _) rfl (by have := HQL.out; unfold maxLen; omega) (by have := HQL.out; omega) (by have := HG2.out.size; simp; omega) ?_; intro g4 cap4 w4 hown hbel; have HOW4 := Lib.hid hown; have HG4 := Lib.hid (below_grow (HG2.out.trans ((Kept.refl _ w2).alloc _)) (Nat.le_refl _) hbel); clear hown hbel c2a; have e2 : w4.cell? ⟨m, 2, none⟩ = some (.slice A a.Q.length c) := (H1.out.hd.kept HG4.out (fun x => x)).cell (i := 2) (by omega); have mz := (H1.out.hd.kept HG4.out (fun x => x)).frozen 2))
        obtain ⟨hs4, hc4, hA4⟩ := own_sl HOW4.out
        have H4 := Lib.hid (RMem.idle (a := ⟨a.n + 1, upd (upd a.F a.n ⟨0, 0, 0, false⟩) a.n fFree, a.B, a.Q⟩) H1.out HNW1.out HG4.out hs4 hc4 hA4)
        have HK4 : Hid (Kept G w1 (w4.setCell ⟨m, 2, none⟩ (.slice (some ⟨g4, 0, none⟩) (a.Q.length + 1) cap4))) := HG4.out.kept.trans ((kept_set _ _ _ _).mono fun k _ e => by subst e; exact H1.out.inG)
        clear hs4 hc4 hA4 e2 mz
        go_ret
        rw [← HADD.out]
        rw [← HADD.out] at HG'
        exact ⟨rfl, ⟨HG'.out, _, _, _, _, _, H4.out⟩, HKG.out.trans HK4.out⟩
theorem radd_any (h : RAt w G m a) (hnew : ∀ k, w.heap.size ≤ k → G k) : Calls Try.prog 24 #[.pointer (some ⟨m, 0, none⟩)] w (RPost G m w (.int .i64 a.addC) a.add) := by
  have hn := h.good.n
  have hle := spare_le (a := a)
  by_cases h32 : a.spare < 32
  · have e1 : a.addC = (a.spare : Int) := by unfold Ar.addC; rw [if_pos h32]
    have e2 : a.add = a.addF a.spare := by unfold Ar.add; rw [if_pos h32]
    rw [e1, e2]
    by_cases h1 : a.spare < a.n
    · exact radd_old h hnew h1
    · have hs : a.spare = a.n := by omega
      rw [hs]
      exact radd_new h hnew hs (by omega)
  · have e1 : a.addC = -1 := by unfold Ar.addC; rw [if_neg h32]
    have e2 : a.add = a := by unfold Ar.add; rw [if_neg h32]
    rw [e1, e2]
    exact (radd_full h (by omega) (by omega)).mono fun e w' ⟨h1, h2⟩ => ⟨h1, h2 ▸ h, h2 ▸ Kept.refl _ _⟩

/-! ### NewArena -/
theorem rnew_bad (k : Int) (hk : ¬ (0 ≤ k ∧ k ≤ 32)) : Calls Try.prog 9 #[.int .i64 k] w fun e w' => e = .returned (.pointer none) ∧ w = w' := by
  by_cases h0 : k < 0
  · clear hk
    go_enter Try.func9, Try.ntmps9
    go_wp2
    go_ret
    exact ⟨rfl, rfl⟩
  · have h1 : 32 < k := by omega
    clear hk
    go_enter Try.func9, Try.ntmps9
    go_wp2
    go_ret
    exact ⟨rfl, rfl⟩
def RNewPost (n : Nat) (w : World) (e : Ending) (w' : World) : Prop := e = .returned (.pointer (some ⟨w.heap.size, 0, none⟩)) ∧ RAt w' (w.heap.size ≤ ·) w.heap.size (ArM.fresh n) ∧ Grow w w'
theorem rnew_good (n : Nat) (hn : n ≤ 32) : Calls Try.prog 9 #[.int .i64 (n : Int)] w (RNewPost n w) := by
  have hnz : (n : Int) ≤ 32 := by omega
  go_enter Try.func9, Try.ntmps9
  go_wp2
  have HA0 : Hid (RAt (w.alloc (.cells #[.slice none 0 0, .slice none 0 0, .slice none 0 0] 56)) (w.heap.size ≤ ·) w.heap.size (ArM.fresh 0)) := by
    refine ⟨good_fresh (by omega), .slice none 0 0, .slice none 0 0, none, 0, fun _ => [], Row.of_blk (Blk.new w _ [.slice none 0 0, .slice none 0 0, .slice none 0 0]) rfl (fun i hi => ?_), .inl ⟨rfl, rfl⟩, .inl ⟨rfl, rfl⟩, fun x hx => absurd hx (by show ¬ x < 0; omega), Sl.nil _ _ _ _, ⟨Nat.le_refl _, Nat.zero_le _⟩, fun x hx => (by cases hx), Nat.le_refl _, fun x hx => (by cases hx)⟩
    have : i = 0 ∨ i = 1 ∨ i = 2 := by omega
    rcases this with rfl | rfl | rfl <;> rfl
  have HG0 : Hid (Grow w (w.alloc (.cells #[.slice none 0 0, .slice none 0 0, .slice none 0 0] 56))) := (Kept.refl _ _).alloc _
  generalize w.alloc (.cells #[.slice none 0 0, .slice none 0 0, .slice none 0 0] 56) = w1 at HA0 HG0 ⊢
  obtain ⟨B, hB⟩ : ∃ B, B = w.heap.size := ⟨_, rfl⟩
  have HB := Lib.hid hB
  unfold RNewPost
  rw [← hB] at HA0 ⊢
  clear hB
  go_loopg [4] n (fun gx i wr => ∃ j : Nat, j + gx = n ∧ i = .int .i64 (j : Int) ∧ RAt wr (B ≤ ·) B (ArM.fresh j) ∧ Grow w wr)
  case atStart => exact ⟨0, by omega, rfl, HA0.out, HG0.out⟩
  case round =>
    obtain ⟨j, hg, rfl, har, hgr⟩ := hrel
    have HG := Lib.hid hg
    have HAR := Lib.hid har
    have HGR := Lib.hid hgr
    clear hg har hgr
    by_cases hj : j < n
    · have hjz : (j : Int) < (n : Int) := by omega
      have HADD := Lib.hid (radd_any HAR.out fun k hk => by have h1 := HGR.out.size; have h2 := HB.out; omega)
      obtain ⟨e1, e2⟩ := fresh_add (n := j) (by omega)
      rw [e1, e2] at HADD
      clear e1 e2
      go_wp2_with (go_at_call 24; (with_reducible refine HADD.out.mono ?_); rintro e w2 ⟨rfl, ha, hk⟩; have HA2 := Lib.hid ha; have HK2 := Lib.hid hk; clear ha hk)
      go_roundg (gk - 1)
      case measure => have := HG.out; omega
      case rel => exact ⟨j + 1, by have := HG.out; omega, by go_num, HA2.out, HGR.out.then HK2.out fun k hk e => by have := HB.out; omega⟩
    · obtain rfl : j = n := by have := HG.out; omega
      go_wp2
      go_ret
      unfold RNewPost
      rw [← HB.out]
      exact ⟨rfl, HAR.out, HGR.out⟩
end
end Go.Proofs.Ytcebjeemganhdaa.ArRefN
