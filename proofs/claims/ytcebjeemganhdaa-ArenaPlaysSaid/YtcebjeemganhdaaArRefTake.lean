/-
  The document's frames (chapter 10, lavaboref10): Take, Set.
-/
import Derived.Test.YtcebjeemganhdaaArRef
import Derived.Test.YtcebjeemganhdaaTxt
import Derived.Test.YtcebjeemganhdaaTrees
namespace Go.Proofs.Ytcebjeemganhdaa.ArRefT
open Go.ChangeShapes Go.WideShapes Go.ChangeAt Go.RowKit
open Go.Proofs.Ytcebjeemganhdaa.Mem Go.Proofs.Ytcebjeemganhdaa.Blk Go.Proofs.Ytcebjeemganhdaa.Cells Go.Proofs.Ytcebjeemganhdaa.Orow Go.Proofs.Ytcebjeemganhdaa.TabM Go.Proofs.Ytcebjeemganhdaa.ArM Go.Proofs.Ytcebjeemganhdaa.ArC Go.Proofs.Ytcebjeemganhdaa.ArRefC Go.Proofs.Ytcebjeemganhdaa.Txt Go.Proofs.Ytcebjeemganhdaa.Stages Go.Proofs.Ytcebjeemganhdaa.Trees
open Go.Proofs.Ytcebjeemganhdaa.ListM (ints ints_len ints_get)

section
variable {w w' : World} {G H F : Nat → Prop} {m c g cap gB cB : Nat} {vL vB : Value} {A : Option Addr} {S : Nat → List Int} {a : Ar}
/-- Strings that are turned in their block. -/
theorem RMem.bod {S' : Nat → List Int} {B' : Nat → List Int} (h : RMem w G m vL (.slice (some ⟨gB, 0, none⟩) a.n cB) A c S a) (hf : OR w' gB 9 1 cB a.n (scell S')) (hk : Kept (· = gB) w w') (hs : ∀ x, x < a.n → (a.F x).st = 1 → S' x = B' x) : RMem w' G m vL (.slice (some ⟨gB, 0, none⟩) a.n cB) A c S' ⟨a.n, a.F, B', a.Q⟩ := by
  have hb : G gB ∧ gB ≠ m := by
    rcases h.bo with ⟨e, _⟩ | ⟨g', c', e, _, hb⟩
    · cases e
    · injection e with e1
      injection e1 with e1
      injection e1 with e1
      subst e1
      exact hb
  refine ⟨h.hd.kept hk hb.2.symm, ?_, .inr ⟨gB, cB, rfl, hf, hb⟩, hs, sl_at h.id hk fun x e x2 => (h.off x e).2.2.2 (by rw [← x2]; rfl), h.cc, h.off, h.inG, fun x e => Nat.lt_of_lt_of_le (h.lt x e) hk.size⟩
  rcases h.fr with h' | ⟨g', c', e, ho, hb'⟩
  · exact .inl h'
  · exact .inr ⟨g', c', e, ho.kept hk fun x => hb'.2.2 (by rw [x]; rfl), hb'⟩
theorem RMem.any {B' : Nat → List Int} (h : RMem w G m vL vB A c S a) (hs : ∀ x, x < a.n → (a.F x).st = 1 → S x = B' x) : RMem w G m vL vB A c S ⟨a.n, a.F, B', a.Q⟩ := ⟨h.hd, h.fr, h.bo, hs, h.id, h.cc, h.off, h.inG, h.lt⟩
theorem scell_set {S : Nat → List Int} {f : Nat} {zs : List Int} (i : Nat) : (if i = f then Value.string (strOfNums zs) else scell S i) = scell (upd S f zs) i := by
  unfold scell
  by_cases e : i = f
  · subst e; rw [if_pos rfl, upd_same]
  · rw [if_neg e, upd_other _ _ e]
theorem scell_at (S : Nat → List Int) (f : Nat) : scell S f = .string (strOfNums (S f)) := rfl
theorem rtake_bad (h : RAt w G m a) (p : Int) (hc : a.can p = false) : Calls Try.prog 12 #[.pointer (some ⟨m, 0, none⟩), .int .i64 p] w fun e w' => e = .returned (.int .i64 (-1)) ∧ w = w' := by
  have HF := Lib.hid (rfind_any h p)
  by_cases h0 : p < 0
  · clear h hc
    go_enter Try.func12, Try.ntmps12
    go_wp2
    go_ret
    exact ⟨rfl, rfl⟩
  · have h0' : 0 ≤ p := by omega
    by_cases h1 : 48 ≤ p
    · clear h hc h0
      go_enter Try.func12, Try.ntmps12
      go_wp2
      go_ret
      exact ⟨rfl, rfl⟩
    · have h1' : p < 48 := by omega
      have h2 : 0 ≤ a.find p := by
        have : ¬ a.find p < 0 := fun x => by
          unfold Ar.can at hc
          rw [decide_eq_true h0', decide_eq_true h1', decide_eq_true x] at hc
          cases hc
        omega
      clear h hc h0 h1
      generalize a.find p = q at *
      go_enter Try.func12, Try.ntmps12
      go_wp2_with (go_at_call 28; (with_reducible refine HF.out.mono ?_); rintro e w' ⟨rfl, rfl⟩)
      go_ret
      exact ⟨rfl, rfl⟩
theorem can_find {p : Int} (h : a.can p = true) : 0 ≤ p ∧ p < 48 ∧ a.find p = -1 := by
  simp only [Ar.can, Bool.and_eq_true, decide_eq_true_eq] at h
  refine ⟨h.1.1, h.1.2, ?_⟩
  rcases find_cases a p with h' | ⟨x, _, _, _, e⟩
  · exact h'.1
  · omega
theorem rtake_none (h : RAt w G m a) (p : Int) (hc : a.can p = true) (hq : a.Q = []) : Calls Try.prog 12 #[.pointer (some ⟨m, 0, none⟩), .int .i64 p] w fun e w' => e = .returned (.int .i64 (-1)) ∧ w = w' := by
  have HF := Lib.hid (rfind_any h p)
  obtain ⟨h0, h1, h2⟩ := can_find hc
  rw [h2] at HF
  obtain ⟨vL, vB, A, c, S, hb⟩ := h.mem
  have c2 := hb.c2
  rw [hq] at c2
  clear h hc hb h2
  go_enter Try.func12, Try.ntmps12
  go_wp2_with (go_at_call 28; (with_reducible refine HF.out.mono ?_); rintro e w' ⟨rfl, rfl⟩)
  go_ret
  exact ⟨rfl, rfl⟩
set_option maxHeartbeats 2000000 in
theorem rtake_good (h : RAt w G m a) (p : Int) (hc : a.can p = true) (f : Nat) (q : List Nat) (hq : a.Q = f :: q) : Calls Try.prog 12 #[.pointer (some ⟨m, 0, none⟩), .int .i64 p] w (RPost G m w (.int .i64 (f : Int)) ⟨a.n, upd a.F f (fUsed p), upd a.B f zeros, q⟩) := by
  obtain ⟨hf, hs, _, _⟩ := h.good.head hq
  have HG := Lib.hid (h.good.takeF hc hq)
  have HF := Lib.hid (rfind_any h p)
  obtain ⟨h0, h1, h2⟩ := can_find hc
  rw [h2] at HF
  obtain ⟨vL, vB, A, c, S, hb⟩ := h.mem
  have hn32 := h.good.n
  have c2 := hb.c2
  obtain ⟨gL, cL, rfl, hfr, hgL⟩ := hb.fr.form (by omega)
  obtain ⟨gB, cB, rfl, hbo, hgB⟩ := hb.bo.form (by omega)
  obtain ⟨b, off, rfl, _, hcl⟩ := hb.id.at_ (by rw [hq]; simp)
  have r0 := hcl 0 (by rw [hq]; simp)
  rw [ints_get, hq, List.getD_cons_zero, Nat.add_zero] at r0
  have hcc := hb.cc
  rw [hq] at hcc c2
  have hne : gL ≠ gB := fun e => hgL.2.2 (by rw [e]; rfl)
  have H1 := Lib.hid (hb.cut1 hq)
  have hk := kept_set w m 2 (.slice (if c = 1 then some ⟨b, off, none⟩ else some ⟨b, off + 1, none⟩) q.length (c - 1))
  have HFR := Lib.hid (OR.kept hfr hk (fun e => hgL.2.1 e))
  have HBO := Lib.hid (OR.kept hbo hk (fun e => hgB.2 e))
  have HK1 : Hid (Kept G w (w.setCell ⟨m, 2, none⟩ (.slice (if c = 1 then some ⟨b, off, none⟩ else some ⟨b, off + 1, none⟩) q.length (c - 1)))) := hk.mono fun k _ e => by subst e; exact hb.inG
  have HSB : Hid (∀ x, x < a.n → (upd a.F f (fUsed p) x).st = 1 → upd S f zeros x = upd a.B f zeros x) := fun x hx hs1 => by
    by_cases e : x = f
    · subst e; rw [upd_same, upd_same]
    · rw [upd_other _ _ e] at hs1 ⊢
      rw [upd_other _ _ e]
      exact hb.sb x hx hs1
  have mz := hb.hd.frozen 2
  have hfz : (f : Int) < (a.n : Int) := by omega
  have hnz : (a.n : Int) ≤ 32 := by omega
  have hlc : q.length + 1 ≤ c := by have := hcc.1; simpa using this
  have hlcz : (q.length : Int) + 1 ≤ (c : Int) := by omega
  have hqz : ((q.length : Int) + 1 == 0) = false := by rw [beq_eq_false_iff_ne]; omega
  have hcz := hcc.2
  unfold maxLen at hcz
  simp only [List.length_cons] at c2
  have hgLG := hgL.1
  have hgBG := hgB.1
  have hgLm := hgL.2.1
  have hgBm := hgB.2
  clear h hb hq hcl hcc hk hfr hbo hs hc h2 hgL hgB
  go_enter Try.func12, Try.ntmps12
  go_upto_region 5 with (go_at_call 28; (with_reducible refine HF.out.mono ?_); rintro e w' ⟨rfl, rfl⟩)
  clear c2 r0 mz
  generalize (if c = 1 then (some ⟨b, off, none⟩ : Option Addr) else some ⟨b, off + 1, none⟩) = A' at *
  generalize w.setCell ⟨m, 2, none⟩ (.slice A' q.length (c - 1)) = w1 at *
  have c0 := H1.out.c0
  have f0 := FR.c0 HFR.out hf
  have f1 := FR.c1 HFR.out hf
  have f2 := FR.c2 HFR.out hf
  have f3 := FR.c3 HFR.out hf
  have f4 := FR.c4 HFR.out hf
  have fz := OR.frozen HFR.out
  go_upto_region 6 with (fail)
  rw [show (((((w1.setCell ⟨gL, f * 5, none⟩ (.int .i64 1)).setCell ⟨gL, f * 5 + 1, none⟩ (.int .i64 p)).setCell ⟨gL, f * 5 + 2, none⟩ (.int .i64 0)).setCell ⟨gL, f * 5 + 3, none⟩ (.int .i64 0)).setCell ⟨gL, f * 5 + 4, none⟩ (.bool false)) = setF w1 gL f (fUsed p) from rfl]
  clear c0 f0 f1 f2 f3 f4 fz
  have HK2 := Lib.hid (kept_setF w1 gL f (fUsed p))
  have HBO2 := Lib.hid (OR.kept HBO.out HK2.out (fun e => hne e.symm))
  have c1 := HK2.out.cellN (p := ⟨m, 1, none⟩) H1.out.c1 (fun e => hgLm e.symm)
  have HFRs := Lib.hid (FR.setF HFR.out f (fUsed p))
  generalize setF w1 gL f (fUsed p) = w2 at *
  have q1 := up_cell (F := fun _ => False) (w := w2.drew) (p := ⟨m, 1, none⟩) c1 id
  refine wp_region_stages (Kept (· = gB)) (kept_refl _) (kept_trans _) [([0, 1, 2, 3, 4], 5), ([6], 7)] [] (by kernel_rfl) (by kernel_rfl) ?_
  simp only [selSt, sel, List.map_cons, List.map_nil, List.getD_cons_succ, List.getD_cons_zero]
  refine st_cons fun K1 hK1 => ?_
  have q1 := up_cell (F := (· = gB)) (w := w2.drew) (p := ⟨m, 1, none⟩) c1 (fun e => hgBm e.symm)
  repeat (go_big_quiet_step (fail))
  refine wpQuiet_nil ?_
  clear q1
  go_wp2_with (go_at_call 36; (with_reducible refine zeros_any.mono ?_); rintro e w3 ⟨rfl, hg⟩; have HG3 := Lib.hid hg; clear hg)
  refine norm_up (hK1 _ _ HG3.out.kept (st_cons fun K2 hK2 => ?_))
  clear hK1 K1
  have HBO3 := Lib.hid (OR.grow HBO2.out ((Kept.drew' w2).trans HG3.out))
  have s0 := OR.cell HBO3.out (i := f) (by omega)
  have sz := OR.frozen HBO3.out f
  repeat (go_big_quiet_step (fail))
  refine wpQuiet_nil ?_
  go_wp2
  refine norm_up (hK2 _ _ (kept_set _ _ _ _) (st_nil fun K4 hK4 => wpQuiet_nil (hK4 _ ?_)))
  clear hK2 hK4 K2 K4 s0 sz
  have HKB : Hid (Kept (· = gB) w2 (w3.setCell ⟨gB, f, none⟩ (.string (strOfNums zeros)))) := ((Kept.drew' w2).trans HG3.out.kept).trans (kept_set _ _ _ _)
  have HBO4 : Hid (OR (w3.setCell ⟨gB, f, none⟩ (.string (strOfNums zeros))) gB 9 1 cB a.n (scell (upd S f zeros))) := (OR.set HBO3.out f _).congr fun i _ => scell_set i
  have H2 : RMem w2 G m (.slice (some ⟨gL, 0, none⟩) a.n cL) (.slice (some ⟨gB, 0, none⟩) a.n cB) A' (c - 1) S ⟨a.n, upd a.F f (fUsed p), S, q⟩ := RMem.frm (a := ⟨a.n, a.F, S, q⟩) (RMem.any (a := ⟨a.n, a.F, a.B, q⟩) H1.out fun _ _ _ => rfl) HFRs.out HK2.out fun _ _ _ => rfl
  have H3 := Lib.hid (RMem.bod (a := ⟨a.n, upd a.F f (fUsed p), S, q⟩) (B' := upd a.B f zeros) H2 HBO4.out HKB.out HSB.out)
  clear H2
  go_wp2
  go_ret
  exact ⟨rfl, ⟨HG.out, _, _, _, _, _, H3.out⟩, (HK1.out.trans (HK2.out.mono fun k _ e => by subst e; exact hgLG)).trans (HKB.out.mono fun k _ e => by subst e; exact hgBG)⟩
theorem rtake_any (h : RAt w G m a) (p : Int) : Calls Try.prog 12 #[.pointer (some ⟨m, 0, none⟩), .int .i64 p] w (RPost G m w (.int .i64 (a.takeC p)) (a.take p)) := by
  cases hc : a.can p with
  | false =>
    have e1 : a.takeC p = -1 := by unfold Ar.takeC; rw [hc]; rfl
    have e2 : a.take p = a := by unfold Ar.take; rw [hc]; rfl
    rw [e1, e2]
    exact (rtake_bad h p hc).mono fun e w' ⟨h1, h2⟩ => ⟨h1, h2 ▸ h, h2 ▸ Kept.refl _ _⟩
  | true =>
    cases hq : a.Q with
    | nil =>
      have e1 : a.takeC p = -1 := by unfold Ar.takeC; rw [if_pos hc, hq]; rfl
      have e2 : a.take p = a := by unfold Ar.take; rw [if_pos hc, hq]; rfl
      rw [e1, e2]
      exact (rtake_none h p hc hq).mono fun e w' ⟨h1, h2⟩ => ⟨h1, h2 ▸ h, h2 ▸ Kept.refl _ _⟩
    | cons f q =>
      have e1 : a.takeC p = (f : Int) := by unfold Ar.takeC; rw [if_pos hc, hq]; rfl
      have e2 : a.take p = ⟨a.n, upd a.F f (fUsed p), upd a.B f zeros, q⟩ := by unfold Ar.take; rw [if_pos hc, hq]; rfl
      rw [e1, e2]
      exact rtake_good h p hc f q hq

/-! ### Set -/
set_option maxHeartbeats 2000000 in
theorem rset_any (h : RAt w G m a) (k off : Int) (zs : List Int) (hn : zs.length ≤ 1000) : Calls Try.prog 20 #[.pointer (some ⟨m, 0, none⟩), .int .i64 k, .int .i64 off, .string (strOfNums zs)] w (RPost G m w (.int .i64 (a.setC k off zs)) (a.set k off zs)) := by
  have HU := Lib.hid (rused_any h k)
  have hsz := str_size zs
  have hlz : (zs.length : Int) ≤ 1000 := by omega
  cases hu : a.used k with
  | false =>
    have e1 : a.setC k off zs = 2 := by unfold Ar.setC; rw [hu]; rfl
    have e2 : a.set k off zs = a := by unfold Ar.set; rw [e1]; rfl
    rw [e1, e2]
    rw [hu] at HU
    have HA := Lib.hid h
    clear h hu e1 e2
    go_enter Try.func20, Try.ntmps20
    go_wp2_with (go_at_call 38; (with_reducible refine HU.out.mono ?_); rintro e w' ⟨rfl, rfl⟩)
    go_ret
    exact ⟨rfl, HA.out, Kept.refl _ _⟩
  | true =>
    rw [hu] at HU
    obtain ⟨f, rfl, hf, hs⟩ := used_iff.1 hu
    have HG := Lib.hid (h.good.set (f : Int) off zs)
    have hn32 := h.good.n
    by_cases hin : 0 ≤ off ∧ off + (zs.length : Int) ≤ 16
    · obtain ⟨o, rfl⟩ := Int.eq_ofNat_of_zero_le hin.1
      have ho : o + zs.length ≤ 16 := by omega
      have e1 : a.setC (f : Int) (o : Int) zs = 0 := by unfold Ar.setC; rw [if_pos hu, if_pos hin]
      have e2 : a.set (f : Int) (o : Int) zs = ⟨a.n, upd a.F f ⟨(a.F f).st, (a.F f).pg, (a.F f).pn, true⟩, upd a.B f (ArM.splice (a.B f) o zs), a.Q⟩ := by unfold Ar.set; rw [if_pos e1, Int.toNat_natCast, Int.toNat_natCast]
      rw [e2] at HG
      rw [e1, e2]
      obtain ⟨vL, vB, A, c, S, hb⟩ := h.mem
      obtain ⟨gL, cL, rfl, hfr, hgL⟩ := hb.fr.form (by omega)
      obtain ⟨gB, cB, rfl, hbo, hgB⟩ := hb.bo.form (by omega)
      have hne : gL ≠ gB := fun e => hgL.2.2 (by rw [e]; rfl)
      have hb16 := h.good.b f
      have hSf := hb.sb f hf hs
      have s0 := OR.cell hbo (i := f) (by omega)
      rw [scell_at, hSf] at s0
      have sz := OR.frozen hbo f
      have c1 := hb.c1
      have HBO : Hid (OR (w.setCell ⟨gB, f, none⟩ (.string (strOfNums (ArM.splice (a.B f) o zs)))).drew gB 9 1 cB a.n (scell (upd S f (ArM.splice (a.B f) o zs)))) := OR.grow ((OR.set hbo f _).congr fun i _ => scell_set i) (Kept.drew' _)
      have HKB : Hid (Kept (· = gB) w (w.setCell ⟨gB, f, none⟩ (.string (strOfNums (ArM.splice (a.B f) o zs)))).drew) := (kept_set _ _ _ _).drew
      have H1 := Lib.hid (RMem.bod (B' := upd a.B f (ArM.splice (a.B f) o zs)) hb HBO.out HKB.out fun x hx hs1 => by
        by_cases e : x = f
        · subst e; rw [upd_same, upd_same]
        · rw [upd_other _ _ e, upd_other _ _ e]; exact hb.sb x hx hs1)
      have HFR := Lib.hid (OR.kept hfr HKB.out hne)
      have hx1 : ∀ w, (Instr.sliceAt 9 (.string (strOfNums (a.B f))) none (some (.int .i64 (o : Int))) none).run Try.prog w = .ok (.string (strOfNums ((a.B f).take o))) w := fun w => by
        have := run_slice_string_h (P := Try.prog) w 9 (strOfNums (a.B f)) Try.underlying9 .i64 (o : Int) (by omega) (by rw [str_size]; omega)
        rw [run_sliceAt_string w 9 _ _ _ _ Try.underlying9, this, Int.toNat_natCast, str_take]
      have hx2 : ∀ w, (Instr.sliceAt 9 (.string (strOfNums (a.B f))) (some (.int .i64 ((o : Int) + (zs.length : Int)))) none none).run Try.prog w = .ok (.string (strOfNums ((a.B f).drop (o + zs.length)))) w := fun w => by
        have := run_slice_string_l (P := Try.prog) w 9 (strOfNums (a.B f)) Try.underlying9 .i64 ((o : Int) + (zs.length : Int)) (by omega) (by rw [str_size]; omega)
        rw [run_sliceAt_string w 9 _ _ _ _ Try.underlying9, this, show ((o : Int) + (zs.length : Int)).toNat = o + zs.length by omega, str_size, str_drop _ _ _ rfl (by omega)]
      have hszB : (strOfNums (a.B f)).size = 16 := by rw [str_size]; exact hb16
      have hext1 : (strOfNums (a.B f)).extract 0 o = strOfNums ((a.B f).take o) := str_take _ _
      have hext2 : (strOfNums (a.B f)).extract (o + zs.length) 16 = strOfNums ((a.B f).drop (o + zs.length)) := str_drop _ _ _ hb16 (by omega)
      have htn : ((o : Int) + (zs.length : Int)).toNat = o + zs.length := by omega
      have hoz0 : (o : Int) ≤ 16 := by omega
      have hoz3 : (0 : Int) ≤ (o : Int) + (zs.length : Int) := by omega
      have hsz1 : ((strOfNums ((a.B f).take o)).size : Int) ≤ 8388608 := by rw [str_size, List.length_take]; omega
      have hsz2 : ((strOfNums zs).size : Int) ≤ 8388608 := by rw [str_size]; omega
      have hsz3 : ((strOfNums ((a.B f).take o ++ zs)).size : Int) ≤ 8388608 := by rw [str_size, List.length_append, List.length_take]; omega
      have hsz4 : ((strOfNums ((a.B f).drop (o + zs.length))).size : Int) ≤ 8388608 := by rw [str_size, List.length_drop]; omega
      have hap1 := str_append ((a.B f).take o) zs
      have hap2 : strOfNums ((a.B f).take o ++ zs) ++ strOfNums ((a.B f).drop (o + zs.length)) = strOfNums (ArM.splice (a.B f) o zs) := by
        rw [str_append]
        unfold ArM.splice
        rw [List.append_assoc]
      have hl8 : (zs.length : Int) ≤ 8388608 := by omega
      have hoz : (o : Int) + (zs.length : Int) ≤ 16 := by omega
      have hfz : (f : Int) < (a.n : Int) := by omega
      have hnz : (a.n : Int) ≤ 32 := by omega
      have hgLG := hgL.1
      have hgBG := hgB.1
      have hgBm := hgB.2
      have hgLm := hgL.2.1
      clear h hb hfr hbo hu hs e1 e2 hin hgL hgB hb16 hSf ho hn
      go_enter Try.func20, Try.ntmps20
      go_upto_region 5 with (go_at_call 38; (with_reducible refine HU.out.mono ?_); rintro e w' ⟨rfl, rfl⟩)
      have q0 := up_cell (F := fun _ => False) (w := w.drew) (p := ⟨gB, f, none⟩) s0 id
      have q1 := up_cell (F := fun _ => False) (w := w.drew) (p := ⟨m, 1, none⟩) c1 id
      have q2 := up_run (F := fun _ => False) (P := Try.prog) (w := w.drew) fun w' _ => hx1 w'
      have q3 := up_run (F := fun _ => False) (P := Try.prog) (w := w.drew) fun w' _ => hx2 w'
      clear hx1 hx2 q2 q3
      refine wp_region_tree Grow (Kept (· = gB)) (kept_refl _) (kept_trans _) (kept_refl _) (kept_trans _) (fun _ _ h => h.mono fun _ _ x => x.elim) [30]
        (.one true [0, 1, 2, 3, 4, 5, 6, 7, 8, 9, 10, 11, 12, 13, 14, 15, 16, 17, 18, 19, 20, 21, 22, 23, 24, 25, 26, 27, 28, 29] 30 (.last false [])) (by kernel_rfl) (by kernel_rfl) ?_
      refine tr_oneE fun K hK => ?_
      simp only [sel, List.map_cons, List.map_nil, List.getD_cons_succ, List.getD_cons_zero]
      repeat (go_big_quiet_step (fail))
      refine wpQuiet_nil ?_
      clear q0 q1 hap1 hap2 hext1 hext2
      go_wp2
      refine norm_up (hK _ _ (Lr_late (by decide) (kept_set _ _ _ _)) ?_)
      clear hK K s0 sz c1
      refine tr_lastL fun K hK => ?_
      simp only [sel, List.map_cons, List.map_nil, List.getD_cons_succ, List.getD_cons_zero]
      refine wpQuiet_nil (hK _ ?_)
      clear hK K
      generalize (w.setCell ⟨gB, f, none⟩ (.string (strOfNums (ArM.splice (a.B f) o zs)))).drew = w1 at *
      have c0 := H1.out.c0
      have f4 := FR.c4 HFR.out hf
      have fz := OR.frozen HFR.out
      have HK4 := Lib.hid (kept_set w1 gL (f * 5 + 4) (.bool true))
      have H2 := Lib.hid (RMem.frm (a := ⟨a.n, a.F, upd a.B f (ArM.splice (a.B f) o zs), a.Q⟩) H1.out (FR.set4 HFR.out f true) HK4.out fun x hx hs1 => H1.out.sb x hx (by
        by_cases e : x = f
        · subst e; rw [upd_same] at hs1; exact hs1
        · rw [upd_other _ _ e] at hs1; exact hs1))
      go_wp2
      go_ret
      exact ⟨rfl, ⟨HG.out, _, _, _, _, _, H2.out⟩, (HKB.out.mono fun k _ e => by subst e; exact hgBG).trans (HK4.out.mono fun k _ e => by subst e; exact hgLG)⟩
    · have e1 : a.setC (f : Int) off zs = 6 := by unfold Ar.setC; rw [if_pos hu, if_neg hin]
      have e2 : a.set (f : Int) off zs = a := by unfold Ar.set; rw [e1]; rfl
      rw [e1, e2]
      have HA := Lib.hid h
      clear h hu hs e1 e2 HG
      by_cases h0 : off < 0
      · clear hin
        go_enter Try.func20, Try.ntmps20
        go_wp2_with (go_at_call 38; (with_reducible refine HU.out.mono ?_); rintro e w' ⟨rfl, rfl⟩)
        go_ret
        exact ⟨rfl, HA.out, Kept.refl _ _⟩
      · have h0' : 0 ≤ off := by omega
        by_cases h16 : 16 < off
        · clear hin h0
          go_enter Try.func20, Try.ntmps20
          go_wp2_with (go_at_call 38; (with_reducible refine HU.out.mono ?_); rintro e w' ⟨rfl, rfl⟩)
          go_ret
          exact ⟨rfl, HA.out, Kept.refl _ _⟩
        · have h16' : off ≤ 16 := by omega
          have hbad : 16 - off < (zs.length : Int) := by omega
          clear hin h0 h16
          go_enter Try.func20, Try.ntmps20
          go_wp2_with (go_at_call 38; (with_reducible refine HU.out.mono ?_); rintro e w' ⟨rfl, rfl⟩)
          go_ret
          exact ⟨rfl, HA.out, Kept.refl _ _⟩
end
end Go.Proofs.Ytcebjeemganhdaa.ArRefT
