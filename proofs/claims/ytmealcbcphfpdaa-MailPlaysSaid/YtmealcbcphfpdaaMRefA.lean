/-
  The document's slots (chapter 9, lavaboref4): task, at, place, without.
-/
import Derived.Test.YtmealcbcphfpdaaApp
import Derived.Test.YtmealcbcphfpdaaMailMath
import Derived.RegionTactic
import Derived.Deep.Cut
import Derived.Deep.DeepCutAuto
import Derived.Deep.CutBlock
import Derived.Deep.CutRange
import Derived.WalkSpells
namespace Go.Proofs.Ytmealcbcphfpdaa.MRefA
open Go.ChangeShapes Go.WideShapes Go.ChangeAt Go.RowKit Go.Conc
open Go.Proofs.Ytmealcbcphfpdaa.Mem Go.Proofs.Ytmealcbcphfpdaa.Blk Go.Proofs.Ytmealcbcphfpdaa.Cells Go.Proofs.Ytmealcbcphfpdaa.Chan Go.Proofs.Ytmealcbcphfpdaa.Prs Go.Proofs.Ytmealcbcphfpdaa.App Go.Proofs.Ytmealcbcphfpdaa.MailM Go.Proofs.Ytmealcbcphfpdaa.Stages

section
variable {w : World}
theorem task_any (k : Int) : Calls Try.prog 20 #[.int .i64 k] w fun e w' => e = .returned (.bool (isT k)) ∧ w = w' := by
  by_cases h0 : 0 ≤ k
  · by_cases h1 : k < 64
    · have e : isT k = true := isT_iff.2 ⟨h0, h1⟩
      rw [e]
      clear e
      go_enter Try.func20, Try.ntmps20
      go_wp2
      go_ret
      exact ⟨rfl, rfl⟩
    · have e : isT k = false := by simp [isT]; omega
      rw [e]
      clear e
      have h2 : decide (k < 64) = false := decide_eq_false h1
      clear h1
      go_enter Try.func20, Try.ntmps20
      go_wp2
      go_ret
      exact ⟨rfl, rfl⟩
  · have e : isT k = false := by simp [isT]; omega
    rw [e]
    clear e
    have h2 : k < 0 := by omega
    clear h0
    go_enter Try.func20, Try.ntmps20
    go_wp2
    go_ret
    exact ⟨rfl, rfl⟩

theorem place_any (A : Option Addr) (c B : Nat) (zs : List Int) (k : Int) (hn : zs.Nodup) (hl : zs.length ≤ 100000) (h : Sl w B .i64 A zs.length zs) :
    Calls Try.prog 22 #[.slice A zs.length c, .int .i64 k] w fun e w' => e = .returned (.int .i64 (idxI zs k)) ∧ w = w' := by
  have H := Lib.hid h
  have HN := Lib.hid hn
  have hlz : (zs.length : Int) ≤ 100000 := by omega
  clear h hn
  go_enter Try.func22, Try.ntmps22
  go_wp2
  go_loopg [5] zs.length (fun gx i wr => ∃ j : Nat, j + gx = zs.length ∧ i = .int .i64 (j : Int) ∧ (∀ i, i < j → zs.getD i 0 ≠ k) ∧ w = wr)
  case atStart => exact ⟨0, by omega, rfl, fun i hi => absurd hi (by omega), rfl⟩
  case round =>
    obtain ⟨j, hg, rfl, hno, rfl⟩ := hrel
    have HG := Lib.hid hg
    have HNO := Lib.hid hno
    clear hg hno
    by_cases hj : j < zs.length
    · have hjz : (j : Int) < (zs.length : Int) := by omega
      obtain ⟨b, o, rfl, _, hc⟩ := H.out.at_ (by omega)
      have r1 := hc j hj
      have HOK := Lib.hid (idx_hit HN.out hj)
      have HX : Hid (∀ y : Int, zs.getD j 0 = y → ∀ i, i < j + 1 → y ≠ k → zs.getD i 0 ≠ k) := fun y hy i hi hne => by
        by_cases e : i = j
        · rw [e, hy]; exact hne
        · exact HNO.out i (by omega)
      clear hc
      generalize zs.getD j 0 = x at *
      by_cases hx : x = k
      · subst hx
        go_wp2
        go_ret
        exact ⟨by rw [HOK.out]; rfl, rfl⟩
      · have hx' : (x == k) = false := by simpa using hx
        go_wp2
        go_roundg (gk - 1)
        case measure => have := HG.out; omega
        case rel => exact ⟨j + 1, by have := HG.out; omega, by go_num, fun i hi => HX.out x rfl i hi hx, rfl⟩
    · obtain rfl : j = zs.length := by have := HG.out; omega
      have HE : Hid (idxI zs k = -1) := idx_none HNO.out
      go_wp2
      go_ret
      exact ⟨by rw [HE.out]; rfl, rfl⟩
theorem at_any (A : Option Addr) (c B : Nat) (zs : List P2) (k : Int) (hn : (fsts zs).Nodup) (hl : zs.length ≤ 100000) (h : Pl w B A zs.length zs) :
    Calls Try.prog 21 #[.slice A zs.length c, .int .i64 k] w fun e w' => e = .returned (.int .i64 (idxI (fsts zs) k)) ∧ w = w' := by
  have H := Lib.hid h
  have HN := Lib.hid hn
  have hlz : (zs.length : Int) ≤ 100000 := by omega
  clear h hn
  go_enter Try.func21, Try.ntmps21
  go_wp2
  go_loopg [5] zs.length (fun gx i wr => ∃ j : Nat, j + gx = zs.length ∧ i = .int .i64 (j : Int) ∧ (∀ i, i < j → (fsts zs).getD i 0 ≠ k) ∧ w = wr)
  case atStart => exact ⟨0, by omega, rfl, fun i hi => absurd hi (by omega), rfl⟩
  case round =>
    obtain ⟨j, hg, rfl, hno, rfl⟩ := hrel
    have HG := Lib.hid hg
    have HNO := Lib.hid hno
    clear hg hno
    by_cases hj : j < zs.length
    · have hjz : (j : Int) < (zs.length : Int) := by omega
      obtain ⟨b, o, rfl, _, hc⟩ := H.out.at_ (by omega)
      have r1 := (hc j hj).1
      have hf := fsts_get hj
      have HOK := Lib.hid (idx_hit HN.out (by rw [fsts_len]; exact hj))
      have HX : Hid (∀ y : Int, (fsts zs).getD j 0 = y → ∀ i, i < j + 1 → y ≠ k → (fsts zs).getD i 0 ≠ k) := fun y hy i hi hne => by
        by_cases e : i = j
        · rw [e, hy]; exact hne
        · exact HNO.out i (by omega)
      rw [hf] at HOK HX
      clear hc hf
      generalize (zs.getD j (0, 0)).1 = x at *
      by_cases hx : x = k
      · subst hx
        go_wp2
        go_ret
        exact ⟨by rw [HOK.out]; rfl, rfl⟩
      · have hx' : (x == k) = false := by simpa using hx
        go_wp2
        go_roundg (gk - 1)
        case measure => have := HG.out; omega
        case rel => exact ⟨j + 1, by have := HG.out; omega, by go_num, fun i hi => HX.out x rfl i hi hx, rfl⟩
    · obtain rfl : j = zs.length := by have := HG.out; omega
      have HE : Hid (idxI (fsts zs) k = -1) := idx_none fun i hi => HNO.out i (by rw [fsts_len] at hi; exact hi)
      go_wp2
      go_ret
      exact ⟨by rw [HE.out]; rfl, rfl⟩

/-- Where 'without' lays what is left. -/
def Without (w : World) (i : Nat) (zs : List Int) (e : Ending) (w' : World) : Prop :=
  ∃ A c, e = .returned (.slice A (zs.length - 1) c) ∧ Sl w' w'.heap.size .i64 A (zs.length - 1) (zs.take i ++ zs.drop (i + 1)) ∧ zs.length - 1 ≤ c ∧ c ≤ maxLen ∧ (∀ x, A = some x → w.heap.size ≤ x.block) ∧ Grow w w'
theorem without_any {zs : List Int} (A : Option Addr) (c B : Nat) (i : Nat) (hi : i < zs.length) (hl : zs.length ≤ 1024) (hc : zs.length ≤ c ∧ c ≤ maxLen) (h : Sl w B .i64 A zs.length zs) (hB : B ≤ w.heap.size) :
    Calls Try.prog 24 #[.slice A zs.length c, .int .i64 (i : Int)] w (Without w i zs) := by
  have hiz : (i : Int) < (zs.length : Int) := by omega
  have hlz : (zs.length : Int) ≤ 1024 := by omega
  obtain ⟨h1, h2⟩ := hc
  unfold maxLen at h2
  have hcz : (zs.length : Int) ≤ (c : Int) := by omega
  have hcm : (c : Int) ≤ 9223372036854775807 := by omega
  have H := Lib.hid h
  obtain ⟨b, off, rfl, hb, _⟩ := h.2 (by omega)
  clear h
  have HCUT : Hid (Sl w B .i64 (if c = i + 1 then (some ⟨b, off, none⟩ : Option Addr) else some ⟨b, off + (i + 1), none⟩) (zs.length - (i + 1)) (zs.drop (i + 1))) := by
    have := Sl.cut H.out (m := i + 1) (cap := c) (by omega) h1
    have e : Option.map (fun x : Addr => x.add (i + 1)) (some (⟨b, off, none⟩ : Addr)) = some ⟨b, off + (i + 1), none⟩ := by simp [Addr.add]
    rw [e] at this
    exact this
  have hga : Grow w (w.alloc (.cells #[] 3)).drew := ((Kept.refl _ _).alloc _).drew
  have hown := World.ownsRow_lit (base := w.heap.size) (e := 3) (size := 1) w #[] 0 (Nat.le_refl _) (by unfold maxLen; omega) rfl
  have hown' : (w.alloc (.cells #[] 3)).drew.ownsRow w.heap.size 3 1 (.slice (some ⟨w.heap.size, 0, none⟩) 0 0) 0 ([].map (Value.int .i64)) := hown
  obtain ⟨v', w1, hr, ho1, hb1⟩ := append_sl (m := i) (A := some ⟨b, off, none⟩) (B := B) (c := c) (ys := []) 27 hown' (Sl.kept (Sl.take H.out (m := i) (by omega)) hga hB (fun _ _ x => x)) (by omega) (by simp)
  have HG1 : Hid (Grow w w1) := grow_own hown' hga hb1 (Nat.le_refl _)
  have HB1 : Hid (Kept (w.heap.size ≤ ·) (w.alloc (.cells #[] 3)).drew w1) := kept_own hown' hb1
  have HR := Lib.hid hr
  have HO1 := Lib.hid ho1
  clear hr ho1 hb1 hown hown' hga
  go_enter Try.func24, Try.ntmps24
  go_upto_region 1 with (fail)
  refine wp_region_stages (Kept (w.heap.size ≤ ·)) (kept_refl _) (kept_trans _) [([1, 2, 3, 5, 6, 7, 8], 0), ([], 4), ([], 9)] [10] (by kernel_rfl) (by kernel_rfl) ?_
  simp only [selSt, sel, List.map_cons, List.map_nil, List.getD_cons_succ, List.getD_cons_zero]
  refine st_cons fun K1 hK1 => ?_
  repeat (go_big_quiet_step (fail))
  refine wpQuiet_nil ?_
  generalize (if c = i + 1 then (some ⟨b, off, none⟩ : Option Addr) else some ⟨b, off + (i + 1), none⟩) = A2 at HCUT ⊢
  go_wp2
  refine norm_up (hK1 _ _ ((Kept.refl _ _).alloc _) (st_cons fun K2 hK2 => wpQuiet_nil ?_))
  clear hK1 K1
  go_wp2_with (at_builtin; refine Lib.wpList_append_run _ rfl _ _ _ _ rfl _ _ rfl rfl _ _ HR.out ?_)
  refine norm_up (hK2 _ _ HB1.out (st_cons fun K3 hK3 => wpQuiet_nil ?_))
  clear hK2 K2
  obtain ⟨v2, w2, hr2, ho2, hb2⟩ := append_sl (m := zs.length - (i + 1)) (A := A2) (B := B) (c := c - (i + 1)) 27 HO1.out (Sl.kept HCUT.out HG1.out hB (fun _ _ x => x)) (by omega) HG1.out.size
  have HG2 : Hid (Grow w w2) := grow_own HO1.out HG1.out hb2 (Nat.le_refl _)
  have HB2 : Hid (Kept (w.heap.size ≤ ·) w1 w2) := kept_own HO1.out hb2
  obtain ⟨A3, c3, rfl, hs3, hc3, hm3, hx3⟩ := own_form ho2
  have hlen : 0 + i + (zs.length - (i + 1)) = zs.length - 1 := by omega
  have hz : [] ++ zs.take i ++ zs.drop (i + 1) = zs.take i ++ zs.drop (i + 1) := by rw [List.nil_append]
  rw [hlen] at hr2 hs3 hc3
  rw [hz] at hs3
  have HR2 := Lib.hid hr2
  have HS3 := Lib.hid (And.intro hs3 (And.intro hc3 (And.intro hm3 hx3)))
  clear hr2 hs3 hc3 hm3 hx3 ho2 hb2 hlen hz
  go_wp2_with (at_builtin; refine Lib.wpList_append_run _ rfl _ _ _ _ rfl _ _ rfl rfl _ _ HR2.out ?_)
  refine norm_up (hK3 _ _ HB2.out (st_nil fun K4 hK4 => ?_))
  clear hK3 K3
  repeat (go_big_quiet_step (fail))
  refine wpQuiet_nil (hK4 _ ?_)
  clear hK4 K4
  go_wp2
  go_ret
  exact ⟨A3, c3, rfl, HS3.out.1, HS3.out.2.1, HS3.out.2.2.1, HS3.out.2.2.2, HG2.out⟩
end
end Go.Proofs.Ytmealcbcphfpdaa.MRefA
