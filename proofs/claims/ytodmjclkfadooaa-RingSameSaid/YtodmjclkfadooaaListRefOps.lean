/-
  The document's list (chapter 4, lavaboref4): its steps.
-/
import Derived.Test.YtodmjclkfadooaaListRef
namespace Go.Proofs.Ytodmjclkfadooaa.ListS
open Go.ChangeShapes Go.WideShapes Go.ChangeAt Go.RowKit
open Go.Proofs.Ytodmjclkfadooaa.Mem Go.Proofs.Ytodmjclkfadooaa.Blk Go.Proofs.Ytodmjclkfadooaa.ListM Go.Proofs.Ytodmjclkfadooaa.Rowed Go.Proofs.Ytodmjclkfadooaa.ListC Go.Proofs.Ytodmjclkfadooaa.ListD Go.Proofs.Ytodmjclkfadooaa.ListR Go.Proofs.Ytodmjclkfadooaa.Stages

section
variable {w : World} {m n : Nat} {F : Nat → Prop} {zs : List Nat}

/-! ### The steps that turn it -/
def RPost (m n : Nat) (F : Nat → Prop) (w : World) (v : Value) (zs : List Nat) (e : Ending) (w' : World) : Prop :=
  e = .returned v ∧ RefAt w' m n F zs ∧ Kept (· = m) w w'

theorem rfront_bad (h : RefAt w m n F zs) (k : Int) (hn : zs.Nodup) (hl : zs.length ≤ 1024) (hk : okF n zs k = false) (hlt : ∀ x ∈ zs, x < n) :
    Calls Try.prog 30 #[.pointer (some ⟨m, 0, none⟩), .int .i64 k] w fun e w' => e = .returned (.bool false) ∧ w = w' := by
  obtain ⟨A, c, h1, h2, h3, h4⟩ := h.hd
  have c0 := h1.cell (i := 0) (by omega)
  have c1 := h1.cell (i := 1) (by omega)
  simp only [Nat.one_ne_zero, if_false, if_true] at c1 c0
  have HP := Lib.hid (place_any A c _ zs k hn (by omega) h2)
  clear h1 h4 h
  by_cases h0 : k < 0
  · clear hk
    go_enter Try.func30, Try.ntmps30
    go_wp2
    go_ret
    exact ⟨rfl, rfl⟩
  · by_cases hN : (n : Int) ≤ k
    · clear hk
      go_enter Try.func30, Try.ntmps30
      go_wp2
      go_ret
      exact ⟨rfl, rfl⟩
    · have ho : okO zs k = true := by
        unfold okF at hk
        unfold okO
        simpa [show 0 ≤ k by omega, show k < (n : Int) by omega] using hk
      have hp : placeI zs k = ((zs.idxOf k.toNat : Nat) : Int) := by unfold placeI; rw [if_pos ho]
      rw [hp] at HP
      generalize zs.idxOf k.toNat = i at *
      have h0' : 0 ≤ k := by omega
      have hN' : k < (n : Int) := by omega
      clear hk ho hp hlt hn h2
      go_enter Try.func30, Try.ntmps30
      go_wp2_with (go_at_call 28; (with_reducible refine HP.out.mono ?_); rintro e w' ⟨rfl, rfl⟩)
      go_ret
      exact ⟨rfl, rfl⟩

theorem rfront_good (h : RefAt w m n F zs) (k : Nat) (hkn : k < n) (hkz : k ∉ zs) (hn : zs.Nodup) (hl : zs.length ≤ 1024) (low : ∀ k, F k → k < w.heap.size) :
    Calls Try.prog 30 #[.pointer (some ⟨m, 0, none⟩), .int .i64 (k : Int)] w (RPost m n F w (.bool true) (k :: zs)) := by
  obtain ⟨A, c, h1, h2, h3, h4⟩ := h.hd
  have c0 := h1.cell (i := 0) (by omega)
  have c1 := h1.cell (i := 1) (by omega)
  simp only [Nat.one_ne_zero, if_false, if_true] at c1 c0
  have HP := Lib.hid (place_any A c _ zs (k : Int) hn (by omega) h2)
  have hp : placeI zs (k : Int) = -1 := by unfold placeI okO; simp [hkz]
  rw [hp] at HP
  have hkz' : (k : Int) < (n : Int) := by omega
  have HLT := Lib.hid h.lt
  have HLOW := Lib.hid low
  have HA := Lib.hid h2
  have H := Lib.hid h
  clear h1 h4 h2 h3 hp low
  go_enter Try.func30, Try.ntmps30
  go_upto_region 3 with (go_at_call 28; (with_reducible refine HP.out.mono ?_); rintro e w' ⟨rfl, rfl⟩)
  have hga : Grow w (w.alloc (.cells #[.int .i64 (k : Int)] 3)) := (Kept.refl _ _).alloc _
  have hown := World.ownsRow_lit (base := w.heap.size) (e := 3) (size := 1) w #[.int .i64 (k : Int)] 1 (Nat.le_refl _) (by unfold maxLen; omega) rfl
  obtain ⟨v', w1, hr, ho1, hb1⟩ := append_sl (m := zs.length) (A := A) (B := w.heap.size) (c := c) (ys := [(k : Int)]) 22 hown (Sl.kept HA.out hga (Nat.le_refl _) (fun _ _ x => x)) (by omega) (by simp)
  have HG1 : Hid (Grow w w1) := Kept.of_below (hga.below.trans hb1)
  obtain ⟨A1, c1', rfl, hs1, hc1, hm1, hx1⟩ := own_form ho1
  have hlen : 1 + zs.length = (k :: zs).length := by rw [List.length_cons]; omega
  rw [hlen] at hr hs1 hc1
  have HR := Lib.hid hr
  have HS1 := Lib.hid (And.intro hs1 (And.intro hc1 (And.intro hm1 hx1)))
  have ca := hga.cellN c1 id
  clear hr hs1 hc1 hm1 hx1 ho1 hb1 hown hga hlen
  obtain ⟨A0, c00, hrow, _⟩ := (H.out.grow HG1.out).hd
  have r1 := hrow.cell (i := 1) (by omega)
  have f1 := hrow.frozen 1
  clear hrow
  have HF : Hid (RefAt (w1.setCell ⟨m, 1, none⟩ (.slice A1 (k :: zs).length c1')) m n F (k :: zs)) := (H.out.grow HG1.out).put HS1.out.1 ⟨HS1.out.2.1, HS1.out.2.2.1⟩ (fun x hx => by
    have h1 := HS1.out.2.2.2 x hx
    have h2 := HLT.out
    refine ⟨by omega, fun hf => ?_⟩
    have := HLOW.out _ hf
    omega)
  have HK : Hid (Kept (· = m) w (w1.setCell ⟨m, 1, none⟩ (.slice A1 (k :: zs).length c1'))) := Kept.setCell (F := (· = m)) (Grow.kept HG1.out) (p := ⟨m, 1, none⟩) (fun _ => rfl) _
  generalize (k :: zs).length = L at *
  go_wp2_with (at_builtin; refine Lib.wpList_append_run _ rfl _ _ _ _ rfl _ _ rfl rfl _ _ HR.out ?_)
  go_ret
  exact ⟨rfl, HF.out, HK.out⟩
end
end Go.Proofs.Ytodmjclkfadooaa.ListS
