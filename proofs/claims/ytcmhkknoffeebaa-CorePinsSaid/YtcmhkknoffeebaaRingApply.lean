/-
  What Apply computes (chapter 8), the code's and the document's: a list put right by touches.
-/
import Derived.Test.YtcmhkknoffeebaaRingForget
import Derived.Test.YtcmhkknoffeebaaListRefMore
namespace Go.Proofs.Ytcmhkknoffeebaa.RingA
open Go.ChangeShapes Go.WideShapes Go.ChangeAt Go.RowKit Go.Conc
open Go.Proofs.Ytcmhkknoffeebaa.Mem Go.Proofs.Ytcmhkknoffeebaa.Blk Go.Proofs.Ytcmhkknoffeebaa.ListM Go.Proofs.Ytcmhkknoffeebaa.Rowed Go.Proofs.Ytcmhkknoffeebaa.ListC Go.Proofs.Ytcmhkknoffeebaa.ListD Go.Proofs.Ytcmhkknoffeebaa.ListR Go.Proofs.Ytcmhkknoffeebaa.ListS Go.Proofs.Ytcmhkknoffeebaa.ListT Go.Proofs.Ytcmhkknoffeebaa.Stages

/-- One touch; touches one by one. -/
def mv (n : Nat) (zs : List Nat) (k : Int) : List Nat := if okO zs k then frontL n (outL zs k) k else zs
def applyL (n : Nat) (zs : List Nat) (ts : List Int) : List Nat := ts.foldl (mv n) zs
theorem applyL_snoc (n : Nat) (zs : List Nat) (ts : List Int) (k : Int) : applyL n zs (ts ++ [k]) = mv n (applyL n zs ts) k := by
  unfold applyL; rw [List.foldl_append]; rfl
theorem applyL_app (n : Nat) (zs : List Nat) (ts us : List Int) : applyL n zs (ts ++ us) = applyL n (applyL n zs ts) us := by
  unfold applyL; rw [List.foldl_append]
theorem applyL_nil (n : Nat) (zs : List Nat) : applyL n zs [] = zs := rfl
theorem ts_snoc {ts : List Int} {j : Nat} (hj : j < ts.length) : ts.take (j + 1) = ts.take j ++ [ts.getD j 0] := by
  rw [List.take_add_one, List.getD_eq_getElem?_getD, List.getElem?_eq_getElem hj]; rfl

/-- Each at most once, all below n. -/
def Fine (n : Nat) (zs : List Nat) : Prop := zs.Nodup ∧ ∀ x ∈ zs, x < n
section
variable {n : Nat} {zs : List Nat} {k : Int}
theorem Fine.len (h : Fine n zs) : zs.length ≤ n := len_le n zs h.1 h.2
theorem Fine.out (h : Fine n zs) (k : Int) : Fine n (outL zs k) := by
  unfold outL
  split
  · exact ⟨h.1.erase _, fun x hx => h.2 x (List.mem_of_mem_erase hx)⟩
  · exact h
theorem Fine.front (h : Fine n zs) (k : Int) : Fine n (frontL n zs k) := by
  unfold frontL
  split
  · rename_i e
    simp only [okF, Bool.and_eq_true, decide_eq_true_eq, Bool.not_eq_true', decide_eq_false_iff_not] at e
    refine ⟨List.nodup_cons.2 ⟨e.2, h.1⟩, fun x hx => ?_⟩
    rcases List.mem_cons.1 hx with rfl | hx
    · omega
    · exact h.2 x hx
  · exact h
theorem Fine.back (h : Fine n zs) (k : Int) : Fine n (backL n zs k) := by
  unfold backL
  split
  · rename_i e
    simp only [okF, Bool.and_eq_true, decide_eq_true_eq, Bool.not_eq_true', decide_eq_false_iff_not] at e
    refine ⟨?_, fun x hx => ?_⟩
    · rw [List.nodup_append]
      exact ⟨h.1, by simp, fun x hx y hy => by simp at hy; subst hy; exact fun e' => e.2 (e' ▸ hx)⟩
    · rcases List.mem_append.1 hx with hx | hx
      · exact h.2 x hx
      · simp at hx; subst hx; omega
  · exact h
theorem Fine.mv (h : Fine n zs) (k : Int) : Fine n (mv n zs k) := by
  unfold RingA.mv
  split
  · exact (h.out k).front k
  · exact h
theorem Fine.apply (h : Fine n zs) : ∀ ts : List Int, Fine n (applyL n zs ts) := fun ts => by
  unfold applyL
  induction ts generalizing zs with
  | nil => exact h
  | cons k l ih => exact ih (h.mv k)
end

section
variable {w : World} {d D n : Nat} {zs : List Nat}
set_option maxHeartbeats 1000000 in
theorem gapply_any (h : ListAt w d D n zs) {B' m : Nat} {A : Option Addr} {ts : List Int} (c : Nat) (hs : Sl w B' .i64 A m ts) (hA : 0 < m → ∀ x, A = some x → ¬ Own d D x.block) (hm : m ≤ 100000) :
    Calls Try.prog 23 #[.pointer (some ⟨d, 0, none⟩), .slice A m c] w fun e w' => e = .returned (.tuple #[]) ∧ ListAt w' d D n (applyL n zs ts) ∧ Kept (Own d D) w w' := by
  have H := Lib.hid h
  have HS := Lib.hid hs
  have HA := Lib.hid hA
  have hmz : (m : Int) ≤ 100000 := by omega
  clear h hs hA
  go_enter Try.func23, Try.ntmps23
  go_wp2
  go_loopg [8] m (fun gx i wr => ∃ t : Nat, t + gx = m ∧ i = .int .i64 (t : Int) ∧ ListAt wr d D n (applyL n zs (ts.take t)) ∧ Kept (Own d D) w wr)
  case atStart => exact ⟨0, by omega, rfl, H.out, Kept.refl _ _⟩
  case round =>
    obtain ⟨t, hg, rfl, hl, hk⟩ := hrel
    have HG := Lib.hid hg
    have HL := Lib.hid hl
    have HK := Lib.hid hk
    clear hg hl hk
    by_cases ht : t < m
    · have htz : (t : Int) < (m : Int) := by omega
      obtain ⟨b, o, rfl, _, hc⟩ := HS.out.at_ (by omega)
      have r1 := HK.out.cellN (hc t ht) (HA.out (by omega) ⟨b, o, none⟩ rfl)
      have HX := Lib.hid (ts_snoc (ts := ts) (j := t) (by rw [HS.out.len]; exact ht))
      clear hc
      generalize ts.getD t 0 = x at *
      have CO := Lib.hid (out_any HL.out x)
      have CF : Hid (∀ wx, ListAt wx d D n (outL (applyL n zs (ts.take t)) x) → Calls Try.prog 35 #[.pointer (some ⟨d, 0, none⟩), .int .i64 x] wx (ListPost d D n wx (.bool (okF n (outL (applyL n zs (ts.take t)) x) x)) (frontL n (outL (applyL n zs (ts.take t)) x) x))) := fun wx h => front_any h x
      have HE : Hid (applyL n zs (ts.take (t + 1)) = mv n (applyL n zs (ts.take t)) x) := by show _ = _; rw [HX.out, applyL_snoc]
      cases ho : okO (applyL n zs (ts.take t)) x with
      | true =>
        rw [ho] at CO
        have HE2 : Hid (applyL n zs (ts.take (t + 1)) = frontL n (outL (applyL n zs (ts.take t)) x) x) := by show _ = _; rw [HE.out, mv, if_pos ho]
        clear ho
        go_wp2_with (first
          | (go_at_call 34; (with_reducible refine CO.out.mono ?_); rintro e w2 ⟨rfl, hl, hk⟩; have HL2 := Lib.hid hl; have HK2 := Lib.hid hk; clear hl hk)
          | (go_at_call 35; (with_reducible refine (CF.out _ HL2.out).mono ?_); rintro e w3 ⟨rfl, hl, hk, _⟩; have HL3 := Lib.hid hl; have HK3 := Lib.hid hk; clear hl hk))
        go_roundg (m - (t + 1))
        case measure => have := HG.out; omega
        case rel => exact ⟨t + 1, by have := HG.out; omega, by go_num, by rw [HE2.out]; exact HL3.out, (HK.out.trans HK2.out).trans HK3.out⟩
      | false =>
        rw [ho] at CO
        have HE2 : Hid (applyL n zs (ts.take (t + 1)) = outL (applyL n zs (ts.take t)) x) := by show _ = _; rw [HE.out, mv, if_neg (by simp [ho]), outL, if_neg (by simp [ho])]
        clear ho
        go_wp2_with (go_at_call 34; (with_reducible refine CO.out.mono ?_); rintro e w2 ⟨rfl, hl, hk⟩; have HL2 := Lib.hid hl; have HK2 := Lib.hid hk; clear hl hk)
        go_roundg (m - (t + 1))
        case measure => have := HG.out; omega
        case rel => exact ⟨t + 1, by have := HG.out; omega, by go_num, by rw [HE2.out]; exact HL2.out, HK.out.trans HK2.out⟩
    · obtain rfl : t = m := by have := HG.out; omega
      have ha : ts.take t = ts := List.take_of_length_le (by rw [HS.out.len]; omega)
      have HQ : Hid (ListAt wr d D n (applyL n zs ts)) := by
        have := HL.out
        rwa [ha] at this
      clear ha
      go_wp2
      go_end0
      exact ⟨rfl, HQ.out, HK.out⟩
end
end Go.Proofs.Ytcmhkknoffeebaa.RingA
