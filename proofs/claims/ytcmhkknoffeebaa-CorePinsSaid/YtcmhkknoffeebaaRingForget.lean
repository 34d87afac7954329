/-
  What the functions of package ring compute (chapter 8): Forget.
-/
import Derived.Test.YtcmhkknoffeebaaRingTouch
namespace Go.Proofs.Ytcmhkknoffeebaa.RingF
open Go.ChangeShapes Go.WideShapes Go.ChangeAt Go.RowKit Go.Conc
open Go.Proofs.Ytcmhkknoffeebaa.Mem Go.Proofs.Ytcmhkknoffeebaa.Blk Go.Proofs.Ytcmhkknoffeebaa.Chan Go.Proofs.Ytcmhkknoffeebaa.RingC Go.Proofs.Ytcmhkknoffeebaa.RingD Go.Proofs.Ytcmhkknoffeebaa.RingT Go.Proofs.Ytcmhkknoffeebaa.Stages

/-- How many are f; those that are not. -/
def cntBy (zs : List Int) (f : Int) : Nat := (zs.filter fun x => decide (x = f)).length
def keepBy (zs : List Int) (f : Int) : List Int := zs.filter fun x => !decide (x = f)
theorem keep_len (zs : List Int) (f : Int) : (keepBy zs f).length ≤ zs.length := List.length_filter_le _ _
theorem cnt_len (zs : List Int) (f : Int) : cntBy zs f ≤ zs.length := List.length_filter_le _ _
theorem cnt_keep (f : Int) : ∀ zs : List Int, cntBy zs f + (keepBy zs f).length = zs.length
  | [] => rfl
  | x :: l => by
    have := cnt_keep f l
    unfold cntBy keepBy at *
    by_cases e : x = f
    · rw [List.filter_cons_of_pos (by simpa using e), List.filter_cons_of_neg (by simpa using e), List.length_cons, List.length_cons]; omega
    · rw [List.filter_cons_of_neg (by simpa using e), List.filter_cons_of_pos (by simpa using e), List.length_cons, List.length_cons]; omega
theorem take_snoc {zs : List Int} {j : Nat} (hj : j < zs.length) : zs.take (j + 1) = zs.take j ++ [zs.getD j 0] := by
  rw [List.take_add_one, List.getD_eq_getElem?_getD, List.getElem?_eq_getElem hj]; rfl
theorem by_eq {zs : List Int} {j : Nat} {f x : Int} (hj : j < zs.length) (hx : zs.getD j 0 = x) (h : x = f) : cntBy (zs.take (j + 1)) f = cntBy (zs.take j) f + 1 ∧ keepBy (zs.take (j + 1)) f = keepBy (zs.take j) f := by
  subst hx
  rw [take_snoc hj]
  unfold cntBy keepBy
  rw [List.filter_append, List.filter_append, List.filter_cons_of_pos (by simpa using h), List.filter_cons_of_neg (by simpa using h)]
  simp
theorem by_ne {zs : List Int} {j : Nat} {f x : Int} (hj : j < zs.length) (hx : zs.getD j 0 = x) (h : x ≠ f) : cntBy (zs.take (j + 1)) f = cntBy (zs.take j) f ∧ keepBy (zs.take (j + 1)) f = keepBy (zs.take j) f ++ [x] := by
  subst hx
  rw [take_snoc hj]
  unfold cntBy keepBy
  rw [List.filter_append, List.filter_append, List.filter_cons_of_neg (by simpa using h), List.filter_cons_of_pos (by simpa using h)]
  simp

section
variable {w w' w2 : World} {B d c : Nat} {C : Option Nat} {zs us ys : List Int} {F : Nat → Prop}

end
end Go.Proofs.Ytcmhkknoffeebaa.RingF
