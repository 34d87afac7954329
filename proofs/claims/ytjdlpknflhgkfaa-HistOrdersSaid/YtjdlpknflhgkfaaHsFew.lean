/-
  lavabolaw14.Few: is a history few?
-/
import Derived.Test.YtjdlpknflhgkfaaHsEv
import Derived.Test.YtjdlpknflhgkfaaPmMay
namespace Go.Proofs.Ytjdlpknflhgkfaa.HsF
open Go.ChangeShapes Go.WideShapes Go.ChangeAt Go.RowKit
open Go.Proofs.Ytjdlpknflhgkfaa.Mem Go.Proofs.Ytjdlpknflhgkfaa.Blk Go.Proofs.Ytjdlpknflhgkfaa.Cells Go.Proofs.Ytjdlpknflhgkfaa.MdM Go.Proofs.Ytjdlpknflhgkfaa.HsM Go.Proofs.Ytjdlpknflhgkfaa.HsE Go.Proofs.Ytjdlpknflhgkfaa.PmM Go.Proofs.Ytjdlpknflhgkfaa.Stages

/-- At most 60 events, of at most 40 bytes. -/
def FewH (n : Nat) (L : Nat → Ev) : Prop := n ≤ 60 ∧ ∀ i, i < n → (L i).o.d.length ≤ 40 ∧ (L i).r.d.length ≤ 40
section
variable {w w' : World} {X : Nat → Prop} {A : Option Addr} {n : Nat} {L : Nat → Ev}
set_option maxHeartbeats 4000000 in
theorem few_any (h : EvsAt w X A n L) (hn : n ≤ maxLen) (c : Nat) : Calls Try.prog 12 #[.slice A n c] w (Tells (FewH n L) w) := by
  have HE := Lib.hid h
  unfold maxLen at hn
  have hnz : (n : Int) ≤ 9223372036854775807 := by omega
  clear h
  go_enter Try.func12, Try.ntmps12
  go_wp2
  go_loopg [3] n (fun gx i wr => ∃ j : Nat, j + gx = n ∧ i = .int .i64 (j : Int) ∧ w = wr ∧ ∀ k, k < j → (L k).o.d.length ≤ 40 ∧ (L k).r.d.length ≤ 40)
  case atStart => exact ⟨0, by omega, rfl, rfl, fun k hk => absurd hk (Nat.not_lt_zero k)⟩
  case round =>
    obtain ⟨j, hg, rfl, rfl, hok⟩ := hrel
    have HG := Lib.hid hg
    have HOK := Lib.hid hok
    clear hg hok
    by_cases hj : j < n
    · have hjz : (j : Int) < (n : Int) := by omega
      have HJ := Lib.hid hj
      obtain ⟨b, off, rfl, hall⟩ := HE.out (by omega)
      obtain ⟨D, dl, dc, A', al, ac, hc, hd⟩ := hall j hj
      have c6 := hc 6 _ rfl
      have c10 := hc 10 _ rfl
      have HDL : Hid ((L j).o.d.length = dl ∧ (L j).r.d.length = al) := ⟨hd.d.len, hd.a.len⟩
      have hdm : (dl : Int) ≤ 9223372036854775807 := by have := hd.dc; unfold maxLen at this; omega
      have ham : (al : Int) ≤ 9223372036854775807 := by have := hd.ac; unfold maxLen at this; omega
      clear hall hc hd hj
      by_cases h1 : (40 : Int) < (dl : Int)
      · have HN : Hid (¬ FewH n L) := fun h => by have h1' := (h.2 j HJ.out).1; have := HDL.out.1; omega
        go_wp2
        go_ret
        exact Tells.no HN.out (Kept.refl _ _)
      by_cases h2 : (40 : Int) < (al : Int)
      · have HN : Hid (¬ FewH n L) := fun h => by have h1' := (h.2 j HJ.out).2; have := HDL.out.2; omega
        go_wp2
        go_ret
        exact Tells.no HN.out (Kept.refl _ _)
      have HP : Hid (∀ k, k < j + 1 → (L k).o.d.length ≤ 40 ∧ (L k).r.d.length ≤ 40) := fun k hk => by
        by_cases e : k = j
        · subst e
          have := HDL.out
          omega
        · exact HOK.out k (by omega)
      go_wp2
      go_roundg (gk - 1)
      case measure => have := HG.out; have := HJ.out; omega
      case rel => exact ⟨j + 1, by have := HG.out; have := HJ.out; omega, by go_num, rfl, HP.out⟩
    · have hjN : j = n := by have := HG.out; omega
      subst hjN
      clear hj
      by_cases h6 : j ≤ 60
      · have h6z : (j : Int) ≤ 60 := by omega
        have HP : Hid (FewH j L) := ⟨h6, HOK.out⟩
        go_wp2
        go_ret
        exact Tells.yes HP.out (Kept.refl _ _)
      · have h6z : ¬ (j : Int) ≤ 60 := by omega
        have HP : Hid (¬ FewH j L) := fun h => h6 h.1
        go_wp2
        go_ret
        exact Tells.no HP.out (Kept.refl _ _)
end
#print axioms few_any
end Go.Proofs.Ytjdlpknflhgkfaa.HsF
