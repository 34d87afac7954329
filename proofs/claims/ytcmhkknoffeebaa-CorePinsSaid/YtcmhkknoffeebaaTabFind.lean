/-
  Package table: search and find, Get, Put, Len, at every table and key.
-/
import Derived.Test.YtcmhkknoffeebaaTab
namespace Go.Proofs.Ytcmhkknoffeebaa.TabD
open Go.ChangeShapes Go.WideShapes Go.ChangeAt Go.RowKit
open Go.Proofs.Ytcmhkknoffeebaa.Mem Go.Proofs.Ytcmhkknoffeebaa.Blk Go.Proofs.Ytcmhkknoffeebaa.Cells Go.Proofs.Ytcmhkknoffeebaa.TabM Go.Proofs.Ytcmhkknoffeebaa.TabC Go.Proofs.Ytcmhkknoffeebaa.Stages

section
variable {w : World} {d D : Nat} {T : Tb} {c key : Int}
theorem at_int (p i n : Nat) : ((p : Int) + (i : Int)) % (n : Int) = (((p + i) % n : Nat) : Int) := by rw [Int.natCast_emod, Int.natCast_add]
theorem search_any (h : Raw w d D T c) (h0 : 0 ≤ key) :
    Calls Try.prog 52 #[.pointer (some ⟨d, 0, none⟩), .int .i64 key] w fun e w' => e = .returned (.tuple #[.int .i64 (T.search key).1, .int .i64 (T.search key).2]) ∧ w = w' := by
  have c0 := h.c0
  have hsz := h.size
  have hpos := h.pos
  have hszi : (T.n : Int) ≤ 1024 := by omega
  have hposi : 1 ≤ (T.n : Int) := by omega
  have HP := Lib.hid (fun (w : World) => place_good (w := w) key T.n h0 hpos hsz)
  have HPL := Lib.hid (place_lt (key := key) hpos)
  have hpl : ((place key T.n : Nat) : Int) < (T.n : Int) := by have := HPL.out; omega
  have HS : Hid (T.search key = scan T.K T.n (place key T.n) key T.n 0 (-1)) := rfl
  generalize T.search key = R at HS ⊢
  generalize place key T.n = p at *
  have H := Lib.hid h
  clear h
  go_enter Try.func52, Try.ntmps52
  go_wp2
  go_step3
  go_wp2_with (go_at_call 56; (with_reducible refine (HP.out _).mono ?_); rintro e w' ⟨rfl, rfl⟩)
  go_step3
  go_wp2
  clear c0
  go_loopg [5, 19] T.n (fun g f i wr => ∃ (j : Nat) (fr : Int), j + g = T.n ∧ f = .int .i64 fr ∧ i = .int .i64 (j : Int) ∧ (fr = -1 ∨ (0 ≤ fr ∧ fr < 1024)) ∧ R = scan T.K T.n p key g j fr ∧ w = wr)
  case atStart => exact ⟨0, -1, by omega, rfl, rfl, .inl rfl, HS.out, rfl⟩
  case round =>
    obtain ⟨j, fr, hg, rfl, rfl, hfr, hR, rfl⟩ := hrel
    have HG := Lib.hid hg
    have HF := Lib.hid hfr
    have HR := Lib.hid hR
    have c0 := H.out.c0
    by_cases hj : j < T.n
    · have hm := Nat.mod_lt (p + j) hpos
      have k0 := H.out.sl.k hm
      have hji : (j : Int) < (T.n : Int) := by omega
      obtain ⟨g, rfl⟩ : ∃ g, gk = g + 1 := ⟨gk - 1, by omega⟩
      rw [scan.eq_def] at hR
      dsimp only at hR
      have HA := Lib.hid (at_int p j T.n)
      have hA0 : 0 ≤ ((p : Int) + (j : Int)) % (T.n : Int) := by rw [HA.out]; omega
      have hA1 : ((p : Int) + (j : Int)) % (T.n : Int) < (T.n : Int) := by rw [HA.out]; omega
      by_cases e1 : T.K ((p + j) % T.n) = key
      · rw [if_pos e1] at hR
        have e1' : (T.K ((p + j) % T.n) == key) = true := by rw [e1]; exact beq_self_eq_true _
        subst hR
        clear HR hg hfr e1
        go_wp2
        try rw [Exit.noGoto_ret]
        go_ret2
        exact ⟨by rw [← HA.out]; rfl, rfl⟩
      · rw [if_neg e1] at hR
        have e1' : (T.K ((p + j) % T.n) == key) = false := beq_eq_false_iff_ne.2 e1
        by_cases e2 : T.K ((p + j) % T.n) = -1
        · rw [if_pos e2] at hR
          have e2' : (T.K ((p + j) % T.n) == -1) = true := by rw [e2]; rfl
          clear HR hg hfr e1 e2
          by_cases ef : fr < 0
          · rw [if_pos ef] at hR
            subst hR
            go_wp2
            try rw [Exit.noGoto_ret]
            go_ret2
            exact ⟨by rw [← HA.out]; rfl, rfl⟩
          · rw [if_neg ef] at hR
            have ef' : 0 ≤ fr := by omega
            subst hR
            go_wp2
            try rw [Exit.noGoto_ret]
            go_ret2
            exact ⟨rfl, rfl⟩
        · rw [if_neg e2] at hR
          have e2' : (T.K ((p + j) % T.n) == -1) = false := beq_eq_false_iff_ne.2 e2
          by_cases e3 : T.K ((p + j) % T.n) = -2
          · rw [if_pos e3] at hR
            have e3' : (T.K ((p + j) % T.n) == -2) = true := by rw [e3]; rfl
            clear HR hg hfr e1 e2 e3
            by_cases ef : fr < 0
            · rw [if_pos ef] at hR
              have HR := Lib.hid hR
              clear hR
              go_wp2
              go_roundg g
              case measure => omega
              case rel => exact ⟨j + 1, _, by have := HG.out; omega, rfl, rfl, .inr ⟨by rw [HA.out]; omega, by rw [HA.out]; omega⟩, by rw [HR.out, HA.out], rfl⟩
            · rw [if_neg ef] at hR
              have ef' : 0 ≤ fr := by omega
              have HR := Lib.hid hR
              clear hR
              go_wp2
              go_roundg g
              case measure => omega
              case rel => exact ⟨j + 1, _, by have := HG.out; omega, rfl, rfl, HF.out, HR.out, rfl⟩
          · rw [if_neg e3] at hR
            have e3' : (T.K ((p + j) % T.n) == -2) = false := beq_eq_false_iff_ne.2 e3
            have HR := Lib.hid hR
            clear hR hg hfr e1 e2 e3
            go_wp2
            go_roundg g
            case measure => omega
            case rel => exact ⟨j + 1, _, by have := HG.out; omega, rfl, rfl, HF.out, HR.out, rfl⟩
    · have hji : (T.n : Int) ≤ (j : Int) := by omega
      have hg0 : gk = 0 := by omega
      subst hg0
      have hR' : R = (-1, fr) := hR
      subst hR'
      clear HR hR hfr hg
      go_wp2
      try rw [Exit.noGoto_ret]
      go_ret2
      exact ⟨rfl, rfl⟩
end
end Go.Proofs.Ytcmhkknoffeebaa.TabD
