/-
  Package model: find, leastOut, slices.Index, pageOf, within, reach, code.
-/
import Derived.Test.YtjdlpknflhgkfaaPm
import Derived.Test.YtjdlpknflhgkfaaMdDo
namespace Go.Proofs.Ytjdlpknflhgkfaa.PmI
open Go.ChangeShapes Go.WideShapes Go.ChangeAt Go.RowKit
open Go.Proofs.Ytjdlpknflhgkfaa.Mem Go.Proofs.Ytjdlpknflhgkfaa.Blk Go.Proofs.Ytjdlpknflhgkfaa.Cells Go.Proofs.Ytjdlpknflhgkfaa.Orow Go.Proofs.Ytjdlpknflhgkfaa.GrC Go.Proofs.Ytjdlpknflhgkfaa.Txt Go.Proofs.Ytjdlpknflhgkfaa.MdM Go.Proofs.Ytjdlpknflhgkfaa.MdC Go.Proofs.Ytjdlpknflhgkfaa.MdD Go.Proofs.Ytjdlpknflhgkfaa.PmC Go.Proofs.Ytjdlpknflhgkfaa.Stages
open Go.Proofs.Ytjdlpknflhgkfaa.HdM (lst hnd cnt sum lst_eq hnd_at hnd_none hnd_cases cnt_yes cnt_no cnt_le sum_le lst_at lst_le)

/-- What is told of a page that is looked for. -/
def codeOf (n : Nat) (T : Nat → Bool) (p : Int) : Int := if ¬ (0 ≤ p ∧ p < (n : Int)) then 1 else if T p.toNat = false then 2 else 0
section
variable {w w' : World} {F : Nat → Prop} {v : Value} {k : IntKind} {A AT AB AH : Option Addr} {n m cT cB cH nB nH b c : Nat} {T U : Nat → Bool} {L M : Nat → List Int} {s t : St} {f : Nat → Int}
theorem code_out {n : Nat} {T : Nat → Bool} {p : Int} (h : ¬ (0 ≤ p ∧ p < (n : Int))) : codeOf n T p = 1 := if_pos h
theorem code_in {n : Nat} {T : Nat → Bool} {p : Nat} (h : p < n) : codeOf n T (p : Int) = if T p = false then 2 else 0 := by
  unfold codeOf
  rw [if_neg (by omega), Int.toNat_natCast]
theorem code_zero {n : Nat} {T : Nat → Bool} {p : Int} (h : codeOf n T p = 0) : ∃ q : Nat, p = (q : Int) ∧ q < n ∧ T q = true := by
  unfold codeOf at h
  split at h
  · cases h
  · rename_i hp
    split at h
    · cases h
    · rename_i hT
      have hp : 0 ≤ p ∧ p < (n : Int) := Decidable.not_not.1 hp
      exact ⟨p.toNat, (Int.toNat_of_nonneg hp.1).symm, by omega, by simpa using hT⟩
theorem find_any (h : Flags w AT n T) (p : Int) : Calls Try.prog 72 #[.agg #[.slice AT n cT, .slice AB nB cB, .slice AH nH cH], .int .i64 p] w fun e w' => e = .returned (.int .i64 (codeOf n T p)) ∧ Grow w w' := by
  have hb := Blk.new w 39 [.slice AT n cT, .slice AB nB cB, .slice AH nH cH]
  have s0 := hb.cell 0
  have HG : Hid (Grow w (w.alloc (.cells #[.slice AT n cT, .slice AB nB cB, .slice AH nH cH] 39))) := (Kept.refl _ _).alloc _
  clear hb
  simp only [List.getElem?_cons_zero] at s0
  by_cases hp : 0 ≤ p ∧ p < (n : Int)
  · obtain ⟨i, rfl⟩ := Int.eq_ofNat_of_zero_le hp.1
    have hi : i < n := by omega
    have hiz : (i : Int) < (n : Int) := hp.2
    obtain ⟨b, off, rfl, hc⟩ := h (by omega)
    have r1 := HG.out.cellN (hc i hi) id
    rw [code_in hi]
    clear hp hc h hi
    generalize T i = x at r1 ⊢
    cases x
    · rw [if_pos rfl]
      go_enter Try.func72, Try.ntmps72
      go_upto_region 1 with (fail)
      generalize w.alloc (.cells #[.slice (some ⟨b, off, none⟩) n cT, .slice AB nB cB, .slice AH nH cH] 39) = w0 at *
      go_wp2
      go_ret
      exact ⟨rfl, HG.out⟩
    · rw [if_neg (by simp)]
      go_enter Try.func72, Try.ntmps72
      go_upto_region 1 with (fail)
      generalize w.alloc (.cells #[.slice (some ⟨b, off, none⟩) n cT, .slice AB nB cB, .slice AH nH cH] 39) = w0 at *
      go_wp2
      go_ret
      exact ⟨rfl, HG.out⟩
  · rw [code_out hp]
    by_cases h0 : p < 0
    · clear hp h
      go_enter Try.func72, Try.ntmps72
      go_wp2
      go_ret
      exact ⟨rfl, HG.out⟩
    · have h1 : 0 ≤ p := by omega
      have h2 : (n : Int) ≤ p := by omega
      clear hp h h0
      go_enter Try.func72, Try.ntmps72
      go_upto_region 1 with (fail)
      generalize w.alloc (.cells #[.slice AT n cT, .slice AB nB cB, .slice AH nH cH] 39) = w0 at *
      go_wp2
      go_ret
      exact ⟨rfl, HG.out⟩
/-- The least page that is not there, or -1. -/
def least (n : Nat) (T : Nat → Bool) : Int := if lst (fun i => if T i then 0 else -1) n = n then -1 else (lst (fun i => if T i then 0 else -1) n : Int)
theorem least_at {j : Nat} (h : ∀ i, i < j → T i = true) (hj : j < n) (ht : T j = false) : least n T = (j : Int) := by
  have e : lst (fun i => if T i then 0 else -1) n = j := lst_eq (fun i hi => by show (if T i then (0 : Int) else -1) ≠ -1; rw [h i hi]; decide) (.inr ⟨hj, by show (if T j then (0 : Int) else -1) = -1; rw [ht]; rfl⟩)
  unfold least
  rw [e, if_neg (by omega)]
theorem least_none (h : ∀ i, i < n → T i = true) : least n T = -1 := by
  unfold least
  rw [if_pos]
  rcases Nat.lt_or_ge (lst (fun i => if T i then (0 : Int) else -1) n) n with h1 | h1
  · have := lst_at (fun i => if T i then (0 : Int) else -1) n h1
    simp only [h _ h1] at this
    exact absurd this (by decide)
  · have := lst_le (fun i => if T i then (0 : Int) else -1) n
    omega
theorem least_any (h : OR w b 4 1 c n (tcell T)) (hn : n ≤ 1000) : Calls Try.prog 92 #[.slice (some ⟨b, 0, none⟩) n c] w fun e w' => e = .returned (.int .i64 (least n T)) ∧ w = w' := by
  have HO := Lib.hid h
  have HN := Lib.hid hn
  have hnz : (n : Int) ≤ 1000 := by omega
  clear h hn
  go_enter Try.func92, Try.ntmps92
  go_wp2
  go_step3
  go_wp2
  go_step3
  go_wp2
  go_loopg [3, 8] n (fun gx r i wr => ∃ j : Nat, j + gx = n ∧ i = .int .i64 (j : Int) ∧ r = .int .i64 (-1) ∧ w = wr ∧ ∀ t, t < j → T t = true)
  case atStart => exact ⟨0, by omega, rfl, rfl, rfl, fun t h => absurd h (Nat.not_lt_zero t)⟩
  case round =>
    obtain ⟨j, hg, rfl, rfl, rfl, hno⟩ := hrel
    have HG := Lib.hid hg
    have HNO := Lib.hid hno
    clear hg hno
    by_cases hj : j < n
    · have hjz : (j : Int) < (n : Int) := by omega
      have r1 : w.cell? ⟨b, j, none⟩ = some (.bool (T j)) := HO.out.cell (by omega)
      cases hT : T j with
      | true =>
        have HT := Lib.hid hT
        rw [hT] at r1
        clear hT hj
        go_wp2
        go_roundg (gk - 1)
        case measure => have := HG.out; omega
        case rel => exact ⟨j + 1, by have := HG.out; omega, by go_num, rfl, rfl, fun t ht => by
          by_cases e : t = j
          · subst e; exact HT.out
          · exact HNO.out t (by omega)⟩
      | false =>
        have HE := Lib.hid (least_at HNO.out hj hT)
        rw [hT] at r1
        clear hT hj
        go_wp2
        rw [Exit.noGoto_ret]
        go_ret
        exact ⟨by rw [HE.out]; rfl, rfl⟩
    · obtain rfl : j = n := by have := HG.out; omega
      have HE := Lib.hid (least_none HNO.out)
      clear hj
      go_wp2
      rw [Exit.noGoto_ret]
      go_ret
      exact ⟨by rw [HE.out]; rfl, rfl⟩
theorem index_any (h : OR w b 3 1 c 6 (hcell f)) : Calls Try.prog 91 #[.slice (some ⟨b, 0, none⟩) 6 c, .int .i64 (-1)] w fun e w' => e = .returned (.int .i64 (hnd f 6)) ∧ w = w' := by
  have HO := Lib.hid h
  clear h
  go_enter Try.func91, Try.ntmps91
  go_wp2
  go_loopg [8] 6 (fun gx i wr => ∃ j : Nat, j + gx = 6 ∧ i = .int .i64 (j : Int) ∧ w = wr ∧ ∀ t, t < j → f t ≠ -1)
  case atStart => exact ⟨0, by omega, rfl, rfl, fun t h => absurd h (Nat.not_lt_zero t)⟩
  case round =>
    obtain ⟨j, hg, rfl, rfl, hno⟩ := hrel
    have HG := Lib.hid hg
    have HNO := Lib.hid hno
    clear hg hno
    by_cases hj : j < 6
    · have hjz : (j : Int) < 6 := by omega
      have r1 := hcell_get HO.out hj
      by_cases hx : f j = -1
      · have HE := Lib.hid (hnd_at HNO.out hj hx)
        rw [hx] at r1
        clear hx hj
        go_wp2
        go_ret
        exact ⟨by rw [HE.out]; rfl, rfl⟩
      · have HX := Lib.hid hx
        have hx2 : ((-1 : Int) == f j) = false := by simpa using fun e => hx e.symm
        clear hx hj
        generalize f j = x at r1 hx2
        go_wp2
        go_roundg (gk - 1)
        case measure => have := HG.out; omega
        case rel => exact ⟨j + 1, by have := HG.out; omega, by go_num, rfl, fun t ht => by
          by_cases e : t = j
          · subst e; exact HX.out
          · exact HNO.out t (by omega)⟩
    · obtain rfl : j = 6 := by have := HG.out; omega
      have HE := Lib.hid (hnd_none HNO.out)
      clear hj
      go_wp2
      go_ret
      exact ⟨by rw [HE.out]; rfl, rfl⟩
/-- The page of a handle; -1. -/
def pg (f : Nat → Int) (h : Int) : Int := if 0 ≤ h ∧ h < 6 then f h.toNat else -1
theorem pg_held {a : Md} {kc : Nat} (hk : kc < a.N) (h : Int) : pg (a.H kc) h = a.held (kc : Int) h := by
  unfold pg Md.held
  by_cases hh : 0 ≤ h ∧ h < 6
  · rw [if_pos hh, if_pos ⟨by omega, hh⟩, Int.toNat_natCast]
  · rw [if_neg hh, if_neg fun x => hh x.2]
theorem pageOf_any (ho : OR w b 3 1 c 6 (hcell f)) (h : Int) : Calls Try.prog 95 #[.slice (some ⟨b, 0, none⟩) 6 c, .int .i64 h] w fun e w' => e = .returned (.int .i64 (pg f h)) ∧ w = w' := by
  unfold pg
  by_cases hh : 0 ≤ h ∧ h < 6
  · obtain ⟨i, rfl⟩ := Int.eq_ofNat_of_zero_le hh.1
    have hiz : (i : Int) < 6 := hh.2
    have r1 := hcell_get ho (show i < 6 by omega)
    rw [if_pos hh, Int.toNat_natCast]
    clear hh ho
    go_enter Try.func95, Try.ntmps95
    go_wp2
    go_ret
    exact ⟨rfl, rfl⟩
  · rw [if_neg hh]
    by_cases h0 : h < 0
    · clear hh ho
      go_enter Try.func95, Try.ntmps95
      go_wp2
      go_ret
      exact ⟨rfl, rfl⟩
    · have h1 : 0 ≤ h := by omega
      have h2 : 6 ≤ h := by omega
      clear hh ho h0
      go_enter Try.func95, Try.ntmps95
      go_wp2
      go_ret
      exact ⟨rfl, rfl⟩
/-- So many bytes from a place on lie in a page. -/
def fits (o n : Int) : Prop := 0 ≤ o ∧ 0 ≤ n ∧ n ≤ 16 - o
instance (o n : Int) : Decidable (fits o n) := inferInstanceAs (Decidable (_ ∧ _))
theorem within_any (o n : Int) (h63 : o ≤ 9223372036854775807) : Calls Try.prog 102 #[.int .i64 o, .int .i64 n] w fun e w' => e = .returned (.bool (decide (fits o n))) ∧ w = w' := by
  by_cases h0 : 0 ≤ o
  · by_cases h1 : 0 ≤ n
    · by_cases h2 : n ≤ 16 - o
      · rw [decide_eq_true (p := fits o n) ⟨h0, h1, h2⟩]
        go_enter Try.func102, Try.ntmps102
        go_wp2
        go_ret
        exact ⟨rfl, rfl⟩
      · have h3 : 16 - o < n := by omega
        rw [decide_eq_false (fun x : fits o n => h2 x.2.2)]
        go_enter Try.func102, Try.ntmps102
        go_wp2
        go_ret
        exact ⟨rfl, rfl⟩
    · have h3 : n < 0 := by omega
      rw [decide_eq_false (fun x : fits o n => h1 x.2.1)]
      clear h1
      go_enter Try.func102, Try.ntmps102
      go_wp2
      go_ret
      exact ⟨rfl, rfl⟩
  · have h3 : o < 0 := by omega
    rw [decide_eq_false (fun x : fits o n => h0 x.1)]
    clear h0
    go_enter Try.func102, Try.ntmps102
    go_wp2
    go_ret
    exact ⟨rfl, rfl⟩
/-- The page that a call reaches, and a code. -/
def reach (p o n : Int) : Int × Int := if p = -1 then (-1, 5) else if ¬ fits o n then (-1, 6) else (p, 0)
theorem code_any (w : World) (c : Int) : Calls Try.prog 42 #[.int .i64 c] w fun e w' => e = .returned (.agg #[.int .i64 c, .int .i64 0, .int .i64 0, .slice none 0 0]) ∧ Grow w w' := by
  go_enter Try.func42, Try.ntmps42
  go_wp2
  exact ret_res rfl rfl (Blk.new w 27 [.int .i64 c, .int .i64 0, .int .i64 0, .slice none 0 0]) rfl ⟨rfl, (Kept.refl _ _).alloc _⟩
theorem reach_any {b c : Nat} {x : MdOp} {D : Value} (ho : OR w b 3 1 c 6 (hcell f)) (h63 : x.o ≤ 9223372036854775807) (n : Int) : Calls Try.prog 93 #[.slice (some ⟨b, 0, none⟩) 6 c, .agg #[.int .i64 x.k, .int .i64 x.p, .int .i64 x.h, .int .i64 x.o, .int .i64 x.n, D], .int .i64 n] w fun e w' => e = .returned (.tuple #[.int .i64 (reach (pg f x.h) x.o n).1, .int .i64 (reach (pg f x.h) x.o n).2]) ∧ Grow w w' := by
  have hb := Blk.new w 25 [.int .i64 x.k, .int .i64 x.p, .int .i64 x.h, .int .i64 x.o, .int .i64 x.n, D]
  have o2 := hb.cell 2
  have o3 := hb.cell 3
  have HG : Hid (Grow w (w.alloc (.cells #[.int .i64 x.k, .int .i64 x.p, .int .i64 x.h, .int .i64 x.o, .int .i64 x.n, D] 25))) := (Kept.refl _ _).alloc _
  have HO := Lib.hid (ho.kept HG.out id)
  simp only [List.getElem?_cons_zero, List.getElem?_cons_succ] at o2 o3
  have HW := Lib.hid fun (w : World) => within_any (w := w) x.o n h63
  have HPO := Lib.hid (pageOf_any HO.out x.h)
  clear hb ho h63 HO
  unfold reach
  generalize pg f x.h = y at HPO ⊢
  by_cases hp : y = -1
  · subst hp
    rw [if_pos rfl]
    go_enter Try.func93, Try.ntmps93
    go_upto_region 1 with (fail)
    generalize w.alloc (.cells #[.int .i64 x.k, .int .i64 x.p, .int .i64 x.h, .int .i64 x.o, .int .i64 x.n, D] 25) = w0 at *
    go_wp2_with (go_at_call 95; (with_reducible refine HPO.out.mono ?_); rintro e w' ⟨rfl, rfl⟩)
    go_ret2
    exact ⟨rfl, HG.out⟩
  · rw [if_neg hp]
    have hq : (y == -1) = false := by simpa using hp
    clear hp
    by_cases hf : fits x.o n
    · have hd : decide (fits x.o n) = true := decide_eq_true hf
      rw [if_neg (fun y => y hf)]
      clear hf
      go_enter Try.func93, Try.ntmps93
      go_upto_region 1 with (fail)
      generalize w.alloc (.cells #[.int .i64 x.k, .int .i64 x.p, .int .i64 x.h, .int .i64 x.o, .int .i64 x.n, D] 25) = w0 at *
      go_wp2_with (first
        | (go_at_call 95; (with_reducible refine HPO.out.mono ?_); rintro e w' ⟨rfl, rfl⟩)
        | (go_at_call 102; (with_reducible refine (HW.out _).mono ?_); rintro e w' ⟨rfl, rfl⟩; rw [hd]))
      go_ret2
      exact ⟨rfl, HG.out⟩
    · have hd : decide (fits x.o n) = false := decide_eq_false hf
      rw [if_pos hf]
      clear hf
      go_enter Try.func93, Try.ntmps93
      go_upto_region 1 with (fail)
      generalize w.alloc (.cells #[.int .i64 x.k, .int .i64 x.p, .int .i64 x.h, .int .i64 x.o, .int .i64 x.n, D] 25) = w0 at *
      go_wp2_with (first
        | (go_at_call 95; (with_reducible refine HPO.out.mono ?_); rintro e w' ⟨rfl, rfl⟩)
        | (go_at_call 102; (with_reducible refine (HW.out _).mono ?_); rintro e w' ⟨rfl, rfl⟩; rw [hd]))
      go_ret2
      exact ⟨rfl, HG.out⟩
end
end Go.Proofs.Ytjdlpknflhgkfaa.PmI
