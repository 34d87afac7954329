/-
  What the functions of package sum compute (chapter 1), at every sum and byte: Turn, More, Of.
-/
import Derived.Test.YtmdafgonnkppoaaChecked
import Derived.Test.YtmdafgonnkppoaaSumMath
import Derived.Test.YtmdafgonnkppoaaMem
import Derived.Handy
import Derived.Lib.Hide
import Derived.Laws.BytesArg
import Derived.Deep.LoopGhost
namespace Go.Proofs.Ytmdafgonnkppoaa.SumC
open Go.ChangeShapes Go.WideShapes Go.ChangeAt Go.RowKit
open Go.Proofs.Ytmdafgonnkppoaa.SumM Go.Proofs.Ytmdafgonnkppoaa.Mem

theorem u32_and1 (m : Nat) (h : m < 4294967296) : bits .and .u32 (m : Int) 1 = ((m % 2 : Nat) : Int) := by
  have := u32_and_nat m 1 h (by omega)
  rw [Nat.and_one_is_mod] at this
  exact this
theorem u32_fold (m : Nat) (h : m < 4294967296) : bits .xor .u32 ((m : Int) / 2) 2748603157 = ((m / 2 ^^^ 2748603157 : Nat) : Int) := by
  have := u32_xor_nat (m / 2) 2748603157 (by omega) (by omega)
  exact this
theorem u32_fold0 (m : Nat) (h : m < 4294967296) : bits .xor .u32 (m : Int) 2748603157 = ((m ^^^ 2748603157 : Nat) : Int) := u32_xor_nat m 2748603157 h (by omega)

theorem turn_any (s c : Int) (hs : U32 s) (hc : U8 c) (w : World) :
    Calls Try.prog 23 #[.int .u32 s, .int .u8 c] w fun e w' => e = .returned (.int .u32 (turnI s c)) ∧ w = w' := by
  obtain ⟨h1, h2⟩ := hs
  obtain ⟨h3, h4⟩ := hc
  have hN : s.toNat ^^^ c.toNat < 4294967296 := xor_lt (by omega) (by omega)
  have HX := Lib.hid (u32_xor s c h1 h2 h3 (by omega))
  have HT : Hid (turnI s c = ((steps 8 (s.toNat ^^^ c.toNat) : Nat) : Int)) := rfl
  generalize s.toNat ^^^ c.toNat = N at hN HX HT
  generalize turnI s c = R at HT
  go_enter Try.func23, Try.ntmps23
  go_wp2
  go_step3
  go_wp2
  go_step3
  go_wp2
  go_loopg [0, 5] 8 (fun g v i wr => g ≤ 8 ∧ v = .int .u32 ((steps (8 - g) N : Nat) : Int) ∧ i = .int .i64 (g : Int) ∧ w = wr)
  case atStart => exact ⟨Nat.le_refl _, by rw [HX.out]; rfl, rfl, rfl⟩
  case round =>
    obtain ⟨hg, rfl, rfl, rfl⟩ := hrel
    have hm := steps_lt (8 - gk) hN
    by_cases h0 : gk = 0
    · subst h0
      go_wp2
      rw [Exit.noGoto_ret]
      go_ret
      exact ⟨by rw [HT.out]; rfl, rfl⟩
    · have hg0 : 0 < gk := by omega
      have HS : Hid (steps (8 - (gk - 1)) N = SumM.step (steps (8 - gk) N)) := by
        have e : 8 - (gk - 1) = (8 - gk) + 1 := by omega
        rw [e]; rfl
      generalize steps (8 - gk) N = m at hm HS
      have HG : Hid (((gk : Int) - 1) = ((gk - 1 : Nat) : Int)) := by show _ = _; omega
      rcases Nat.mod_two_eq_zero_or_one m with e | e
      · have ha : bits .and .u32 (m : Int) 1 = 0 := by rw [u32_and1 m hm, e]; rfl
        have HE := Lib.hid (step_even e)
        clear e
        go_wp2
        go_roundg (gk - 1)
        case measure => omega
        case rel => exact ⟨by omega, by rw [HS.out, HE.out]; rfl, by rw [HG.out], rfl⟩
      · have ha : bits .and .u32 (m : Int) 1 = 1 := by rw [u32_and1 m hm, e]; rfl
        have HE := Lib.hid (step_odd e)
        have HF := Lib.hid (u32_fold m hm)
        clear e
        go_wp2
        go_roundg (gk - 1)
        case measure => omega
        case rel => exact ⟨by omega, by rw [HS.out, HE.out, HF.out], by rw [HG.out], rfl⟩

theorem refTurn_any (s c : Int) (hs : U32 s) (hc : U8 c) (w : World) :
    Calls Try.prog 24 #[.int .u32 s, .int .u8 c] w fun e w' => e = .returned (.int .u32 (turnI s c)) ∧ w = w' := by
  obtain ⟨h1, h2⟩ := hs
  obtain ⟨h3, h4⟩ := hc
  have hN : s.toNat ^^^ c.toNat < 4294967296 := xor_lt (by omega) (by omega)
  have HX := Lib.hid (u32_xor s c h1 h2 h3 (by omega))
  have HT : Hid (turnI s c = ((steps 8 (s.toNat ^^^ c.toNat) : Nat) : Int)) := rfl
  generalize s.toNat ^^^ c.toNat = N at hN HX HT
  generalize turnI s c = R at HT
  go_enter Try.func24, Try.ntmps24
  go_wp2
  go_loopg [0, 5] 8 (fun g v i wr => ∃ j : Nat, j + g = 8 ∧ v = .int .u32 ((steps j N : Nat) : Int) ∧ i = .int .i64 (j : Int) ∧ w = wr)
  case atStart => exact ⟨0, rfl, by rw [HX.out]; rfl, rfl, rfl⟩
  case round =>
    obtain ⟨j, hg, rfl, rfl, rfl⟩ := hrel
    have hm := steps_lt j hN
    by_cases h0 : j < 8
    · have HS : Hid (steps (j + 1) N = SumM.step (steps j N)) := rfl
      generalize steps j N = m at hm HS
      rcases Nat.mod_two_eq_zero_or_one m with e | e
      · have ha : bits .and .u32 (m : Int) 1 = 0 := by rw [u32_and1 m hm, e]; rfl
        have HE := Lib.hid (step_even e)
        have HG := Lib.hid hg
        clear e hg
        go_wp2
        go_roundg (gk - 1)
        case measure => have := HG.out; omega
        case rel => exact ⟨j + 1, by have := HG.out; omega, by rw [HS.out, HE.out]; rfl, by go_num, rfl⟩
      · have ha : bits .and .u32 (m : Int) 1 = 1 := by rw [u32_and1 m hm, e]; rfl
        have HE := Lib.hid (step_odd e)
        have HF := Lib.hid (u32_fold m hm)
        have HG := Lib.hid hg
        clear e hg
        go_wp2
        go_roundg (gk - 1)
        case measure => have := HG.out; omega
        case rel => exact ⟨j + 1, by have := HG.out; omega, by rw [HS.out, HE.out, HF.out], by go_num, rfl⟩
    · obtain rfl : j = 8 := by omega
      go_wp2
      go_ret
      exact ⟨by rw [HT.out]; rfl, rfl⟩

theorem more_any (s : Int) (A : Option Addr) (n cap B : Nat) (zs : List Int) (w : World) (hs : U32 s) (hz : Bytes zs) (hn : n ≤ maxLen) (h : Sl w B .u8 A n zs) :
    Calls Try.prog 21 #[.int .u32 s, .slice A n cap] w fun e w' => e = .returned (.int .u32 (moreI s zs)) ∧ w = w' := by
  unfold maxLen at hn
  have hl := h.len
  go_enter Try.func21, Try.ntmps21
  go_wp2
  go_loopg [0, 9] n (fun g v i wr => ∃ j : Nat, j + g = n ∧ v = .int .u32 (moreI s (zs.take j)) ∧ i = .int .i64 (j : Int) ∧ w = wr)
  case atStart => exact ⟨0, by omega, by simp [moreI_nil], rfl, rfl⟩
  case round =>
    obtain ⟨j, hg, rfl, rfl, rfl⟩ := hrel
    have hb1 : Bytes (zs.take j) := fun d hd => hz d (List.mem_of_mem_take hd)
    have hm := moreI_u32 hs hb1
    by_cases h0 : j < n
    · obtain ⟨b, off, rfl, hb, hcell⟩ := h.at_ (by omega)
      have hc := hcell j h0
      have HS := Lib.hid (moreI_snoc (l := zs) s j (by omega))
      have hd : U8 (zs.getD j 0) := by
        rw [List.getD_eq_getElem?_getD, List.getElem?_eq_getElem (by omega)]
        exact hz _ (List.getElem_mem _)
      have HG := Lib.hid hg
      have HL := Lib.hid hl
      have HC := Lib.hid hcell
      clear hg hl hcell
      generalize zs.getD j 0 = d at hc hd HS
      generalize moreI s (zs.take j) = m at hm HS
      go_wp2_with (go_at_call 23; (with_reducible refine (turn_any _ _ hm hd _).mono ?_); rintro e w' ⟨rfl, rfl⟩)
      go_roundg (gk - 1)
      case measure => have := HG.out; omega
      case rel => exact ⟨j + 1, by have := HG.out; omega, by rw [HS.out], by go_num, rfl⟩
    · have hz1 : zs.take j = zs := List.take_of_length_le (by omega)
      rw [hz1] at hm ⊢
      go_wp2
      go_ret
      exact ⟨rfl, rfl⟩

/-- The numbers of a string's bytes. -/
def strNums (s : ByteArray) : List Int := s.data.toList.map fun b => (b.toNat : Int)
theorem strNums_len (s : ByteArray) : (strNums s).length = s.size := by unfold strNums; rw [List.length_map, Array.length_toList]; rfl
theorem strNums_bytes (s : ByteArray) : Bytes (strNums s) := by
  intro c hc
  obtain ⟨b, _, rfl⟩ := List.mem_map.1 hc
  have := b.toNat_lt
  exact ⟨by omega, by omega⟩
theorem strNums_at (s : ByteArray) (k : Nat) (h : k < s.size) : (strNums s).getD k 0 = (s[k].toNat : Int) := by
  have h' : k < s.data.toList.length := by rw [Array.length_toList]; exact h
  unfold strNums
  rw [List.getD_eq_getElem?_getD, List.getElem?_map, List.getElem?_eq_getElem h']
  rfl
theorem strNums_ofNums {zs : List Int} (h : Bytes zs) : strNums (strOfNums zs) = zs := by
  unfold strNums
  rw [strOfNums_data, List.map_map]
  conv => rhs; rw [← List.map_id zs]
  refine List.map_congr_left fun c hc => ?_
  obtain ⟨h1, h2⟩ := h c hc
  simp
  omega

theorem refMore_any (s : Int) (t : ByteArray) (w : World) (hs : U32 s) (hn : t.size ≤ maxLen) :
    Calls Try.prog 22 #[.int .u32 s, .string t] w fun e w' => e = .returned (.int .u32 (moreI s (strNums t))) ∧ w = w' := by
  unfold maxLen at hn
  have hz := strNums_bytes t
  have hl := strNums_len t
  go_enter Try.func22, Try.ntmps22
  go_wp2
  go_loopg [0, 5] t.size (fun g v i wr => ∃ j : Nat, j + g = t.size ∧ v = .int .u32 (moreI s ((strNums t).take j)) ∧ i = .int .i64 (j : Int) ∧ w = wr)
  case atStart => exact ⟨0, by omega, by simp [moreI_nil], rfl, rfl⟩
  case round =>
    obtain ⟨j, hg, rfl, rfl, rfl⟩ := hrel
    have hm := moreI_u32 (l := (strNums t).take j) hs fun d hd => hz d (List.mem_of_mem_take hd)
    by_cases h0 : j < t.size
    · have HS := Lib.hid (moreI_snoc (l := strNums t) s j (by omega))
      rw [strNums_at t j h0] at HS
      have hd : U8 (t[j].toNat : Int) := by
        have := t[j].toNat_lt
        exact ⟨by omega, by omega⟩
      have HG := Lib.hid hg
      have HL := Lib.hid hl
      clear hg hl
      generalize moreI s ((strNums t).take j) = m at hm HS
      go_wp2_with (go_at_call 24; (with_reducible refine (refTurn_any _ _ hm hd _).mono ?_); rintro e w' ⟨rfl, rfl⟩)
      go_roundg (gk - 1)
      case measure => have := HG.out; omega
      case rel => exact ⟨j + 1, by have := HG.out; omega, by rw [HS.out], by go_num, rfl⟩
    · have hz1 : (strNums t).take j = strNums t := List.take_of_length_le (by omega)
      rw [hz1] at hm ⊢
      go_wp2
      go_ret
      exact ⟨rfl, rfl⟩

theorem u32_not (m : Int) (h : U32 m) : bits .xor .u32 4294967295 m = 4294967295 - m := by
  obtain ⟨h1, h2⟩ := h
  obtain ⟨a, rfl⟩ := Int.eq_ofNat_of_zero_le h1
  have e1 : BitVec.ofInt 32 4294967295 = BitVec.allOnes 32 := by decide
  have hx : 4294967295 - a < 4294967296 := by omega
  show IntKind.u32.wrap ((BitVec.ofInt 32 4294967295 ^^^ BitVec.ofInt 32 (a : Int)).toNat : Int) = _
  rw [e1, BitVec.allOnes_xor, BitVec.toNat_not, ofInt_u32 a (by omega), IntKind.wrap_u32']
  omega

theorem of_any (A : Option Addr) (n cap B : Nat) (zs : List Int) (w : World) (hz : Bytes zs) (hn : n ≤ maxLen) (h : Sl w B .u8 A n zs) :
    Calls Try.prog 17 #[.slice A n cap] w fun e w' => e = .returned (.int .u32 (ofI zs)) ∧ w = w' := by
  have hm := moreI_u32 (s := 4294967295) (l := zs) ⟨by omega, by omega⟩ hz
  have HN := Lib.hid (u32_not _ hm)
  have HE : Hid (ofI zs = 4294967295 - moreI 4294967295 zs) := rfl
  have HC := fun w1 (h1 : Sl w1 B .u8 A n zs) => more_any 4294967295 A n cap B zs w1 ⟨by omega, by omega⟩ hz hn h1
  generalize moreI 4294967295 zs = m at hm HN HE HC
  go_enter Try.func17, Try.ntmps17
  go_wp2_with (go_at_call 21; (with_reducible refine (HC _ h).mono ?_); rintro e w' ⟨rfl, rfl⟩)
  go_ret
  exact ⟨by rw [HE.out, ← HN.out]; rfl, rfl⟩
theorem refOf_any (t : ByteArray) (w : World) (hn : t.size ≤ maxLen) :
    Calls Try.prog 19 #[.string t] w fun e w' => e = .returned (.int .u32 (ofI (strNums t))) ∧ w = w' := by
  have hm := moreI_u32 (s := 4294967295) (l := strNums t) ⟨by omega, by omega⟩ (strNums_bytes t)
  have HN := Lib.hid (u32_not _ hm)
  have HE : Hid (ofI (strNums t) = 4294967295 - moreI 4294967295 (strNums t)) := rfl
  have HC := fun w1 => refMore_any 4294967295 t w1 ⟨by omega, by omega⟩ hn
  generalize moreI 4294967295 (strNums t) = m at hm HN HE HC
  go_enter Try.func19, Try.ntmps19
  go_wp2_with (go_at_call 22; (with_reducible refine (HC _).mono ?_); rintro e w' ⟨rfl, rfl⟩)
  go_ret
  exact ⟨by rw [HE.out, ← HN.out]; rfl, rfl⟩
end Go.Proofs.Ytmdafgonnkppoaa.SumC
