/-
  What the functions of package list compute (chapter 4), at every list and argument.
-/
import Derived.Test.YtcmhkknoffeebaaRows
import Derived.Test.YtcmhkknoffeebaaRow
import Derived.Deep.Cut
import Derived.Deep.DeepCutAuto
import Derived.Deep.CutBlock
import Derived.WalkSpells
namespace Go.Proofs.Ytcmhkknoffeebaa.ListC
open Go.ChangeShapes Go.WideShapes Go.ChangeAt Go.RowKit
open Go.Proofs.Ytcmhkknoffeebaa.Mem Go.Proofs.Ytcmhkknoffeebaa.Blk Go.Proofs.Ytcmhkknoffeebaa.ListM Go.Proofs.Ytcmhkknoffeebaa.Rowed Go.Proofs.Ytcmhkknoffeebaa.Stages

section
variable {w : World} {d D n : Nat} {c : Int} {A B : Nat → Nat} {I : Nat → Bool} {zs : List Nat}

theorem knows_nil (k : Int) : Calls Try.prog 55 #[.pointer none, .int .i64 k] w fun e w' => e = .returned (.bool false) ∧ w = w' := by
  go_enter Try.func55, Try.ntmps55
  go_wp2
  go_ret
  exact ⟨rfl, rfl⟩

theorem knows_bad (h : Lnk w d D n c A B I) (hn : n ≤ 1024) (k : Int) (hk : ¬ (0 ≤ k ∧ k < (n : Int))) :
    Calls Try.prog 55 #[.pointer (some ⟨d, 0, none⟩), .int .i64 k] w fun e w' => e = .returned (.bool false) ∧ w = w' := by
  have c0 := h.c0
  clear h
  by_cases h0 : 0 ≤ k
  · have h1 : (n : Int) ≤ k := by omega
    clear hk
    go_enter Try.func55, Try.ntmps55
    go_wp2
    go_ret
    exact ⟨by rw [show decide (k < (n : Int)) = false from decide_eq_false (by omega)]; rfl, rfl⟩
  · have h1 : k < 0 := by omega
    clear hk
    go_enter Try.func55, Try.ntmps55
    go_wp2
    go_ret
    exact ⟨rfl, rfl⟩

theorem knows_good (h : Lnk w d D n c A B I) (hn : n ≤ 1024) (k : Nat) (hk : k < n) :
    Calls Try.prog 55 #[.pointer (some ⟨d, 0, none⟩), .int .i64 (k : Int)] w fun e w' => e = .returned (.bool true) ∧ w = w' := by
  have c0 := h.c0
  clear h
  have hk' : (k : Int) < (n : Int) := by omega
  go_enter Try.func55, Try.ntmps55
  go_wp2
  go_ret
  exact ⟨rfl, rfl⟩

theorem takes_good (h : Lnk w d D n c A B I) (hn : n ≤ 1024) (k : Nat) (hk : k < n) :
    Calls Try.prog 46 #[.pointer (some ⟨d, 0, none⟩), .int .i64 (k : Int)] w fun e w' => e = .returned (.bool (!I (k + 1))) ∧ w = w' := by
  have c0 := h.c0
  have ci := h.i (p := k + 1) (by omega)
  have HC := Lib.hid (knows_good h hn k hk)
  clear h
  have hk' : (k : Int) < (n : Int) := by omega
  go_enter Try.func46, Try.ntmps46
  go_wp2_with (go_at_call 55; (with_reducible refine HC.out.mono ?_); rintro e w' ⟨rfl, rfl⟩)
  go_ret
  exact ⟨rfl, rfl⟩

theorem put_any (h : Lnk w d D n c A B I) (hn : n ≤ 1024) (hc : 0 ≤ c ∧ c ≤ 1024) (p a b : Nat) (hp : p ≤ n) (ha : a ≤ n) (hb : b ≤ n) :
    Calls Try.prog 47 #[.pointer (some ⟨d, 0, none⟩), .int .i64 (p : Int), .int .i64 (a : Int), .int .i64 (b : Int)] w fun e w' => e = .returned (.tuple #[]) ∧ Lnk w' d D n (c + 1) (upd (upd A p a) b p) (upd (upd B p b) a p) (upd I p true) ∧ Kept (Own d D) w w' ∧ w'.heap.size = w.heap.size := by
  have c0 := h.c0
  have c1 := h.c1
  have a0 := h.a hp
  have a1 := h.b hp
  have a2 := h.i hp
  have f0 := h.f0 1
  have f1 := h.f1
  have hp' : (p : Int) ≤ (n : Int) := by omega
  have ha' : (a : Int) ≤ (n : Int) := by omega
  have hb' : (b : Int) ≤ (n : Int) := by omega
  have H := Lib.hid h
  clear h
  go_enter Try.func47, Try.ntmps47
  go_upto_region 1 with (fail)
  have H1 := Lib.hid (((H.out.setA p a).setB p b).setI p true)
  have HK1 : Hid (Kept (Own d D) w (((w.setCell ⟨D, p * 3, none⟩ (.int .i64 (a : Int))).setCell ⟨D, p * 3 + 1, none⟩ (.int .i64 (b : Int))).setCell ⟨D, p * 3 + 2, none⟩ (.bool true))) := (((Kept.refl _ w).setCell (fun _ => .inr rfl) _).setCell (fun _ => .inr rfl) _).setCell (fun _ => .inr rfl) _
  have HZ1 : Hid ((((w.setCell ⟨D, p * 3, none⟩ (.int .i64 (a : Int))).setCell ⟨D, p * 3 + 1, none⟩ (.int .i64 (b : Int))).setCell ⟨D, p * 3 + 2, none⟩ (.bool true)).heap.size = w.heap.size) := by show _ = _; simp
  generalize ((w.setCell ⟨D, p * 3, none⟩ (.int .i64 (a : Int))).setCell ⟨D, p * 3 + 1, none⟩ (.int .i64 (b : Int))).setCell ⟨D, p * 3 + 2, none⟩ (.bool true) = w1 at H1 HK1 HZ1 ⊢
  clear c0 c1 a0 a1 a2 f0 f1 H
  have c0 := H1.out.c0
  have a0 := H1.out.b ha
  have f1 := H1.out.f1 (a * 3 + 1)
  go_upto_region 2 with (fail)
  have H2 := Lib.hid (H1.out.setB a p)
  have HK2 : Hid (Kept (Own d D) w (w1.setCell ⟨D, a * 3 + 1, none⟩ (.int .i64 (p : Int)))) := HK1.out.setCell (fun _ => .inr rfl) _
  have HZ2 : Hid ((w1.setCell ⟨D, a * 3 + 1, none⟩ (.int .i64 (p : Int))).heap.size = w.heap.size) := by show _ = _; simpa using HZ1.out
  generalize w1.setCell ⟨D, a * 3 + 1, none⟩ (.int .i64 (p : Int)) = w2 at H2 HK2 HZ2 ⊢
  clear c0 a0 f1 H1 HK1 HZ1 w1
  have c0 := H2.out.c0
  have a0 := H2.out.a hb
  have f1 := H2.out.f1 (b * 3)
  go_upto_region 3 with (fail)
  have H3 := Lib.hid (H2.out.setA b p)
  have HK3 : Hid (Kept (Own d D) w (w2.setCell ⟨D, b * 3, none⟩ (.int .i64 (p : Int)))) := HK2.out.setCell (fun _ => .inr rfl) _
  have HZ3 : Hid ((w2.setCell ⟨D, b * 3, none⟩ (.int .i64 (p : Int))).heap.size = w.heap.size) := by show _ = _; simpa using HZ2.out
  generalize w2.setCell ⟨D, b * 3, none⟩ (.int .i64 (p : Int)) = w3 at H3 HK3 HZ3 ⊢
  clear c0 a0 f1 H2 HK2 HZ2 w2
  have c1 := H3.out.c1
  have f0 := H3.out.f0 1
  go_wp2
  go_end0
  exact ⟨rfl, H3.out.count _, HK3.out.setCell (fun _ => .inl rfl) _, by simpa using HZ3.out⟩

/-- A code, and the list behind the call. -/
def ListPost (d D n : Nat) (w : World) (v : Value) (zs : List Nat) (e : Ending) (w' : World) : Prop :=
  e = .returned v ∧ ListAt w' d D n zs ∧ Kept (Own d D) w w' ∧ w'.heap.size = w.heap.size

theorem put_front (h : ListAt w d D n zs) (k : Nat) (hk : k < n) (hz : k ∉ zs) (B : Nat → Nat) (A : Nat → Nat) (I : Nat → Bool) (hl : Lnk w d D n (zs.length : Int) A B I) (hr : Ring n A B I zs) :
    Calls Try.prog 47 #[.pointer (some ⟨d, 0, none⟩), .int .i64 ((k : Int) + 1), .int .i64 0, .int .i64 (B 0 : Int)] w (ListPost d D n w (.tuple #[]) (k :: zs)) := by
  have hlen := hr.len
  have HP := put_any hl h.size ⟨by omega, by have := h.size; omega⟩ (k + 1) 0 (B 0) (by omega) (Nat.zero_le _) (hr.nextLe 0 (Nat.zero_le _))
  simp only [Int.natCast_add, Int.natCast_one, Int.natCast_zero, Int.cast_ofNat_Int] at HP
  refine HP.mono ?_
  rintro e w' ⟨rfl, hl', hk', hs⟩
  exact ⟨rfl, ⟨⟨_, _, _, by simpa using hl', hr.front hk hz⟩, h.size⟩, hk', hs⟩
theorem put_back (h : ListAt w d D n zs) (k : Nat) (hk : k < n) (hz : k ∉ zs) (B : Nat → Nat) (A : Nat → Nat) (I : Nat → Bool) (hl : Lnk w d D n (zs.length : Int) A B I) (hr : Ring n A B I zs) :
    Calls Try.prog 47 #[.pointer (some ⟨d, 0, none⟩), .int .i64 ((k : Int) + 1), .int .i64 (A 0 : Int), .int .i64 0] w (ListPost d D n w (.tuple #[]) (zs ++ [k])) := by
  have hlen := hr.len
  have HP := put_any hl h.size ⟨by omega, by have := h.size; omega⟩ (k + 1) (A 0) 0 (by omega) (hr.prevLe 0 (Nat.zero_le _)) (Nat.zero_le _)
  simp only [Int.natCast_add, Int.natCast_one, Int.natCast_zero, Int.cast_ofNat_Int] at HP
  refine HP.mono ?_
  rintro e w' ⟨rfl, hl', hk', hs⟩
  exact ⟨rfl, ⟨⟨_, _, _, by simpa using hl', hr.back hk hz⟩, h.size⟩, hk', hs⟩

theorem front_good (h : ListAt w d D n zs) (k : Nat) (hk : k < n) (hz : k ∉ zs) :
    Calls Try.prog 35 #[.pointer (some ⟨d, 0, none⟩), .int .i64 (k : Int)] w (ListPost d D n w (.bool true) (k :: zs)) := by
  obtain ⟨A, B, I, hl, hr⟩ := h.lnk
  have hsz := h.size
  have c0 := hl.c0
  have b0 := hl.b (p := 0) (Nat.zero_le _)
  have hI : I (k + 1) = false := by rw [hr.inn k hk]; simpa using hz
  have HT := Lib.hid (takes_good hl hsz k hk)
  rw [hI] at HT
  have HP := Lib.hid (put_front h k hk hz B A I hl hr)
  have hk' : (k : Int) < (n : Int) := by omega
  clear h hl hr hI
  go_enter Try.func35, Try.ntmps35
  go_wp2_with (first
    | (go_at_call 46; (with_reducible refine HT.out.mono ?_); rintro e w' ⟨rfl, rfl⟩)
    | (go_at_call 47; (with_reducible refine HP.out.mono ?_); rintro e w' ⟨rfl, hl, hk, hs⟩; have HL := Lib.hid hl; have HK := Lib.hid hk; have HS := Lib.hid hs; clear hl hk hs))
  go_ret
  exact ⟨rfl, HL.out, HK.out, HS.out⟩
theorem back_good (h : ListAt w d D n zs) (k : Nat) (hk : k < n) (hz : k ∉ zs) :
    Calls Try.prog 54 #[.pointer (some ⟨d, 0, none⟩), .int .i64 (k : Int)] w (ListPost d D n w (.bool true) (zs ++ [k])) := by
  obtain ⟨A, B, I, hl, hr⟩ := h.lnk
  have hsz := h.size
  have c0 := hl.c0
  have b0 := hl.a (p := 0) (Nat.zero_le _)
  have hI : I (k + 1) = false := by rw [hr.inn k hk]; simpa using hz
  have HT := Lib.hid (takes_good hl hsz k hk)
  rw [hI] at HT
  have HP := Lib.hid (put_back h k hk hz B A I hl hr)
  have hk' : (k : Int) < (n : Int) := by omega
  clear h hl hr hI
  go_enter Try.func54, Try.ntmps54
  go_wp2_with (first
    | (go_at_call 46; (with_reducible refine HT.out.mono ?_); rintro e w' ⟨rfl, rfl⟩)
    | (go_at_call 47; (with_reducible refine HP.out.mono ?_); rintro e w' ⟨rfl, hl, hk, hs⟩; have HL := Lib.hid hl; have HK := Lib.hid hk; have HS := Lib.hid hs; clear hl hk hs))
  go_ret
  exact ⟨rfl, HL.out, HK.out, HS.out⟩
theorem takes_bad (h : ListAt w d D n zs) (k : Int) (hk : okF n zs k = false) :
    Calls Try.prog 46 #[.pointer (some ⟨d, 0, none⟩), .int .i64 k] w fun e w' => e = .returned (.bool false) ∧ w = w' := by
  obtain ⟨A, B, I, hl, hr⟩ := h.lnk
  by_cases hkn : 0 ≤ k ∧ k < (n : Int)
  · obtain ⟨K, rfl⟩ := Int.eq_ofNat_of_zero_le hkn.1
    have hKn : K < n := by omega
    have hI : I (K + 1) = true := by
      rw [hr.inn K hKn]
      simpa [okF, hKn] using hk
    have := takes_good hl h.size K hKn
    rwa [hI] at this
  · have HC := Lib.hid (knows_bad hl h.size k hkn)
    clear h hl hr hk hkn
    go_enter Try.func46, Try.ntmps46
    go_wp2_with (go_at_call 55; (with_reducible refine HC.out.mono ?_); rintro e w' ⟨rfl, rfl⟩)
    go_ret
    exact ⟨rfl, rfl⟩
theorem listPost_refl (h : ListAt w d D n zs) (v : Value) : ListPost d D n w v zs (.returned v) w := ⟨rfl, h, Kept.refl _ _, rfl⟩
theorem front_any (h : ListAt w d D n zs) (k : Int) :
    Calls Try.prog 35 #[.pointer (some ⟨d, 0, none⟩), .int .i64 k] w (ListPost d D n w (.bool (okF n zs k)) (frontL n zs k)) := by
  cases hk : okF n zs k with
  | true =>
    have hk' := hk
    simp only [okF, Bool.and_eq_true, decide_eq_true_eq, Bool.not_eq_true', decide_eq_false_iff_not] at hk'
    obtain ⟨K, rfl⟩ := Int.eq_ofNat_of_zero_le hk'.1.1
    have := front_good h K (by omega) hk'.2
    unfold frontL
    rw [hk]
    exact this
  | false =>
    have HT := Lib.hid (takes_bad h k hk)
    have HQ := Lib.hid (listPost_refl h (.bool false))
    have HE : Hid (frontL n zs k = zs) := by show _ = _; unfold frontL; rw [hk]; rfl
    clear h hk
    go_enter Try.func35, Try.ntmps35
    go_wp2_with (go_at_call 46; (with_reducible refine HT.out.mono ?_); rintro e w' ⟨rfl, rfl⟩)
    go_ret
    rw [HE.out]
    exact HQ.out
theorem back_any (h : ListAt w d D n zs) (k : Int) :
    Calls Try.prog 54 #[.pointer (some ⟨d, 0, none⟩), .int .i64 k] w (ListPost d D n w (.bool (okF n zs k)) (backL n zs k)) := by
  cases hk : okF n zs k with
  | true =>
    have hk' := hk
    simp only [okF, Bool.and_eq_true, decide_eq_true_eq, Bool.not_eq_true', decide_eq_false_iff_not] at hk'
    obtain ⟨K, rfl⟩ := Int.eq_ofNat_of_zero_le hk'.1.1
    have := back_good h K (by omega) hk'.2
    unfold backL
    rw [hk]
    exact this
  | false =>
    have HT := Lib.hid (takes_bad h k hk)
    have HQ := Lib.hid (listPost_refl h (.bool false))
    have HE : Hid (backL n zs k = zs) := by show _ = _; unfold backL; rw [hk]; rfl
    clear h hk
    go_enter Try.func54, Try.ntmps54
    go_wp2_with (go_at_call 46; (with_reducible refine HT.out.mono ?_); rintro e w' ⟨rfl, rfl⟩)
    go_ret
    rw [HE.out]
    exact HQ.out
theorem front_nil (k : Int) : Calls Try.prog 35 #[.pointer none, .int .i64 k] w fun e w' => e = .returned (.bool false) ∧ w = w' := by
  have HT : Hid (∀ wx, Calls Try.prog 46 #[.pointer none, .int .i64 k] wx fun e w' => e = .returned (.bool false) ∧ wx = w') := fun wx => by
    have HC := Lib.hid (knows_nil (w := wx) k)
    go_enter Try.func46, Try.ntmps46
    go_wp2_with (go_at_call 55; (with_reducible refine HC.out.mono ?_); rintro e w' ⟨rfl, rfl⟩)
    go_ret
    exact ⟨rfl, rfl⟩
  go_enter Try.func35, Try.ntmps35
  go_wp2_with (go_at_call 46; (with_reducible refine (HT.out _).mono ?_); rintro e w' ⟨rfl, rfl⟩)
  go_ret
  exact ⟨rfl, rfl⟩

/-! ### What is only asked -/
theorem len_any (h : ListAt w d D n zs) : Calls Try.prog 37 #[.pointer (some ⟨d, 0, none⟩)] w fun e w' => e = .returned (.int .i64 (zs.length : Int)) ∧ w = w' := by
  obtain ⟨A, B, I, hl, hr⟩ := h.lnk
  have c1 := hl.c1
  clear h hl hr
  go_enter Try.func37, Try.ntmps37
  go_wp2
  go_ret
  exact ⟨rfl, rfl⟩
theorem len_nil : Calls Try.prog 37 #[.pointer none] w fun e w' => e = .returned (.int .i64 0) ∧ w = w' := by
  go_enter Try.func37, Try.ntmps37
  go_wp2
  go_ret
  exact ⟨rfl, rfl⟩
theorem first_nil : Calls Try.prog 48 #[.pointer none] w fun e w' => e = .returned (.int .i64 (-1)) ∧ w = w' := by
  go_enter Try.func48, Try.ntmps48
  go_wp2_with (go_at_call 37; (with_reducible refine len_nil.mono ?_); rintro e w' ⟨rfl, rfl⟩)
  go_ret
  exact ⟨rfl, rfl⟩
theorem first_any (h : ListAt w d D n zs) : Calls Try.prog 48 #[.pointer (some ⟨d, 0, none⟩)] w fun e w' => e = .returned (.int .i64 (first zs)) ∧ w = w' := by
  obtain ⟨A, B, I, hl, hr⟩ := h.lnk
  have c0 := hl.c0
  have b0 := hl.b (p := 0) (Nat.zero_le _)
  have HL := Lib.hid (len_any h)
  have HE := Lib.hid hr.first
  have hsz := h.size
  have hle := hr.nextLe 0 (Nat.zero_le _)
  clear h hl hr
  by_cases hz : zs = []
  · subst hz
    simp only [List.length_nil, Int.natCast_zero, Int.cast_ofNat_Int] at HL
    go_enter Try.func48, Try.ntmps48
    go_wp2_with (go_at_call 37; (with_reducible refine HL.out.mono ?_); rintro e w' ⟨rfl, rfl⟩)
    go_ret
    exact ⟨rfl, rfl⟩
  · have hz' : ((zs.length : Int) == 0) = false := by
      rw [beq_eq_false_iff_ne]
      have := List.length_pos_iff.2 hz
      omega
    have HE' : Hid ((B 0 : Int) - 1 = first zs) := HE
    go_enter Try.func48, Try.ntmps48
    go_wp2_with (go_at_call 37; (with_reducible refine HL.out.mono ?_); rintro e w' ⟨rfl, rfl⟩)
    go_ret
    exact ⟨by rw [← HE'.out]; rfl, rfl⟩
end
end Go.Proofs.Ytcmhkknoffeebaa.ListC
