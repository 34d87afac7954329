/-
  Package model: Same and SameRes; bytes.Equal, slices.Equal, slices.EqualFunc. Written by wip/tools/genpmsame.py.
-/
import Derived.Test.YtjdlpknflhgkfaaPmMay
namespace Go.Proofs.Ytjdlpknflhgkfaa.PmS
open Go.ChangeShapes Go.WideShapes Go.ChangeAt Go.RowKit
open Go.Proofs.Ytjdlpknflhgkfaa.Mem Go.Proofs.Ytjdlpknflhgkfaa.Blk Go.Proofs.Ytjdlpknflhgkfaa.Cells Go.Proofs.Ytjdlpknflhgkfaa.Orow Go.Proofs.Ytjdlpknflhgkfaa.MdM Go.Proofs.Ytjdlpknflhgkfaa.MdC Go.Proofs.Ytjdlpknflhgkfaa.PmC Go.Proofs.Ytjdlpknflhgkfaa.PmI Go.Proofs.Ytjdlpknflhgkfaa.PmM Go.Proofs.Ytjdlpknflhgkfaa.Stages

/-- The numbers of a string's bytes. -/
def strNums (s : ByteArray) : List Int := s.data.toList.map fun b => (b.toNat : Int)
theorem strNums_ofNums {zs : List Int} (h : Bytes zs) : strNums (strOfNums zs) = zs := by
  unfold strNums
  rw [strOfNums_data, List.map_map]
  conv => rhs; rw [← List.map_id zs]
  refine List.map_congr_left fun c hc => ?_
  obtain ⟨h1, h2⟩ := h c hc
  simp
  omega
theorem str_inj {a b : List Int} (ha : Bytes a) (hb : Bytes b) (h : strOfNums a = strOfNums b) : a = b := by
  have := congrArg strNums h
  rwa [strNums_ofNums ha, strNums_ofNums hb] at this
theorem str_eq {a b : List Int} (ha : Bytes a) (hb : Bytes b) : ((strOfNums a).toList == (strOfNums b).toList) = decide (a = b) := by
  rw [Bool.eq_iff_iff, beq_iff_eq, decide_eq_true_iff]
  constructor
  · intro h
    refine str_inj ha hb ?_
    rw [ByteArray.toList_eq, ByteArray.toList_eq] at h
    apply ByteArray.ext
    exact Array.ext' h
  · rintro rfl; rfl
theorem list_eq {l r : List Int} {n : Nat} (h1 : l.length = n) (h2 : r.length = n) (h : ∀ t, t < n → l.getD t 0 = r.getD t 0) : l = r := by
  apply List.ext_getElem
  · rw [h1, h2]
  · intro i a b
    have := h i (by omega)
    simpa [List.getD_eq_getElem?_getD, List.getElem?_eq_getElem a, List.getElem?_eq_getElem b] using this
theorem sl_form {w : World} {k : IntKind} {A : Option Addr} {n : Nat} {zs : List Int} (h : Sl w w.heap.size k A n zs) : ∃ b off, (0 < n → A = some ⟨b, off, none⟩) ∧ ∀ i, i < n → w.cell? ⟨b, off + i, none⟩ = some (.int k (zs.getD i 0)) := by
  by_cases h0 : 0 < n
  · obtain ⟨b, off, e, _, h⟩ := h.at_ h0
    exact ⟨b, off, fun _ => e, h⟩
  · exact ⟨0, 0, fun x => absurd x h0, fun i hi => by omega⟩
section
variable {w : World} {A A' : Option Addr}
theorem equal_bytes {n m c c' : Nat} {zs ys : List Int} (hs : Sl w w.heap.size .u8 A n zs) (hs' : Sl w w.heap.size .u8 A' m ys) (hz : Bytes zs) (hy : Bytes ys) : Calls Try.prog 46 #[.slice A n c, .slice A' m c'] w (Tells (zs = ys) w) := by
  have k1 := hs.str (P := Try.prog) 23 9 5 Try.underlying23 Try.underlying5 Try.underlying9 c
  have k2 := hs'.str (P := Try.prog) 23 9 5 Try.underlying23 Try.underlying5 Try.underlying9 c'
  have HE := Lib.hid (str_eq hz hy)
  have HS : Hid (zs = ys → strOfNums zs = strOfNums ys) := fun e => by rw [e]
  have HS2 : Hid (strOfNums zs = strOfNums ys → zs = ys) := str_inj hz hy
  clear hs hs' hz hy
  go_enter Try.func46, Try.ntmps46
  go_wp2
  go_ret
  refine ⟨⟨_, rfl, ?_⟩, Kept.refl _ _⟩
  have he := HE.out
  first
    | exact ⟨fun x => HS2.out (by simpa using x), fun x => by simpa using HS.out x⟩
    | (rw [he]; exact decide_eq_true_iff)
set_option maxHeartbeats 4000000 in
theorem equal_bools {n m c c' : Nat} {T U : Nat → Bool} (hT : Flags w A n T) (hU : Flags w A' m U) (hn : n ≤ 100000) : Calls Try.prog 44 #[.slice A n c, .slice A' m c'] w (Tells (n = m ∧ ∀ i, i < n → T i = U i) w) := by
  obtain ⟨fb, fo, fe, hf⟩ := flags_form hT
  obtain ⟨fb', fo', fe', hf'⟩ := flags_form hU
  have bad : n ≠ m → ¬ (n = m ∧ ∀ i, i < n → T i = U i) := fun h x => h x.1
  have yes : (∀ t, t < n → T t = U t) → (n = n ∧ ∀ i, i < n → T i = U i) := fun h => ⟨rfl, h⟩
  have no : ∀ j, j < n → ¬ T j = U j → ¬ (n = n ∧ ∀ i, i < n → T i = U i) := fun j hj h x => h (x.2 j hj)
  clear hT hU
  by_cases hnm : n = m
  · subst hnm
    clear bad
    have hnz : (n : Int) ≤ 100000 := by omega
    have HF := Lib.hid fe
    have HC := Lib.hid hf
    have HF' := Lib.hid fe'
    have HC' := Lib.hid hf'
    have HYES := Lib.hid yes
    have HNO := Lib.hid no
    clear fe hf fe' hf' yes no hn
    go_enter Try.func44, Try.ntmps44
    go_wp2
    go_loopg [13] n (fun gx i wr => ∃ j : Nat, j + gx = n ∧ i = .int .i64 (j : Int) ∧ Grow w wr ∧ ∀ t, t < j → T t = U t)
    case atStart => exact ⟨0, by omega, rfl, Kept.refl _ _, fun t h => absurd h (Nat.not_lt_zero t)⟩
    case round =>
      obtain ⟨j, hg, rfl, hgr, hok⟩ := hrel
      have HG := Lib.hid hg
      have HOK := Lib.hid hok
      have HGR := Lib.hid hgr
      clear hg hok hgr
      by_cases hj : j < n
      · have hjz : (j : Int) < (n : Int) := by omega
        have HJ := Lib.hid hj
        obtain rfl := HF.out (by omega)
        obtain rfl := HF'.out (by omega)
        have f1 := HGR.out.cellN (HC.out j hj) id
        have f2 := HGR.out.cellN (HC'.out j hj) id
        have HGQ := Lib.hid fun (k : Nat) => HGR.out.drewN k
        by_cases he : T j = U j
        · have HE := Lib.hid he
          rw [← he] at f2
          generalize T j = x at f1 f2
          clear hj he
          go_upto_region 6 with (fail)
          go_quiet (fail)
          have hxx : (x != x) = false := by simp
          go_wp2
          go_roundg (gk - 1)
          case measure => have := HG.out; have := HJ.out; omega
          case rel => exact ⟨j + 1, by have := HG.out; have := HJ.out; omega, by go_num, HGQ.out _, fun t ht => by
            by_cases e : t = j
            · subst e; exact HE.out
            · exact HOK.out t (by omega)⟩
        · have HB := Lib.hid (HNO.out j hj he)
          have hx : (T j != U j) = true := by simpa using he
          have hy : (T j == U j) = false := by simpa using he
          generalize T j = x at *
          generalize U j = y at *
          clear hj he
          go_upto_region 6 with (fail)
          go_quiet (fail)
          go_wp2
          go_ret
          exact Tells.no (by first | exact HB.out | simpa using HB.out) (HGQ.out _)
      · obtain rfl : j = n := by have := HG.out; omega
        clear hj
        go_wp2
        go_ret
        exact Tells.yes (HYES.out HOK.out) HGR.out
  · have HB := Lib.hid (bad hnm)
    have h1 : ((n : Int) != (m : Int)) = true := by simp; omega
    have h2 : ((n : Int) == (m : Int)) = false := by simp; omega
    clear fe hf fe' hf' yes no hn hnm bad
    go_enter Try.func44, Try.ntmps44
    go_wp2
    go_ret
    exact Tells.no HB.out (Kept.refl _ _)
set_option maxHeartbeats 4000000 in
theorem equal_ints {n m c c' : Nat} {zs ys : List Int} (hT : Sl w w.heap.size .i64 A n zs) (hU : Sl w w.heap.size .i64 A' m ys) (hn : n ≤ 100000) : Calls Try.prog 48 #[.slice A n c, .slice A' m c'] w (Tells (zs = ys) w) := by
  obtain ⟨fb, fo, fe, hf⟩ := sl_form hT
  obtain ⟨fb', fo', fe', hf'⟩ := sl_form hU
  have bad : n ≠ m → ¬ (zs = ys) := fun h x => h (by rw [← hT.len, ← hU.len, x])
  have yes : n = m → (∀ t, t < n → zs.getD t 0 = ys.getD t 0) → zs = ys := fun hm h => list_eq hT.len (by rw [hm]; exact hU.len) h
  have no : ∀ j, j < n → ¬ zs.getD j 0 = ys.getD j 0 → ¬ (zs = ys) := fun j hj h x => h (by rw [x])
  clear hT hU
  by_cases hnm : n = m
  · subst hnm
    have yes := yes rfl
    clear bad
    have hnz : (n : Int) ≤ 100000 := by omega
    have HF := Lib.hid fe
    have HC := Lib.hid hf
    have HF' := Lib.hid fe'
    have HC' := Lib.hid hf'
    have HYES := Lib.hid yes
    have HNO := Lib.hid no
    clear fe hf fe' hf' yes no hn
    go_enter Try.func48, Try.ntmps48
    go_wp2
    go_loopg [13] n (fun gx i wr => ∃ j : Nat, j + gx = n ∧ i = .int .i64 (j : Int) ∧ Grow w wr ∧ ∀ t, t < j → zs.getD t 0 = ys.getD t 0)
    case atStart => exact ⟨0, by omega, rfl, Kept.refl _ _, fun t h => absurd h (Nat.not_lt_zero t)⟩
    case round =>
      obtain ⟨j, hg, rfl, hgr, hok⟩ := hrel
      have HG := Lib.hid hg
      have HOK := Lib.hid hok
      have HGR := Lib.hid hgr
      clear hg hok hgr
      by_cases hj : j < n
      · have hjz : (j : Int) < (n : Int) := by omega
        have HJ := Lib.hid hj
        obtain rfl := HF.out (by omega)
        obtain rfl := HF'.out (by omega)
        have f1 := HGR.out.cellN (HC.out j hj) id
        have f2 := HGR.out.cellN (HC'.out j hj) id
        have HGQ := Lib.hid fun (k : Nat) => HGR.out.drewN k
        by_cases he : zs.getD j 0 = ys.getD j 0
        · have HE := Lib.hid he
          rw [← he] at f2
          generalize zs.getD j 0 = x at f1 f2
          clear hj he
          go_upto_region 6 with (fail)
          go_quiet (fail)
          go_wp2
          go_roundg (gk - 1)
          case measure => have := HG.out; have := HJ.out; omega
          case rel => exact ⟨j + 1, by have := HG.out; have := HJ.out; omega, by go_num, HGQ.out _, fun t ht => by
            by_cases e : t = j
            · subst e; exact HE.out
            · exact HOK.out t (by omega)⟩
        · have HB := Lib.hid (HNO.out j hj he)
          have hx : (zs.getD j 0 != ys.getD j 0) = true := by simpa using he
          have hy : (zs.getD j 0 == ys.getD j 0) = false := by simpa using he
          generalize zs.getD j 0 = x at *
          generalize ys.getD j 0 = y at *
          clear hj he
          go_upto_region 6 with (fail)
          go_quiet (fail)
          go_wp2
          go_ret
          exact Tells.no (by first | exact HB.out | simpa using HB.out) (HGQ.out _)
      · obtain rfl : j = n := by have := HG.out; omega
        clear hj
        go_wp2
        go_ret
        exact Tells.yes (HYES.out HOK.out) HGR.out
  · have HB := Lib.hid (bad hnm)
    have h1 : ((n : Int) != (m : Int)) = true := by simp; omega
    have h2 : ((n : Int) == (m : Int)) = false := by simp; omega
    clear fe hf fe' hf' yes no hn hnm bad
    go_enter Try.func48, Try.ntmps48
    go_wp2
    go_ret
    exact Tells.no HB.out (Kept.refl _ _)
set_option maxHeartbeats 4000000 in
theorem equal_bodies {n m c c' : Nat} {L M : Nat → List Int} (hT : Lists w .u8 A n L) (hU : Lists w .u8 A' m M) (hn : n ≤ 100000) (hL : ∀ i, i < n → (L i).length ≤ 100000) (hb : ∀ i, i < n → Bytes (L i)) (hb' : ∀ i, i < m → Bytes (M i)) : Calls Try.prog 45 #[.slice A n c, .slice A' m c', .func (.func 46) #[] #[]] w (Tells (n = m ∧ ∀ i, i < n → L i = M i) w) := by
  obtain ⟨fb, fo, fe, hf⟩ := lists_form hT
  obtain ⟨fb', fo', fe', hf'⟩ := lists_form hU
  clear hT hU
  by_cases hnm : n = m
  · subst hnm
    have hnz : (n : Int) ≤ 100000 := by omega
    have HF := Lib.hid fe
    have HC := Lib.hid hf
    have HF' := Lib.hid fe'
    have HC' := Lib.hid hf'
    have HLL := Lib.hid hL
    have HBY := Lib.hid hb
    have HBY' := Lib.hid hb'
    clear fe hf fe' hf' hn hL hb hb'
    go_enter Try.func45, Try.ntmps45
    go_wp2
    go_loopg [17] n (fun gx i wr => ∃ j : Nat, j + gx = n ∧ i = .int .i64 (j : Int) ∧ Grow w wr ∧ ∀ t, t < j → L t = M t)
    case atStart => exact ⟨0, by omega, rfl, Kept.refl _ _, fun t h => absurd h (Nat.not_lt_zero t)⟩
    case round =>
      obtain ⟨j, hg, rfl, hgr, hok⟩ := hrel
      have HG := Lib.hid hg
      have HOK := Lib.hid hok
      have HGR := Lib.hid hgr
      clear hg hok hgr
      by_cases hj : j < n
      · have hjz : (j : Int) < (n : Int) := by omega
        have HJ := Lib.hid hj
        obtain rfl := HF.out (by omega)
        obtain rfl := HF'.out (by omega)
        obtain ⟨Aj, cj, r0, hsl⟩ := HC.out j hj
        obtain ⟨Aj', cj', r0', hsl'⟩ := HC'.out j hj
        have r1 := HGR.out.cellN r0 id
        have r1' := HGR.out.cellN r0' id
        have HE := Lib.hid (equal_bytes (c := cj) (c' := cj') (sl_grow hsl HGR.out) (sl_grow hsl' HGR.out) (HBY.out j hj) (HBY'.out j hj))
        clear hj r0 r0' hsl hsl'
        generalize (L j).length = lj at *
        generalize (M j).length = lj' at *
        go_wp2_with (go_at_call 46; (with_reducible refine HE.out.mono ?_); rintro e w2 ⟨⟨bx, rfl, hbx⟩, hg2⟩; have HG2 := Lib.hid hg2; have HBX := Lib.hid hbx; clear hg2 hbx; cases bx)
        · go_ret
          exact Tells.no (fun x => Bool.noConfusion (HBX.out.2 (x.2 j HJ.out))) (HGR.out.trans HG2.out)
        · go_wp2
          go_roundg (gk - 1)
          case measure => have := HG.out; have := HJ.out; omega
          case rel => exact ⟨j + 1, by have := HG.out; have := HJ.out; omega, by go_num, HGR.out.trans HG2.out, fun t ht => by
            by_cases e : t = j
            · subst e; exact HBX.out.1 trivial
            · exact HOK.out t (by omega)⟩
      · obtain rfl : j = n := by have := HG.out; omega
        clear hj
        go_wp2
        go_ret
        exact Tells.yes (by first | exact ⟨rfl, HOK.out⟩ | exact ⟨trivial, HOK.out⟩) HGR.out
  · have HB : Hid (¬ (n = m ∧ ∀ i, i < n → L i = M i)) := fun x => hnm x.1
    have h1 : ((n : Int) != (m : Int)) = true := by simp; omega
    have h2 : ((n : Int) == (m : Int)) = false := by simp; omega
    clear fe hf fe' hf' hn hnm hL hb hb'
    go_enter Try.func45, Try.ntmps45
    go_wp2
    go_ret
    exact Tells.no HB.out (Kept.refl _ _)
set_option maxHeartbeats 4000000 in
theorem equal_hands {n m c c' : Nat} {L M : Nat → List Int} (hT : Lists w .i64 A n L) (hU : Lists w .i64 A' m M) (hn : n ≤ 100000) (hL : ∀ i, i < n → (L i).length ≤ 100000) : Calls Try.prog 47 #[.slice A n c, .slice A' m c', .func (.func 48) #[] #[]] w (Tells (n = m ∧ ∀ i, i < n → L i = M i) w) := by
  obtain ⟨fb, fo, fe, hf⟩ := lists_form hT
  obtain ⟨fb', fo', fe', hf'⟩ := lists_form hU
  clear hT hU
  by_cases hnm : n = m
  · subst hnm
    have hnz : (n : Int) ≤ 100000 := by omega
    have HF := Lib.hid fe
    have HC := Lib.hid hf
    have HF' := Lib.hid fe'
    have HC' := Lib.hid hf'
    have HLL := Lib.hid hL
    clear fe hf fe' hf' hn hL
    go_enter Try.func47, Try.ntmps47
    go_wp2
    go_loopg [17] n (fun gx i wr => ∃ j : Nat, j + gx = n ∧ i = .int .i64 (j : Int) ∧ Grow w wr ∧ ∀ t, t < j → L t = M t)
    case atStart => exact ⟨0, by omega, rfl, Kept.refl _ _, fun t h => absurd h (Nat.not_lt_zero t)⟩
    case round =>
      obtain ⟨j, hg, rfl, hgr, hok⟩ := hrel
      have HG := Lib.hid hg
      have HOK := Lib.hid hok
      have HGR := Lib.hid hgr
      clear hg hok hgr
      by_cases hj : j < n
      · have hjz : (j : Int) < (n : Int) := by omega
        have HJ := Lib.hid hj
        obtain rfl := HF.out (by omega)
        obtain rfl := HF'.out (by omega)
        obtain ⟨Aj, cj, r0, hsl⟩ := HC.out j hj
        obtain ⟨Aj', cj', r0', hsl'⟩ := HC'.out j hj
        have r1 := HGR.out.cellN r0 id
        have r1' := HGR.out.cellN r0' id
        have HE := Lib.hid (equal_ints (c := cj) (c' := cj') (sl_grow hsl HGR.out) (sl_grow hsl' HGR.out) (by have := HLL.out j hj; omega))
        clear hj r0 r0' hsl hsl'
        generalize (L j).length = lj at *
        generalize (M j).length = lj' at *
        go_wp2_with (go_at_call 48; (with_reducible refine HE.out.mono ?_); rintro e w2 ⟨⟨bx, rfl, hbx⟩, hg2⟩; have HG2 := Lib.hid hg2; have HBX := Lib.hid hbx; clear hg2 hbx; cases bx)
        · go_ret
          exact Tells.no (fun x => Bool.noConfusion (HBX.out.2 (x.2 j HJ.out))) (HGR.out.trans HG2.out)
        · go_wp2
          go_roundg (gk - 1)
          case measure => have := HG.out; have := HJ.out; omega
          case rel => exact ⟨j + 1, by have := HG.out; have := HJ.out; omega, by go_num, HGR.out.trans HG2.out, fun t ht => by
            by_cases e : t = j
            · subst e; exact HBX.out.1 trivial
            · exact HOK.out t (by omega)⟩
      · obtain rfl : j = n := by have := HG.out; omega
        clear hj
        go_wp2
        go_ret
        exact Tells.yes (by first | exact ⟨rfl, HOK.out⟩ | exact ⟨trivial, HOK.out⟩) HGR.out
  · have HB : Hid (¬ (n = m ∧ ∀ i, i < n → L i = M i)) := fun x => hnm x.1
    have h1 : ((n : Int) != (m : Int)) = true := by simp; omega
    have h2 : ((n : Int) == (m : Int)) = false := by simp; omega
    clear fe hf fe' hf' hn hnm hL
    go_enter Try.func47, Try.ntmps47
    go_wp2
    go_ret
    exact Tells.no HB.out (Kept.refl _ _)
set_option maxHeartbeats 4000000 in
theorem same_any {v v' : Value} {s t : St} (hs : Seen w v s) (ht : Seen w v' t) (hf : s.few) : Calls Try.prog 28 #[v, v'] w (Tells (s.same t) w) := by
  obtain ⟨AT, cT, AB, cB, AH, cH, rfl, hp⟩ := hs
  obtain ⟨BT, dT, BB, dB, BH, dH, rfl, hq⟩ := ht
  unfold stv
  have hb := Blk.new w 39 [.slice AT s.nT cT, .slice AB s.nB cB, .slice AH s.nH cH]
  have hg : Grow w (w.alloc (.cells #[.slice AT s.nT cT, .slice AB s.nB cB, .slice AH s.nH cH] 39)) := (Kept.refl _ _).alloc _
  have hz : (w.alloc (.cells #[.slice AT s.nT cT, .slice AB s.nB cB, .slice AH s.nH cH] 39)).heap.size = w.heap.size + 1 := by simp
  have hb2 := Blk.new (w.alloc (.cells #[.slice AT s.nT cT, .slice AB s.nB cB, .slice AH s.nH cH] 39)) 39 [.slice BT t.nT dT, .slice BB t.nB dB, .slice BH t.nH dH]
  have hg2 : Grow (w.alloc (.cells #[.slice AT s.nT cT, .slice AB s.nB cB, .slice AH s.nH cH] 39)) ((w.alloc (.cells #[.slice AT s.nT cT, .slice AB s.nB cB, .slice AH s.nH cH] 39)).alloc (.cells #[.slice BT t.nT dT, .slice BB t.nB dB, .slice BH t.nH dH] 39)) := (Kept.refl _ _).alloc _
  rw [hz] at hb2
  have hb1 := hb.grow hg2
  have HG0 := Lib.hid (hg.trans hg2)
  have HP := Lib.hid (hp.grow HG0.out)
  have HQ := Lib.hid (hq.grow HG0.out)
  have s0 := hb1.cell 0
  have s1 := hb1.cell 1
  have s2 := hb1.cell 2
  have t0 := hb2.cell 0
  have t1 := hb2.cell 1
  have t2 := hb2.cell 2
  simp only [List.getElem?_cons_zero, List.getElem?_cons_succ] at s0 s1 s2 t0 t1 t2
  have HF := Lib.hid hf
  clear hb hg hz hb2 hg2 hb1 hp hq hf
  go_enter Try.func28, Try.ntmps28
  go_upto_region 1 with (fail)
  generalize (w.alloc (.cells #[.slice AT s.nT cT, .slice AB s.nB cB, .slice AH s.nH cH] 39)).alloc (.cells #[.slice BT t.nT dT, .slice BB t.nB dB, .slice BH t.nH dH] 39) = w0 at *
  go_wp2_with (go_at_call 44; (with_reducible refine (equal_bools HP.out.T HQ.out.T (by have := HF.out.nT; omega)).mono ?_); rintro e w1 ⟨⟨b1, rfl, hb1⟩, hg1⟩; have HG1 := Lib.hid hg1; have HB1 := Lib.hid hb1; have s1 := hg1.cellN s1 id; have s2 := hg1.cellN s2 id; have t1 := hg1.cellN t1 id; have t2 := hg1.cellN t2 id; clear hg1 hb1; cases b1)
  · go_ret
    exact Tells.no (fun x => Bool.noConfusion (HB1.out.2 ⟨x.nT, x.T⟩)) (HG0.out.trans HG1.out)
  · go_wp2_with (go_at_call 45; (with_reducible refine (equal_bodies (HP.out.B.grow HG1.out) (HQ.out.B.grow HG1.out) (by have := HF.out.nB; omega) (fun i hi => by have := HF.out.B i hi; omega) HP.out.byt HQ.out.byt).mono ?_); rintro e w2 ⟨⟨b2, rfl, hb2⟩, hg2⟩; have HG2 := Lib.hid hg2; have HB2 := Lib.hid hb2; have s2 := hg2.cellN s2 id; have t2 := hg2.cellN t2 id; clear hg2 hb2; cases b2)
    · go_ret
      exact Tells.no (fun x => Bool.noConfusion (HB2.out.2 ⟨x.nB, x.B⟩)) ((HG0.out.trans HG1.out).trans HG2.out)
    · go_wp2_with (go_at_call 47; (with_reducible refine (equal_hands ((HP.out.H.grow HG1.out).grow HG2.out) ((HQ.out.H.grow HG1.out).grow HG2.out) (by have := HF.out.nH; omega) (fun i hi => by have := HF.out.H i hi; omega)).mono ?_); rintro e w3 ⟨⟨b3, rfl, hb3⟩, hg3⟩; have HG3 := Lib.hid hg3; have HB3 := Lib.hid hb3; clear hg3 hb3)
      go_ret
      refine ⟨⟨b3, rfl, fun x => ?_, fun x => HB3.out.2 ⟨x.nH, x.H⟩⟩, ((HG0.out.trans HG1.out).trans HG2.out).trans HG3.out⟩
      obtain ⟨e1, e2⟩ := HB1.out.1 trivial
      obtain ⟨e3, e4⟩ := HB2.out.1 trivial
      obtain ⟨e5, e6⟩ := HB3.out.1 x
      exact ⟨e1, e3, e5, e2, e4, e6⟩
end
end Go.Proofs.Ytjdlpknflhgkfaa.PmS
