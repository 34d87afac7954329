/-
  What the document's own answers of chapter 2 compute: low, Blank, Seal, Open over strings.
-/
import Derived.Test.YtmdafgonnkppoaaPageCalls
namespace Go.Proofs.Ytmdafgonnkppoaa.PageR
open Go.ChangeShapes Go.WideShapes Go.ChangeAt Go.RowKit
open Go.Proofs.Ytmdafgonnkppoaa.SumM Go.Proofs.Ytmdafgonnkppoaa.Mem Go.Proofs.Ytmdafgonnkppoaa.SumC Go.Proofs.Ytmdafgonnkppoaa.Blk Go.Proofs.Ytmdafgonnkppoaa.PageM Go.Proofs.Ytmdafgonnkppoaa.PageC

theorem Kept.ofBelow {w w' : World} (h : Below w.heap.size w w') : Grow w w' := Kept.of_below h

set_option maxHeartbeats 1000000 in
theorem low_any (s : Int) (n : Nat) (w : World) (h0 : 0 ≤ s) (h1 : s < 4294967296) (hn : n ≤ 4) :
    Calls Try.prog 18 #[.int .u32 s, .int .i64 (n : Int)] w fun e w' => e = .returned (.string (strOfNums ((le4 s).take n))) ∧ Below w.heap.size w w' := by
  have hcs := fun (w1 : World) B A (n : Nat) zs c (h : Sl w1 B .u8 A n zs) => h.str (P := Try.prog) 22 9 5 Try.underlying22 Try.underlying5 Try.underlying9 c
  have HCS := Lib.hid hcs
  clear hcs
  go_enter Try.func18, Try.ntmps18
  go_wp2
  go_loopg [5, 6] n (fun g v i wr => ∃ j : Nat, j + g = n ∧ i = .int .i64 (j : Int) ∧ wr.ownsRow w.heap.size 5 1 v j (((le4 s).take j).map (Value.int .u8)) ∧ Below w.heap.size w wr)
  case atStart => exact ⟨0, by omega, rfl, World.ownsRow_nil _ _ _ _, Below.refl _ _⟩
  case round =>
    obtain ⟨j, hg, rfl, hown, hbel⟩ := hrel
    by_cases hj : j < n
    · have HO := Lib.hid hown
      have HB := Lib.hid hbel
      have HG := Lib.hid hg
      clear hown hbel hg
      have hbs : w.heap.size ≤ wr.heap.size := HB.out.size
      match j, hj with
      | 0, hj =>
        have E : Hid (((le4 s).take 0).map (Value.int .u8) ++ [.int .u8 (s % 256)] = ((le4 s).take 1).map (Value.int .u8)) := by
          show ((le4 s).take 0).map (Value.int .u8) ++ [Value.int .u8 (s % 256)] = ((le4 s).take 1).map (Value.int .u8)
          
          simp [le4]
        simp only [Int.natCast_zero, Int.cast_ofNat_Int] at *
        go_wp2_with (at_builtin; refine wpList_append_one rfl (.tmp 12) (.tmp 19) 22 rfl w.heap.size 5 (.int .u8 0) 1 Try.underlying22 infoU8 rfl _ 0 _ rfl (World.ownsRow.alloc HO.out _) wr.heap.size (.int .u8 (s % 256)) rfl (cell_new1 _ _ _) rfl (by unfold maxLen; omega) (by omega) (by simp; omega) ?_; intro g cap w2 hown hbel; rw [E.out] at hown; have HOW := Lib.hid hown; have HBW := Lib.hid hbel; clear hown hbel)
        go_roundg (gk - 1)
        case measure => have := HG.out; omega
        case rel => exact ⟨1, by have := HG.out; omega, by go_num, HOW.out, (HB.out.alloc hbs _).trans HBW.out⟩
      | 1, hj =>
        have E : Hid (((le4 s).take 1).map (Value.int .u8) ++ [.int .u8 (s / 256 % 256)] = ((le4 s).take 2).map (Value.int .u8)) := by
          show ((le4 s).take 1).map (Value.int .u8) ++ [Value.int .u8 (s / 256 % 256)] = ((le4 s).take 2).map (Value.int .u8)
          
          simp [le4]
        simp only [Int.natCast_zero, Int.cast_ofNat_Int] at *
        go_wp2_with (at_builtin; refine wpList_append_one rfl (.tmp 12) (.tmp 19) 22 rfl w.heap.size 5 (.int .u8 0) 1 Try.underlying22 infoU8 rfl _ 1 _ rfl (World.ownsRow.alloc HO.out _) wr.heap.size (.int .u8 (s / 256 % 256)) rfl (cell_new1 _ _ _) rfl (by unfold maxLen; omega) (by omega) (by simp; omega) ?_; intro g cap w2 hown hbel; rw [E.out] at hown; have HOW := Lib.hid hown; have HBW := Lib.hid hbel; clear hown hbel)
        go_roundg (gk - 1)
        case measure => have := HG.out; omega
        case rel => exact ⟨2, by have := HG.out; omega, by go_num, HOW.out, (HB.out.alloc hbs _).trans HBW.out⟩
      | 2, hj =>
        have E : Hid (((le4 s).take 2).map (Value.int .u8) ++ [.int .u8 (s / 65536 % 256)] = ((le4 s).take 3).map (Value.int .u8)) := by
          show ((le4 s).take 2).map (Value.int .u8) ++ [Value.int .u8 (s / 65536 % 256)] = ((le4 s).take 3).map (Value.int .u8)
          
          simp [le4]
        simp only [Int.natCast_zero, Int.cast_ofNat_Int] at *
        go_wp2_with (at_builtin; refine wpList_append_one rfl (.tmp 12) (.tmp 19) 22 rfl w.heap.size 5 (.int .u8 0) 1 Try.underlying22 infoU8 rfl _ 2 _ rfl (World.ownsRow.alloc HO.out _) wr.heap.size (.int .u8 (s / 65536 % 256)) rfl (cell_new1 _ _ _) rfl (by unfold maxLen; omega) (by omega) (by simp; omega) ?_; intro g cap w2 hown hbel; rw [E.out] at hown; have HOW := Lib.hid hown; have HBW := Lib.hid hbel; clear hown hbel)
        go_roundg (gk - 1)
        case measure => have := HG.out; omega
        case rel => exact ⟨3, by have := HG.out; omega, by go_num, HOW.out, (HB.out.alloc hbs _).trans HBW.out⟩
      | 3, hj =>
        have E : Hid (((le4 s).take 3).map (Value.int .u8) ++ [.int .u8 (s / 16777216)] = ((le4 s).take 4).map (Value.int .u8)) := by
          show ((le4 s).take 3).map (Value.int .u8) ++ [Value.int .u8 (s / 16777216)] = ((le4 s).take 4).map (Value.int .u8)
          have hq : s / 16777216 % 256 = s / 16777216 := by omega
          simp [le4, hq]
        simp only [Int.natCast_zero, Int.cast_ofNat_Int] at *
        go_wp2_with (at_builtin; refine wpList_append_one rfl (.tmp 12) (.tmp 19) 22 rfl w.heap.size 5 (.int .u8 0) 1 Try.underlying22 infoU8 rfl _ 3 _ rfl (World.ownsRow.alloc HO.out _) wr.heap.size (.int .u8 (s / 16777216)) rfl (cell_new1 _ _ _) rfl (by unfold maxLen; omega) (by omega) (by simp; omega) ?_; intro g cap w2 hown hbel; rw [E.out] at hown; have HOW := Lib.hid hown; have HBW := Lib.hid hbel; clear hown hbel)
        go_roundg (gk - 1)
        case measure => have := HG.out; omega
        case rel => exact ⟨4, by have := HG.out; omega, by go_num, HOW.out, (HB.out.alloc hbs _).trans HBW.out⟩
      | j + 4, hj => exact absurd hj (by omega)
    · obtain rfl : j = n := by omega
      obtain ⟨A, c, rfl, hsl⟩ := Sl.of_row1 hown
      have hcv := HCS.out _ _ _ _ _ c hsl
      have HB := Lib.hid hbel
      clear hown hbel hsl hg
      go_wp2
      go_ret
      exact ⟨rfl, HB.out⟩
theorem str_append (a b : List Int) : strOfNums a ++ strOfNums b = strOfNums (a ++ b) := by
  apply ByteArray.ext
  rw [ByteArray.data_append]
  simp [strOfNums]
theorem str_sign : (⟨#[90, 165]⟩ : ByteArray) = strOfNums [90, 165] := by decide
theorem str_nil : (⟨#[]⟩ : ByteArray) = strOfNums [] := rfl

theorem refBlank_any (w : World) : Calls Try.prog 14 #[] w fun e w' => e = .returned (.string (strOfNums (zeros 24))) ∧ Below w.heap.size w w' := by
  have hmk := fun w => run_make_row' (P := Try.prog) 22 5 (.int .u8 0) 1 Try.underlying22 infoU8 rfl .i64 .i64 24 (by omega) (by omega) w
  simp only [Int.cast_ofNat_Int] at hmk
  have hb := NBlk.made w 5 .u8 24
  have hbel : Below w.heap.size w (w.alloc (.cells (madeCells #[Value.int .u8 0] 24) 5)) := (Below.refl _ _).alloc (Nat.le_refl _) _
  have hcv := (Sl.of_blk0 (B := w.heap.size + 1) hb (n := 24) (by simp) (by omega)).str (P := Try.prog) 22 9 5 Try.underlying22 Try.underlying5 Try.underlying9 24
  have HB := Lib.hid hbel
  clear hb hbel
  go_enter Try.func14, Try.ntmps14
  go_wp2
  go_ret
  exact ⟨rfl, HB.out⟩

set_option maxHeartbeats 1000000 in
theorem refSeal_good (id : Int) (zs : List Int) (w : World) (h0 : 0 ≤ id) (h1 : id < 48) (hz : Bytes zs) (hl : zs.length = 16) :
    Calls Try.prog 10 #[.int .i64 id, .string (strOfNums zs)] w fun e w' => e = .returned (.tuple #[.string (strOfNums (sealI id zs)), .int .i64 0]) ∧ Below w.heap.size w w' := by
  have hsz : (strOfNums zs).size = 16 := by rw [strOfNums_size, hl]
  have hl2 := fun w => low_any (id + 1) 2 w (by omega) (by omega) (by omega)
  have e2 : (le4 (id + 1)).take 2 = [id + 1, 0] := by
    have q1 : (id + 1) % 256 = id + 1 := by omega
    have q2 : (id + 1) / 256 % 256 = 0 := by omega
    simp [le4, q1, q2]
  rw [e2] at hl2
  simp only [Int.cast_ofNat_Int] at hl2
  have HL2 := Lib.hid hl2
  have hcat : strOfNums [id + 1, 0] ++ ⟨#[90, 165]⟩ ++ strOfNums zs = strOfNums (tail id zs) := by rw [str_sign, str_append, str_append]; rfl
  have ht := tail_bytes h0 h1 hz
  have hu := ofI_u32 ht
  have ho := fun w => refOf_any (strOfNums (tail id zs)) w (by rw [strOfNums_size, tail_len, hl]; unfold maxLen; omega)
  rw [strNums_ofNums ht] at ho
  have hl4 := fun w => low_any (ofI (tail id zs)) 4 w hu.1 hu.2 (by omega)
  simp only [Int.cast_ofNat_Int] at hl4
  have HO := Lib.hid ho
  have HL4 := Lib.hid hl4
  have hfin : strOfNums ((le4 (ofI (tail id zs))).take 4) ++ strOfNums (tail id zs) = strOfNums (sealI id zs) := by rw [str_append]; rfl
  have HFIN := Lib.hid hfin
  have hz2 : (strOfNums [id + 1, 0]).size = 2 := by rw [strOfNums_size]; rfl
  have hz20 : (strOfNums (tail id zs)).size = 20 := by rw [strOfNums_size, tail_len, hl]
  have hz4 : (strOfNums ((le4 (ofI (tail id zs))).take 4)).size = 4 := by rw [strOfNums_size]; rfl
  clear hl2 ho hl4 hfin e2 hu ht hz hl
  generalize ofI (tail id zs) = s at HO HL4 HFIN hz4
  go_enter Try.func10, Try.ntmps10
  go_wp2_with (first
    | (go_at_call 18; (with_reducible refine (HL2.out _).mono ?_); rintro e w1 ⟨rfl, hb1⟩; have HB1 := Lib.hid hb1; clear hb1)
    | (go_at_call 19; (with_reducible refine (HO.out _).mono ?_); rintro e w' ⟨rfl, rfl⟩)
    | (go_at_call 18; (with_reducible refine (HL4.out _).mono ?_); rintro e w2 ⟨rfl, hb2⟩; have HB2 := Lib.hid hb2; clear hb2))
  go_ret2
  exact ⟨by rw [← HFIN.out]; rfl, HB1.out.trans (HB2.out.mono HB1.out.size)⟩

theorem refSeal_bad (id : Int) (zs : List Int) (w : World) (hlo : -9223372036854775808 ≤ id) (hhi : id < 9223372036854775808) (hl : zs.length ≤ maxLen) (hbad : ¬ (0 ≤ id ∧ id < 48 ∧ zs.length = 16)) :
    Calls Try.prog 10 #[.int .i64 id, .string (strOfNums zs)] w fun e w' => e = .returned (.tuple #[.string ⟨#[]⟩, .int .i64 1]) ∧ w = w' := by
  unfold maxLen at hl
  have hsz : (strOfNums zs).size = zs.length := strOfNums_size zs
  by_cases h0 : 0 ≤ id
  · by_cases h1 : id < 48
    · have hne : ((zs.length : Int) != 16) = true := by simpa [bne_iff_ne] using (by omega : ¬ (zs.length : Int) = 16)
      clear hbad
      generalize zs.length = n at *
      go_enter Try.func10, Try.ntmps10
      go_wp2
      go_ret2
      exact ⟨rfl, rfl⟩
    · have h1' : 48 ≤ id := by omega
      clear hbad
      go_enter Try.func10, Try.ntmps10
      go_wp2
      go_ret2
      exact ⟨rfl, rfl⟩
  · have h0' : id < 0 := by omega
    clear hbad
    go_enter Try.func10, Try.ntmps10
    go_wp2
    go_ret2
    exact ⟨rfl, rfl⟩
theorem str_inj {a b : List Int} (ha : Bytes a) (hb : Bytes b) (h : strOfNums a = strOfNums b) : a = b := by
  have := congrArg strNums h
  rwa [strNums_ofNums ha, strNums_ofNums hb] at this
/-- Two texts of numbers that are bytes are alike just if the numbers are. -/
theorem str_eq {a b : List Int} (ha : Bytes a) (hb : Bytes b) : ((strOfNums a).toList == (strOfNums b).toList) = decide (a = b) := by
  rw [Bool.eq_iff_iff, beq_iff_eq, decide_eq_true_iff]
  constructor
  · intro h
    refine str_inj ha hb ?_
    rw [ByteArray.toList_eq, ByteArray.toList_eq] at h
    apply ByteArray.ext
    exact Array.ext' h
  · intro h; rw [h]
theorem str_drop (zs : List Int) (k n : Nat) (hn : zs.length = n) (hk : k ≤ n) : (strOfNums zs).extract k n = strOfNums (zs.drop k) := by
  apply ByteArray.ext
  rw [ByteArray.data_extract]
  apply Array.ext'
  simp [strOfNums, List.map_drop]
  rw [List.take_of_length_le (by simp [hn])]

theorem refOpen_bad (id : Int) (zs : List Int) (w : World) (hlo : -9223372036854775808 ≤ id) (hhi : id < 9223372036854775808) (hl : zs.length ≤ maxLen) (hbad : ¬ (0 ≤ id ∧ id < 48 ∧ zs.length = 24)) :
    Calls Try.prog 12 #[.int .i64 id, .string (strOfNums zs)] w fun e w' => e = .returned (.tuple #[.string ⟨#[]⟩, .int .i64 1]) ∧ w = w' := by
  unfold maxLen at hl
  have hsz : (strOfNums zs).size = zs.length := strOfNums_size zs
  by_cases h0 : 0 ≤ id
  · by_cases h1 : id < 48
    · have hne : ((zs.length : Int) != 24) = true := by simpa [bne_iff_ne] using (by omega : ¬ (zs.length : Int) = 24)
      clear hbad
      generalize zs.length = n at *
      go_enter Try.func12, Try.ntmps12
      go_wp2
      go_ret2
      exact ⟨rfl, rfl⟩
    · have h1' : 48 ≤ id := by omega
      clear hbad
      go_enter Try.func12, Try.ntmps12
      go_wp2
      go_ret2
      exact ⟨rfl, rfl⟩
  · have h0' : id < 0 := by omega
    clear hbad
    go_enter Try.func12, Try.ntmps12
    go_wp2
    go_ret2
    exact ⟨rfl, rfl⟩

set_option maxHeartbeats 1000000 in
theorem refOpen_good (id : Int) (zs : List Int) (w : World) (h0 : 0 ≤ id) (h1 : id < 48) (hz : Bytes zs) (hl : zs.length = 24) :
    Calls Try.prog 12 #[.int .i64 id, .string (strOfNums zs)] w fun e w' => e = .returned (.tuple #[.string (strOfNums (openB id zs)), .int .i64 (openC id zs)]) ∧ Below w.heap.size w w' := by
  have hsz : (strOfNums zs).size = 24 := by rw [strOfNums_size, hl]
  have hz8 : Bytes (zs.drop 8) := fun c hc => hz c (List.mem_of_mem_drop hc)
  have hx := str_drop zs 8 24 hl (by omega)
  have HL := Lib.hid (fun w => refSeal_good id (zs.drop 8) w h0 h1 hz8 (by rw [List.length_drop, hl]))
  have hbz := str_eq hz (zeros_bytes 24)
  have hbs := str_eq (seal_bytes h0 h1 hz8) hz
  have hoc := openC_good h0 h1 hl
  have hob : openB id zs = if openC id zs = 0 then zs.drop 8 else [] := rfl
  by_cases e1 : zs = zeros 24
  · rw [decide_eq_true e1] at hbz
    rw [if_pos e1] at hoc
    rw [hoc, if_neg (by decide)] at hob
    have HOC := Lib.hid hoc
    have HOB := Lib.hid hob
    clear hoc hob e1 hbs hz hl
    go_enter Try.func12, Try.ntmps12
    go_wp2_with (go_at_call 14; (with_reducible refine (refBlank_any _).mono ?_); rintro e w1 ⟨rfl, hb1⟩; have HB1 := Lib.hid hb1; clear hb1)
    go_ret2
    exact ⟨by rw [HOC.out, HOB.out]; rfl, HB1.out⟩
  · rw [decide_eq_false e1] at hbz
    rw [if_neg e1] at hoc
    by_cases e2 : zs = sealI id (zs.drop 8)
    · rw [decide_eq_true e2.symm] at hbs
      rw [if_pos e2] at hoc
      rw [hoc, if_pos rfl] at hob
      have HOC := Lib.hid hoc
      have HOB := Lib.hid hob
      clear hoc hob e1 e2 hz hl
      go_enter Try.func12, Try.ntmps12
      go_wp2_with (first
        | (go_at_call 14; (with_reducible refine (refBlank_any _).mono ?_); rintro e w1 ⟨rfl, hb1⟩; have HB1 := Lib.hid hb1; clear hb1)
        | (go_at_call 10; (with_reducible refine (HL.out _).mono ?_); rintro e w2 ⟨rfl, hb2⟩; have HB2 := Lib.hid hb2; clear hb2))
      go_ret2
      exact ⟨by rw [HOC.out, HOB.out]; rfl, HB1.out.trans (HB2.out.mono HB1.out.size)⟩
    · rw [decide_eq_false (fun h => e2 h.symm)] at hbs
      rw [if_neg e2] at hoc
      rw [hoc, if_neg (by decide)] at hob
      have HOC := Lib.hid hoc
      have HOB := Lib.hid hob
      clear hoc hob e1 e2 hz hl
      go_enter Try.func12, Try.ntmps12
      go_wp2_with (first
        | (go_at_call 14; (with_reducible refine (refBlank_any _).mono ?_); rintro e w1 ⟨rfl, hb1⟩; have HB1 := Lib.hid hb1; clear hb1)
        | (go_at_call 10; (with_reducible refine (HL.out _).mono ?_); rintro e w2 ⟨rfl, hb2⟩; have HB2 := Lib.hid hb2; clear hb2))
      go_ret2
      exact ⟨by rw [HOC.out, HOB.out]; rfl, HB1.out.trans (HB2.out.mono HB1.out.size)⟩
/-! ### Every argument at once -/

theorem sealB_good {id : Int} {zs : List Int} (h : 0 ≤ id ∧ id < 48 ∧ zs.length = 16) : sealB id zs = sealI id zs ∧ sealC id zs.length = 0 := by
  have : sealOk id zs.length = true := by simp [sealOk, isPage, h]
  simp [sealB, sealC, this]
theorem sealB_bad {id : Int} {zs : List Int} (h : ¬ (0 ≤ id ∧ id < 48 ∧ zs.length = 16)) : sealB id zs = [] ∧ sealC id zs.length = 1 := by
  have : sealOk id zs.length = false := by
    rw [← Bool.not_eq_true]
    simpa [sealOk, isPage, and_assoc] using h
  simp [sealB, sealC, this]
theorem sealB_bytes {id : Int} {zs : List Int} (hz : Bytes zs) : Bytes (sealB id zs) := by
  by_cases h : 0 ≤ id ∧ id < 48 ∧ zs.length = 16
  · rw [(sealB_good h).1]; exact seal_bytes h.1 h.2.1 hz
  · rw [(sealB_bad h).1]; intro c hc; cases hc
theorem openB_bytes {id : Int} {zs : List Int} (hz : Bytes zs) : Bytes (openB id zs) := by
  unfold openB
  split
  · exact fun c hc => hz c (List.mem_of_mem_drop hc)
  · intro c hc; cases hc

/-- A list in memory of its own, and a code. -/
def Told (w : World) (zs : List Int) (k : Int) (e : Ending) (w' : World) : Prop :=
  ∃ A n c, e = .returned (.tuple #[.slice A n c, .int .i64 k]) ∧ Sl w' w'.heap.size .u8 A n zs ∧ Grow w w'

theorem seal_any (id : Int) (A : Option Addr) (n cap B : Nat) (zs : List Int) (w : World) (hlo : -9223372036854775808 ≤ id) (hhi : id < 9223372036854775808) (hz : Bytes zs) (hn : n ≤ maxLen) (h : Sl w B .u8 A n zs) (hB : B ≤ w.heap.size) :
    Calls Try.prog 9 #[.int .i64 id, .slice A n cap] w (Told w (sealB id zs) (sealC id n)) := by
  have hl := h.len
  by_cases hg : 0 ≤ id ∧ id < 48 ∧ zs.length = 16
  · obtain ⟨h1, h2⟩ := sealB_good hg
    rw [hl] at h2
    rw [h1, h2]
    have hn16 : n = 16 := by omega
    subst hn16
    refine (seal_good id A cap B zs w hg.1 hg.2.1 hz h hB).mono ?_
    rintro e w' ⟨g, rfl, hg', hb, hgr⟩
    exact ⟨_, _, _, rfl, Sl.of_blk0 hb (by rw [seal_len]; omega) (Blk.lt hb), hgr⟩
  · obtain ⟨h1, h2⟩ := sealB_bad hg
    rw [hl] at h2
    rw [h1, h2]
    refine (seal_bad id A n cap w hlo hhi hn (by omega)).mono ?_
    rintro e w' ⟨rfl, rfl⟩
    exact ⟨_, _, _, rfl, Sl.nil _ _ _ _, Kept.refl _ _⟩

theorem open_any (id : Int) (A : Option Addr) (n cap B : Nat) (zs : List Int) (w : World) (hlo : -9223372036854775808 ≤ id) (hhi : id < 9223372036854775808) (hz : Bytes zs) (hcap : n ≤ cap) (hcap' : cap ≤ maxLen) (h : Sl w B .u8 A n zs) (hB : B ≤ w.heap.size) :
    Calls Try.prog 11 #[.int .i64 id, .slice A n cap] w (Told w (openB id zs) (openC id zs)) := by
  have hl := h.len
  by_cases hg : 0 ≤ id ∧ id < 48 ∧ zs.length = 24
  · have hn : n = 24 := by omega
    subst hn
    refine (open_good id A cap B zs w hg.1 hg.2.1 hz h hB hcap hcap').mono ?_
    rintro e w' ⟨A', c, rfl, h1, h2, hgr⟩
    refine ⟨_, _, _, rfl, ?_, hgr⟩
    by_cases h0 : openC id zs = 0
    · obtain ⟨g, rfl, _, hb⟩ := h1 h0
      have hbl : (openB id zs).length = 16 := by unfold openB; rw [if_pos h0, List.length_drop]; omega
      have := Sl.of_blk (B := w'.heap.size) hb 8 16 (by rw [seal_len]; omega) (Blk.lt hb)
      rw [seal_drop, List.take_of_length_le (by omega)] at this
      rwa [hbl]
    · obtain ⟨rfl, rfl⟩ := h2 h0
      have hbn : openB id zs = [] := by unfold openB; rw [if_neg h0]
      rw [hbn]
      exact Sl.nil _ _ _ _
  · have hc := openC_bad (id := id) (zs := zs) hg
    have hb : openB id zs = [] := by unfold openB; rw [hc, if_neg (by omega)]
    rw [hc, hb]
    refine (open_bad id A n cap w hlo hhi (by omega) (by omega)).mono ?_
    rintro e w' ⟨rfl, rfl⟩
    exact ⟨_, _, _, rfl, Sl.nil _ _ _ _, Kept.refl _ _⟩

theorem refSeal_any (id : Int) (zs : List Int) (w : World) (hlo : -9223372036854775808 ≤ id) (hhi : id < 9223372036854775808) (hz : Bytes zs) (hl : zs.length ≤ maxLen) :
    Calls Try.prog 10 #[.int .i64 id, .string (strOfNums zs)] w fun e w' => e = .returned (.tuple #[.string (strOfNums (sealB id zs)), .int .i64 (sealC id zs.length)]) ∧ Grow w w' := by
  by_cases hg : 0 ≤ id ∧ id < 48 ∧ zs.length = 16
  · obtain ⟨h1, h2⟩ := sealB_good hg
    rw [h1, h2]
    exact (refSeal_good id zs w hg.1 hg.2.1 hz hg.2.2).mono fun e w' ⟨h3, h4⟩ => ⟨h3, Kept.of_below h4⟩
  · obtain ⟨h1, h2⟩ := sealB_bad hg
    rw [h1, h2]
    exact (refSeal_bad id zs w hlo hhi hl hg).mono fun e w' ⟨h3, h4⟩ => ⟨h3, h4 ▸ Kept.refl _ _⟩

theorem refOpen_any (id : Int) (zs : List Int) (w : World) (hlo : -9223372036854775808 ≤ id) (hhi : id < 9223372036854775808) (hz : Bytes zs) (hl : zs.length ≤ maxLen) :
    Calls Try.prog 12 #[.int .i64 id, .string (strOfNums zs)] w fun e w' => e = .returned (.tuple #[.string (strOfNums (openB id zs)), .int .i64 (openC id zs)]) ∧ Grow w w' := by
  by_cases hg : 0 ≤ id ∧ id < 48 ∧ zs.length = 24
  · exact (refOpen_good id zs w hg.1 hg.2.1 hz hg.2.2).mono fun e w' ⟨h3, h4⟩ => ⟨h3, Kept.of_below h4⟩
  · have hc := openC_bad (id := id) (zs := zs) hg
    have hb : openB id zs = [] := by unfold openB; rw [hc, if_neg (by omega)]
    rw [hc, hb]
    exact (refOpen_bad id zs w hlo hhi hl hg).mono fun e w' ⟨h3, h4⟩ => ⟨h3, h4 ▸ Kept.refl _ _⟩
end Go.Proofs.Ytmdafgonnkppoaa.PageR
