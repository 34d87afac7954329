/-
  Texts and numbers: the bytes of a string as numbers and back; the two Blanks (chapter 2).
-/
import Derived.Test.YtfjcbcpfhjaeeaaPageMath
import Derived.Test.YtfjcbcpfhjaeeaaBlk
import Derived.Test.YtfjcbcpfhjaeeaaChecked
namespace Go.Proofs.Ytfjcbcpfhjaeeaa.Str
open Go.ChangeShapes Go.WideShapes Go.ChangeAt Go.RowKit
open Go.Proofs.Ytfjcbcpfhjaeeaa.SumM Go.Proofs.Ytfjcbcpfhjaeeaa.Mem Go.Proofs.Ytfjcbcpfhjaeeaa.Blk Go.Proofs.Ytfjcbcpfhjaeeaa.PageM

/-- The numbers of a string's bytes. -/
def strNums (s : ByteArray) : List Int := s.data.toList.map fun b => (b.toNat : Int)
theorem strNums_len (s : ByteArray) : (strNums s).length = s.size := by unfold strNums; rw [List.length_map, Array.length_toList]; rfl
theorem strNums_bytes (s : ByteArray) : Bytes (strNums s) := by
  intro c hc
  obtain ⟨b, _, rfl⟩ := List.mem_map.1 hc
  have := b.toNat_lt
  exact ⟨by omega, by omega⟩
theorem strNums_ofNums {zs : List Int} (h : Bytes zs) : strNums (strOfNums zs) = zs := by
  unfold strNums
  rw [strOfNums_data, List.map_map]
  conv => rhs; rw [← List.map_id zs]
  refine List.map_congr_left fun c hc => ?_
  obtain ⟨h1, h2⟩ := h c hc
  simp
  omega
theorem str_append (a b : List Int) : strOfNums a ++ strOfNums b = strOfNums (a ++ b) := by
  apply ByteArray.ext
  rw [ByteArray.data_append]
  simp [strOfNums]
theorem str_inj {a b : List Int} (ha : Bytes a) (hb : Bytes b) (h : strOfNums a = strOfNums b) : a = b := by
  have := congrArg strNums h
  rwa [strNums_ofNums ha, strNums_ofNums hb] at this
theorem str_drop (zs : List Int) (k n : Nat) (hn : zs.length = n) (hk : k ≤ n) : (strOfNums zs).extract k n = strOfNums (zs.drop k) := by
  apply ByteArray.ext
  rw [ByteArray.data_extract]
  apply Array.ext'
  simp [strOfNums, List.map_drop]
  rw [List.take_of_length_le (by simp [hn])]
theorem str_take (zs : List Int) (k : Nat) : (strOfNums zs).extract 0 k = strOfNums (zs.take k) := by
  apply ByteArray.ext
  rw [ByteArray.data_extract]
  apply Array.ext'
  simp [strOfNums, List.map_take]

theorem infoU8 : (Try.prog.info? 5).map (fun i => (i.zero, i.size, i.bytes)) = some (some (.int .u8 0), 1, 1) := by kernel_rfl
theorem sizeU8 : (Try.prog.info? 5).map (·.size) = some 1 := by kernel_rfl

/-- A slice of bytes that the call made: the block g, known whole. -/
def FreshBytes (w : World) (n : Nat) (zs : List Int) (e : Ending) (w' : World) : Prop :=
  ∃ g, e = .returned (.slice (some ⟨g, 0, none⟩) n n) ∧ w.heap.size ≤ g ∧ NBlk w' g 5 .u8 zs ∧ Grow w w'

theorem blank_any (w : World) : Calls Try.prog 28 #[] w (FreshBytes w 24 (zeros 24)) := by
  have hmk := fun w => run_make_row' (P := Try.prog) 28 5 (.int .u8 0) 1 Try.underlying28 infoU8 rfl .i64 .i64 24 (by omega) (by omega) w
  simp only [Int.cast_ofNat_Int] at hmk
  go_enter Try.func28, Try.ntmps28
  go_wp2
  go_ret
  exact ⟨w.heap.size, rfl, Nat.le_refl _, NBlk.made w _ _ 24, (Kept.refl _ _).alloc _⟩

theorem refBlank_any (w : World) : Calls Try.prog 29 #[] w fun e w' => e = .returned (.string (strOfNums (zeros 24))) ∧ Grow w w' := by
  have hmk := fun w => run_make_row' (P := Try.prog) 28 5 (.int .u8 0) 1 Try.underlying28 infoU8 rfl .i64 .i64 24 (by omega) (by omega) w
  simp only [Int.cast_ofNat_Int] at hmk
  have hb := NBlk.made w 5 .u8 24
  have hbel : Grow w (w.alloc (.cells (madeCells #[Value.int .u8 0] 24) 5)) := (Kept.refl _ _).alloc _
  have hcv := (Sl.of_blk0 (B := w.heap.size + 1) hb (n := 24) (by simp) (by omega)).str (P := Try.prog) 28 9 5 Try.underlying28 Try.underlying5 Try.underlying9 24
  have HB := Lib.hid hbel
  clear hb hbel
  go_enter Try.func29, Try.ntmps29
  go_wp2
  go_ret
  exact ⟨rfl, HB.out⟩
#print axioms refBlank_any
end Go.Proofs.Ytfjcbcpfhjaeeaa.Str
