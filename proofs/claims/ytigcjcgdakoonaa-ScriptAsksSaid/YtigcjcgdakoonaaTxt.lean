/-
  Texts as lists of numbers: pieces, and pieces put together. No program is named here.
-/
import Derived.Test.YtigcjcgdakoonaaBlk
namespace Go.Proofs.Ytigcjcgdakoonaa.Txt
open Go.RowKit
open Go.Proofs.Ytigcjcgdakoonaa.Mem Go.Proofs.Ytigcjcgdakoonaa.Blk

theorem str_size (zs : List Int) : (strOfNums zs).size = zs.length := by
  show (strOfNums zs).data.size = _
  simp [strOfNums]
theorem str_append (a b : List Int) : strOfNums a ++ strOfNums b = strOfNums (a ++ b) := by
  apply ByteArray.ext
  rw [ByteArray.data_append]
  simp [strOfNums]
theorem str_drop (zs : List Int) (k n : Nat) (hn : zs.length = n) (_hk : k ≤ n) : (strOfNums zs).extract k n = strOfNums (zs.drop k) := by
  apply ByteArray.ext
  rw [ByteArray.data_extract]
  apply Array.ext'
  simp [strOfNums, List.map_drop]
  rw [List.take_of_length_le (by simp [hn])]
theorem str_take (zs : List Int) (k : Nat) : (strOfNums zs).extract 0 k = strOfNums (zs.take k) := by
  apply ByteArray.ext
  rw [ByteArray.data_extract]
  apply Array.ext'
  simp [strOfNums, List.map_take]
end Go.Proofs.Ytigcjcgdakoonaa.Txt
