/-
  Results that lie in a cell of the callee (a latch by value): alone, beside one other, beside two.
-/
import Derived.Test.YtpdmncdbimdfaaaRows
import Derived.Test.YtpdmncdbimdfaaaBlk
import Derived.Laws.ResultCell
namespace Go.Proofs.Ytpdmncdbimdfaaa.RetC
open Go.ChangeShapes Go.WideShapes Go.ChangeAt Go.RowKit
open Go.Proofs.Ytpdmncdbimdfaaa.Mem Go.Proofs.Ytpdmncdbimdfaaa.Blk Go.Proofs.Ytpdmncdbimdfaaa.Stages

section
variable {fn : Func} {R : Ending → World → Prop} {a : Act} {w : World} {p u z g : Nat} {t : TypeId} {x y b : Value}
theorem latch_size : (Try.prog.info? 25).map (·.size) = some 3 := by kernel_rfl
theorem load_latch (hg : Blk w g t [x, y, b]) : (loadVar 25 ⟨g, 0, none⟩).run Try.prog w = .ok (.agg #[x, y, b]) w :=
  run_loadVar_row w g t 25 #[x, y, b] (0, 0) _ hg Try.underlying25 rfl latch_size
theorem ret_cell1 (h : fn.results = #[.cell p 25]) (hp : a.tmps.getD p undef = .pointer (some ⟨g, 0, none⟩)) (hg : Blk w g t [x, y, b]) (hd : a.defers = []) (hR : R (.returned (.agg #[x, y, b])) w) : bodyPost Try.prog fn R .ret a w := by
  refine bodyPost_ret ?_ hd hR
  have hp' : a.tmps[p]?.getD undef = .pointer (some ⟨g, 0, none⟩) := by simpa using hp
  simp [results, h, hp', asAddr, load_latch hg]
theorem ret_cell2 (h : fn.results = #[.cell p 25, .tmp u]) (hp : a.tmps.getD p undef = .pointer (some ⟨g, 0, none⟩)) (hg : Blk w g t [x, y, b]) (hd : a.defers = []) (hR : R (.returned (.tuple #[.agg #[x, y, b], a.tmps.getD u undef])) w) : bodyPost Try.prog fn R .ret a w := by
  refine bodyPost_ret ?_ hd hR
  have hp' : a.tmps[p]?.getD undef = .pointer (some ⟨g, 0, none⟩) := by simpa using hp
  simp [results, h, hp', asAddr, load_latch hg]
theorem ret_cell3 (h : fn.results = #[.cell p 25, .tmp u, .tmp z]) (hp : a.tmps.getD p undef = .pointer (some ⟨g, 0, none⟩)) (hg : Blk w g t [x, y, b]) (hd : a.defers = []) (hR : R (.returned (.tuple #[.agg #[x, y, b], a.tmps.getD u undef, a.tmps.getD z undef])) w) : bodyPost Try.prog fn R .ret a w := by
  refine bodyPost_ret ?_ hd hR
  have hp' : a.tmps[p]?.getD undef = .pointer (some ⟨g, 0, none⟩) := by simpa using hp
  simp [results, h, hp', asAddr, load_latch hg]
end
end Go.Proofs.Ytpdmncdbimdfaaa.RetC
