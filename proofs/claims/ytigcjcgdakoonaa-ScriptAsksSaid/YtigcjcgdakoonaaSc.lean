/-
  Package script: whether a pool may be (the program's and the document's); what a truth that is told looks like.
-/
import Derived.Test.YtigcjcgdakoonaaRows
import Derived.Test.YtigcjcgdakoonaaScMath
import Derived.Test.YtigcjcgdakoonaaOrow
import Derived.Deep.CutBlock
import Derived.Deep.QuietTactic
import Derived.BigQuiet
import Derived.Deep.LoopGhost
namespace Go.Proofs.Ytigcjcgdakoonaa.ScC
open Go.ChangeShapes Go.WideShapes Go.ChangeAt Go.RowKit
open Go.Proofs.Ytigcjcgdakoonaa.Mem Go.Proofs.Ytigcjcgdakoonaa.Blk Go.Proofs.Ytigcjcgdakoonaa.Cells Go.Proofs.Ytigcjcgdakoonaa.MdM Go.Proofs.Ytigcjcgdakoonaa.ScM Go.Proofs.Ytigcjcgdakoonaa.Stages

/-- A truth is told, and nothing that was there has turned. -/
def Tells (p : Prop) (w : World) (e : Ending) (w' : World) : Prop := (∃ b, e = .returned (.bool b) ∧ (b = true ↔ p)) ∧ Grow w w'
theorem Tells.no {p : Prop} {w w' : World} (h : ¬ p) (hg : Grow w w') : Tells p w (.returned (.bool false)) w' := ⟨⟨false, rfl, fun x => Bool.noConfusion x, fun x => absurd x h⟩, hg⟩
theorem Tells.yes {p : Prop} {w w' : World} (h : p) (hg : Grow w w') : Tells p w (.returned (.bool true)) w' := ⟨⟨true, rfl, fun _ => h, fun _ => rfl⟩, hg⟩
theorem Tells.is {p q : Prop} [Decidable q] {w w' : World} (h : q ↔ p) (hg : Grow w w') : Tells p w (.returned (.bool (decide q))) w' := ⟨⟨_, rfl, decide_eq_true_iff.trans h⟩, hg⟩
/-- A pool as a value. -/
abbrev cfv (c : Cf) : Value := .agg #[.int .i64 c.p, .int .i64 c.f, .int .i64 c.s, .int .i64 c.c]
abbrev cfl (c : Cf) : List Value := [.int .i64 c.p, .int .i64 c.f, .int .i64 c.s, .int .i64 c.c]
section
variable {w w' : World} {c : Cf}
set_option maxHeartbeats 2000000 in
theorem may_any (c : Cf) (w : World) : Calls Try.prog 15 #[cfv c] w (Tells c.may w) := by
  have hb := Blk.new w 24 (cfl c)
  have s0 := hb.cell 0
  have s1 := hb.cell 1
  have s2 := hb.cell 2
  have s3 := hb.cell 3
  simp only [List.getElem?_cons_zero, List.getElem?_cons_succ] at s0 s1 s2 s3
  have HG : Hid (Grow w (w.alloc (.cells #[.int .i64 c.p, .int .i64 c.f, .int .i64 c.s, .int .i64 c.c] 24))) := (Kept.refl _ _).alloc _
  clear hb
  obtain ⟨p, f, s, k⟩ := c
  unfold cfv
  dsimp only at s0 s1 s2 s3 HG ⊢
  go_enter Try.func15, Try.ntmps15
  go_upto_region 1 with (fail)
  generalize w.alloc (.cells #[.int .i64 p, .int .i64 f, .int .i64 s, .int .i64 k] 24) = w0 at *
  generalize w.heap.size = g at *
  go_wp2
  all_goals (go_ret; clear s0 s1 s2 s3; (first | refine Tells.yes ?_ HG.out | refine Tells.no ?_ HG.out | refine Tells.is ?_ HG.out); unfold Cf.may; dsimp only; omega)
set_option maxHeartbeats 2000000 in
theorem rmay_any (c : Cf) (w : World) : Calls Try.prog 14 #[cfv c] w (Tells c.may w) := by
  have hb := Blk.new w 24 (cfl c)
  have s0 := hb.cell 0
  have s1 := hb.cell 1
  have s2 := hb.cell 2
  have s3 := hb.cell 3
  simp only [List.getElem?_cons_zero, List.getElem?_cons_succ] at s0 s1 s2 s3
  have HG : Hid (Grow w (w.alloc (.cells #[.int .i64 c.p, .int .i64 c.f, .int .i64 c.s, .int .i64 c.c] 24))) := (Kept.refl _ _).alloc _
  clear hb
  obtain ⟨p, f, s, k⟩ := c
  unfold cfv
  dsimp only at s0 s1 s2 s3 HG ⊢
  go_enter Try.func14, Try.ntmps14
  go_upto_region 1 with (fail)
  generalize w.alloc (.cells #[.int .i64 p, .int .i64 f, .int .i64 s, .int .i64 k] 24) = w0 at *
  generalize w.heap.size = g at *
  go_wp2
  all_goals (go_ret; clear s0 s1 s2 s3; (first | refine Tells.yes ?_ HG.out | refine Tells.no ?_ HG.out | refine Tells.is ?_ HG.out); unfold Cf.may; dsimp only; omega)
end
#print axioms may_any
end Go.Proofs.Ytigcjcgdakoonaa.ScC
