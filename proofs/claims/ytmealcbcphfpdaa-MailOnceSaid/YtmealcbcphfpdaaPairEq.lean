/-
  Equality of two pairs (arrays of two numbers), as a run equation.
-/
import Derived.Test.YtmealcbcphfpdaaPrs
import Derived.Laws.StructEq
namespace Go.Proofs.Ytmealcbcphfpdaa.PairEq
open Go.ChangeShapes Go.WideShapes Go.ChangeAt Go.RowKit Go.Conc

theorem eql_pair_in (w : World) (n : Nat) (a b c e : Int) : (Op.equalIn (n + 1 + 1) 42 (.agg #[.int .i64 a, .int .i64 b]) (.agg #[.int .i64 c, .int .i64 e])).run Try.prog w = .ok (a == c && b == e) w := by
  have hi : (Try.prog.info? 3).map (·.size) = some 1 := by kernel_rfl
  cases hii : Try.prog.info? 3 with
  | none => rw [hii] at hi; cases hi
  | some i =>
    rw [hii] at hi
    simp only [Option.map_some, Option.some.injEq] at hi
    rw [Op.equalIn]
    simp [run_underlying Try.underlying42, sizeOf, typeInfo, hii, hi, List.range', part, isAgg, run_underlying Try.underlying3]
    rw [run_equalIn_int w n 3 .i64 .i64 a c Try.underlying3]
    simp only [Result.andThen_ok]
    rw [run_equalIn_int w n 3 .i64 .i64 b e Try.underlying3]
    cases h1 : (a == c) <;> cases h2 : (b == e) <;> simp
theorem eql_pair (w : World) (a b c e : Int) : (Op.equalIn 10000 42 (.agg #[.int .i64 a, .int .i64 b]) (.agg #[.int .i64 c, .int .i64 e])).run Try.prog w = .ok (a == c && b == e) w := eql_pair_in w 9998 a b c e
end Go.Proofs.Ytmealcbcphfpdaa.PairEq
