/- Rows of seven numbers, compared. -/
import Derived.Test.YtlcaelfkgillmaaNi
import Derived.ChangeKeysEq
import Derived.Laws.StructEq
namespace Go.Proofs.Ytlcaelfkgillmaa
open Go.ChangeShapes Go.WideShapes Go.ChangeAt Go.RowKit
namespace En
open Ba Re

theorem cells_i : Try.prog.cellsOf 3 = 1 := by kernel_rfl
theorem part_i (cs : Array Value) (i : Nat) (x : Int) (h : cs[i]? = some (.int .i64 x)) (w : World) : (part 3 cs (i * 1)).run Try.prog w = .ok (.int .i64 x) w := by
  simp [part, isAgg, run_underlying Try.underlying3, h]
theorem part7_0 (x0 x1 x2 x3 x4 x5 x6 : Int) (w : World) : (part 3 #[.int .i64 x0, .int .i64 x1, .int .i64 x2, .int .i64 x3, .int .i64 x4, .int .i64 x5, .int .i64 x6] (0 * 1)).run Try.prog w = .ok (.int .i64 x0) w := part_i _ 0 x0 rfl w
theorem part7_1 (x0 x1 x2 x3 x4 x5 x6 : Int) (w : World) : (part 3 #[.int .i64 x0, .int .i64 x1, .int .i64 x2, .int .i64 x3, .int .i64 x4, .int .i64 x5, .int .i64 x6] (1 * 1)).run Try.prog w = .ok (.int .i64 x1) w := part_i _ 1 x1 rfl w
theorem part7_2 (x0 x1 x2 x3 x4 x5 x6 : Int) (w : World) : (part 3 #[.int .i64 x0, .int .i64 x1, .int .i64 x2, .int .i64 x3, .int .i64 x4, .int .i64 x5, .int .i64 x6] (2 * 1)).run Try.prog w = .ok (.int .i64 x2) w := part_i _ 2 x2 rfl w
theorem part7_3 (x0 x1 x2 x3 x4 x5 x6 : Int) (w : World) : (part 3 #[.int .i64 x0, .int .i64 x1, .int .i64 x2, .int .i64 x3, .int .i64 x4, .int .i64 x5, .int .i64 x6] (3 * 1)).run Try.prog w = .ok (.int .i64 x3) w := part_i _ 3 x3 rfl w
theorem part7_4 (x0 x1 x2 x3 x4 x5 x6 : Int) (w : World) : (part 3 #[.int .i64 x0, .int .i64 x1, .int .i64 x2, .int .i64 x3, .int .i64 x4, .int .i64 x5, .int .i64 x6] (4 * 1)).run Try.prog w = .ok (.int .i64 x4) w := part_i _ 4 x4 rfl w
theorem part7_5 (x0 x1 x2 x3 x4 x5 x6 : Int) (w : World) : (part 3 #[.int .i64 x0, .int .i64 x1, .int .i64 x2, .int .i64 x3, .int .i64 x4, .int .i64 x5, .int .i64 x6] (5 * 1)).run Try.prog w = .ok (.int .i64 x5) w := part_i _ 5 x5 rfl w
theorem part7_6 (x0 x1 x2 x3 x4 x5 x6 : Int) (w : World) : (part 3 #[.int .i64 x0, .int .i64 x1, .int .i64 x2, .int .i64 x3, .int .i64 x4, .int .i64 x5, .int .i64 x6] (6 * 1)).run Try.prog w = .ok (.int .i64 x6) w := part_i _ 6 x6 rfl w
theorem eq_i (d : Nat) (a b : Int) (w : World) : (Op.equalIn (d + 1) 3 (.int .i64 a) (.int .i64 b)).run Try.prog w = .ok (a == b) w := by
  simp [Op.equalIn, run_underlying Try.underlying3]
theorem eq7 (x0 x1 x2 x3 x4 x5 x6 y6 : Int) (w : World) (b : Bool) (hb : (x6 == y6) = b) :
    (Op.equalIn 10000 57 (.agg #[.int .i64 x0, .int .i64 x1, .int .i64 x2, .int .i64 x3, .int .i64 x4, .int .i64 x5, .int .i64 x6]) (.agg #[.int .i64 x0, .int .i64 x1, .int .i64 x2, .int .i64 x3, .int .i64 x4, .int .i64 x5, .int .i64 y6])).run Try.prog w = .ok b w := by
  subst hb
  cases hi : Try.prog.info? 3 with
  | none => have q : (Try.prog.info? 3).isSome = true := by kernel_rfl
            rw [hi] at q; cases q
  | some i0 =>
  rw [run_equalIn_array w 9999 _ _ Try.underlying57 hi, cells_i, show List.range 7 = [0, 1, 2, 3, 4, 5, 6] from rfl]
  simp only [Op.eqItems, Sem.run_bind, part7_0, part7_1, part7_2, part7_3, part7_4, part7_5, part7_6, Result.andThen_ok, eq_i 9998, beq_self_eq_true, Bool.not_true, Bool.false_eq_true, if_false]
  cases x6 == y6 <;> simp
end En
end Go.Proofs.Ytlcaelfkgillmaa
