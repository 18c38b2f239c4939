/- Items compared as values, whatever they are. -/
import Derived.Test.YtcahaimefgkmiaaImQ
import Derived.Test.YtcahaimefgkmiaaTG
namespace Go.Proofs.Ytcahaimefgkmiaa
open Go.RowKit
set_option linter.unusedVariables false

theorem tx_ne {a b : ByteArray} (h : ¬ a = b) : (a.toList == b.toList) = false := by
  rw [beq_eq_false_iff_ne]
  exact fun e => h (tx_inj e)
theorem eqIm_dec (d : Nat) (x y : Im) (w : World) : (Op.equalIn (d + 2) 65 (.agg #[.string x.k, .string x.v, .int .i64 x.n]) (.agg #[.string y.k, .string y.v, .int .i64 y.n])).run Try.prog w = .ok (decide (x = y)) w := by
  have pi := fun (xs : Array Value) i v h => part_oneI w 3 _ Try.underlying3 rfl xs i v h
  have ps := fun (xs : Array Value) i v h => part_oneI w 9 _ Try.underlying9 rfl xs i v h
  have ei := fun x y => run_equalIn_int w d 3 .i64 .i64 x y Try.underlying3
  have es := fun x y => run_equalIn_string w d 9 x y Try.underlying9
  have ne : ∀ s, s ∈ ["Key", "Val", "Ver"] → s ≠ "_" := by decide
  rw [run_equalIn_struct w (d + 1) 65 _ _ fieldsIm heldIm, eqSI_of, listIm]
  simp only [eqSI, ne "Key" (by simp), ne "Val" (by simp), ne "Ver" (by simp), ne_eq, not_false_eq_true, if_true, Sem.run_bind]
  rw [ps _ 0 (.string x.k) rfl, Result.andThen_ok, ps _ 0 (.string y.k) rfl, Result.andThen_ok, es, Result.andThen_ok]
  by_cases h0 : x.k = y.k
  · rw [show (x.k.toList == y.k.toList) = true by rw [h0]; simp, if_neg (by simp), Sem.run_bind, ps _ 1 (.string x.v) rfl, Result.andThen_ok, Sem.run_bind, ps _ 1 (.string y.v) rfl, Result.andThen_ok, Sem.run_bind, es, Result.andThen_ok]
    by_cases h1 : x.v = y.v
    · rw [show (x.v.toList == y.v.toList) = true by rw [h1]; simp, if_neg (by simp), Sem.run_bind, pi _ 2 (.int .i64 x.n) rfl, Result.andThen_ok, Sem.run_bind, pi _ 2 (.int .i64 y.n) rfl, Result.andThen_ok, Sem.run_bind, ei, Result.andThen_ok]
      by_cases h2 : x.n = y.n
      · rw [show (x.n == y.n) = true by simp [h2], if_neg (by simp), decide_eq_true (show x = y by cases x; cases y; simp_all)]
        rfl
      · rw [show (x.n == y.n) = false by simp [h2], if_pos (by simp), decide_eq_false (fun e : x = y => h2 (by rw [e]))]
        rfl
    · rw [tx_ne h1, if_pos (by simp), decide_eq_false (fun e : x = y => h1 (by rw [e]))]
      rfl
  · rw [tx_ne h0, if_pos (by simp), decide_eq_false (fun e : x = y => h0 (by rw [e]))]
    rfl
end Go.Proofs.Ytcahaimefgkmiaa
