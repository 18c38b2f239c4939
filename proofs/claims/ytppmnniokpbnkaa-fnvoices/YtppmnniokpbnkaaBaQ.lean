/- Voices compared as values. -/
import Derived.Test.YtppmnniokpbnkaaBaS
import Derived.Laws.StructEq
namespace Go.Proofs.Ytppmnniokpbnkaa
open Go.RowKit

theorem fieldsVo : Try.prog.underlying 27 = some (.struct (Try.prog.fieldsOf 27)) := by kernel_rfl
theorem heldVo : Try.prog.stoodInHeld 27 = false := by kernel_rfl
theorem listVo : (Try.prog.fieldsOf 27).toList.map (fun f => (f.name, f.type, f.offset)) = [("Promised", 3, 0), ("Taken", 3, 1), ("Value", 9, 2)] := by kernel_rfl
theorem guardVo : Try.prog.eqGuardType Try.prog.depth 27 = false := by kernel_rfl
theorem part_oneB (w : World) (t : TypeId) (d : TypeDesc) (hd : Try.prog.underlying t = some d) (hn : (match d with | .struct _ | .array _ _ => true | _ => false) = false) (xs : Array Value) (i : Nat) (v : Value) (h : xs[i]? = some v) : (part t xs i).run Try.prog w = .ok v w := by
  unfold part isAgg
  cases d <;> simp_all [run_underlying hd]
/-- Fields compared one by one, by what is asked of them. -/
def eqSB (d : Nat) (xs ys : Array Value) : List (String × TypeId × Nat) → Sem Bool
  | [] => pure true
  | f :: fs =>
    if f.1 ≠ "_" then do
      let a ← part f.2.1 xs f.2.2
      let b ← part f.2.1 ys f.2.2
      let r ← Op.equalIn d f.2.1 a b
      if (!r) = true then pure false else eqSB d xs ys fs
    else eqSB d xs ys fs
theorem eqSB_of (d : Nat) (xs ys : Array Value) : ∀ fs : List Field, Op.eqFields d xs ys fs = eqSB d xs ys (fs.map (fun f => (f.name, f.type, f.offset)))
  | [] => rfl
  | f :: fs => by rw [List.map_cons, Op.eqFields, eqSB, eqSB_of d xs ys fs]
theorem eqVoV (d : Nat) (p t : Int) (v : ByteArray) (w : World) : (Op.equalIn (d + 2) 27 (.agg #[.int .i64 p, .int .i64 t, .string v]) (.agg #[.int .i64 p, .int .i64 t, .string v])).run Try.prog w = .ok true w := by
  rw [run_equalIn_struct w (d + 1) 27 _ _ fieldsVo heldVo, eqSB_of, listVo]
  have pi := fun (xs : Array Value) i v h => part_oneB w 3 _ Try.underlying3 rfl xs i v h
  have ps := fun (xs : Array Value) i v h => part_oneB w 9 _ Try.underlying9 rfl xs i v h
  have ei := fun x y => run_equalIn_int w d 3 .i64 .i64 x y Try.underlying3
  have es := fun x y => run_equalIn_string w d 9 x y Try.underlying9
  have ne : ∀ s, s ∈ ["Promised", "Taken", "Value"] → s ≠ "_" := by decide
  simp only [eqSB, ne "Promised" (by simp), ne "Taken" (by simp), ne "Value" (by simp), ne_eq, not_false_eq_true, if_true, Sem.run_bind]
  rw [pi _ 0 (.int .i64 p) rfl, Result.andThen_ok, pi _ 0 (.int .i64 p) rfl, Result.andThen_ok, ei, Result.andThen_ok]
  rw [show (p == p) = true by simp, if_neg (by simp), Sem.run_bind, pi _ 1 (.int .i64 t) rfl, Result.andThen_ok, Sem.run_bind, pi _ 1 (.int .i64 t) rfl, Result.andThen_ok, Sem.run_bind, ei, Result.andThen_ok]
  rw [show (t == t) = true by simp, if_neg (by simp), Sem.run_bind, ps _ 2 (.string v) rfl, Result.andThen_ok, Sem.run_bind, ps _ 2 (.string v) rfl, Result.andThen_ok, Sem.run_bind, es, Result.andThen_ok]
  rw [show (v.toList == v.toList) = true by simp, if_neg (by simp)]
  rfl
end Go.Proofs.Ytppmnniokpbnkaa
