/- Items compared as values; rows of items compared by the statements. -/
import Derived.Test.YtcahaimefgkmiaaTE
import Derived.Laws.StructEq
namespace Go.Proofs.Ytcahaimefgkmiaa
open Go.RowKit
set_option linter.unusedVariables false

theorem okIm_z {x : Im} (h : okIm x) : x.k.size ≤ 1048576 ∧ x.v.size ≤ 1048576 := by have h1 := h.1.2; have h2 := h.2.1; omega
theorem okIms_z {l : List Im} (h : okIms l) : ∀ x ∈ l, x.k.size ≤ 1048576 ∧ x.v.size ≤ 1048576 := fun x hx => okIm_z (h.1 x hx)
theorem fieldsIm : Try.prog.underlying 65 = some (.struct (Try.prog.fieldsOf 65)) := by kernel_rfl
theorem heldIm : Try.prog.stoodInHeld 65 = false := by kernel_rfl
theorem listIm : (Try.prog.fieldsOf 65).toList.map (fun f => (f.name, f.type, f.offset)) = [("Key", 9, 0), ("Val", 9, 1), ("Ver", 3, 2)] := by kernel_rfl
theorem guardIm : Try.prog.eqGuardType Try.prog.depth 65 = false := by kernel_rfl
theorem part_oneI (w : World) (t : TypeId) (d : TypeDesc) (hd : Try.prog.underlying t = some d) (hn : (match d with | .struct _ | .array _ _ => true | _ => false) = false) (xs : Array Value) (i : Nat) (v : Value) (h : xs[i]? = some v) : (part t xs i).run Try.prog w = .ok v w := by
  unfold part isAgg
  cases d <;> simp_all [run_underlying hd]
def eqSI (d : Nat) (xs ys : Array Value) : List (String × TypeId × Nat) → Sem Bool
  | [] => pure true
  | f :: fs =>
    if f.1 ≠ "_" then do
      let a ← part f.2.1 xs f.2.2
      let b ← part f.2.1 ys f.2.2
      let r ← Op.equalIn d f.2.1 a b
      if (!r) = true then pure false else eqSI d xs ys fs
    else eqSI d xs ys fs
theorem eqSI_of (d : Nat) (xs ys : Array Value) : ∀ fs : List Field, Op.eqFields d xs ys fs = eqSI d xs ys (fs.map (fun f => (f.name, f.type, f.offset)))
  | [] => rfl
  | f :: fs => by rw [List.map_cons, Op.eqFields, eqSI, eqSI_of d xs ys fs]
theorem eqImV (d : Nat) (k v : ByteArray) (n : Int) (w : World) : (Op.equalIn (d + 2) 65 (.agg #[.string k, .string v, .int .i64 n]) (.agg #[.string k, .string v, .int .i64 n])).run Try.prog w = .ok true w := by
  rw [run_equalIn_struct w (d + 1) 65 _ _ fieldsIm heldIm, eqSI_of, listIm]
  have pi := fun (xs : Array Value) i v h => part_oneI w 3 _ Try.underlying3 rfl xs i v h
  have ps := fun (xs : Array Value) i v h => part_oneI w 9 _ Try.underlying9 rfl xs i v h
  have ei := fun x y => run_equalIn_int w d 3 .i64 .i64 x y Try.underlying3
  have es := fun x y => run_equalIn_string w d 9 x y Try.underlying9
  have ne : ∀ s, s ∈ ["Key", "Val", "Ver"] → s ≠ "_" := by decide
  simp only [eqSI, ne "Key" (by simp), ne "Val" (by simp), ne "Ver" (by simp), ne_eq, not_false_eq_true, if_true, Sem.run_bind]
  rw [ps _ 0 (.string k) rfl, Result.andThen_ok, ps _ 0 (.string k) rfl, Result.andThen_ok, es, Result.andThen_ok]
  rw [show (k.toList == k.toList) = true by simp, if_neg (by simp), Sem.run_bind, ps _ 1 (.string v) rfl, Result.andThen_ok, Sem.run_bind, ps _ 1 (.string v) rfl, Result.andThen_ok, Sem.run_bind, es, Result.andThen_ok]
  rw [show (v.toList == v.toList) = true by simp, if_neg (by simp), Sem.run_bind, pi _ 2 (.int .i64 n) rfl, Result.andThen_ok, Sem.run_bind, pi _ 2 (.int .i64 n) rfl, Result.andThen_ok, Sem.run_bind, ei, Result.andThen_ok]
  rw [show (n == n) = true by simp, if_neg (by simp)]
  rfl
end Go.Proofs.Ytcahaimefgkmiaa
