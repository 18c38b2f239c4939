/- Items compared as values; rows of items compared by the statements. -/
import Derived.Test.YtbkhhkknhbddeaaImM
import Derived.Laws.StructEq
namespace Go.Proofs.Ytbkhhkknhbddeaa
open Go.RowKit
set_option linter.unusedVariables false

theorem okIm_z {x : Im} (h : okIm x) : x.k.size ≤ 1048576 ∧ x.v.size ≤ 1048576 := by have h1 := h.1.2; have h2 := h.2.1; omega
theorem okIms_z {l : List Im} (h : okIms l) : ∀ x ∈ l, x.k.size ≤ 1048576 ∧ x.v.size ≤ 1048576 := fun x hx => okIm_z (h.1 x hx)
theorem fieldsIm : Try.prog.underlying 26 = some (.struct (Try.prog.fieldsOf 26)) := by kernel_rfl
theorem heldIm : Try.prog.stoodInHeld 26 = false := by kernel_rfl
theorem listIm : (Try.prog.fieldsOf 26).toList.map (fun f => (f.name, f.type, f.offset)) = [("Key", 9, 0), ("Val", 9, 1), ("Ver", 3, 2)] := by kernel_rfl
theorem guardIm : Try.prog.eqGuardType Try.prog.depth 26 = false := by kernel_rfl
theorem part_oneI (w : World) (t : TypeId) (d : TypeDesc) (hd : Try.prog.underlying t = some d) (hn : (match d with | .struct _ | .array _ _ => true | _ => false) = false) (xs : Array Value) (i : Nat) (v : Value) (h : xs[i]? = some v) : (part t xs i).run Try.prog w = .ok v w := by
  unfold part isAgg
  cases d <;> simp_all [run_underlying hd]
def eqSI (d : Nat) (xs ys : Array Value) : List (String × TypeId × Nat) → Sem Bool
  | [] => pure true
  | f :: fs =>
    if f.1 ≠ "_" then do
      let a ← part f.2.1 xs f.2.2
      let b ← part f.2.1 ys f.2.2
      let r ← Op.equalIn d f.2.1 a b
      if (!r) = true then pure false else eqSI d xs ys fs
    else eqSI d xs ys fs
theorem eqSI_of (d : Nat) (xs ys : Array Value) : ∀ fs : List Field, Op.eqFields d xs ys fs = eqSI d xs ys (fs.map (fun f => (f.name, f.type, f.offset)))
  | [] => rfl
  | f :: fs => by rw [List.map_cons, Op.eqFields, eqSI, eqSI_of d xs ys fs]
theorem eqImV (d : Nat) (k v : ByteArray) (n : Int) (w : World) : (Op.equalIn (d + 2) 26 (.agg #[.string k, .string v, .int .i64 n]) (.agg #[.string k, .string v, .int .i64 n])).run Try.prog w = .ok true w := by
  rw [run_equalIn_struct w (d + 1) 26 _ _ fieldsIm heldIm, eqSI_of, listIm]
  have pi := fun (xs : Array Value) i v h => part_oneI w 3 _ Try.underlying3 rfl xs i v h
  have ps := fun (xs : Array Value) i v h => part_oneI w 9 _ Try.underlying9 rfl xs i v h
  have ei := fun x y => run_equalIn_int w d 3 .i64 .i64 x y Try.underlying3
  have es := fun x y => run_equalIn_string w d 9 x y Try.underlying9
  have ne : ∀ s, s ∈ ["Key", "Val", "Ver"] → s ≠ "_" := by decide
  simp only [eqSI, ne "Key" (by simp), ne "Val" (by simp), ne "Ver" (by simp), ne_eq, not_false_eq_true, if_true, Sem.run_bind]
  rw [ps _ 0 (.string k) rfl, Result.andThen_ok, ps _ 0 (.string k) rfl, Result.andThen_ok, es, Result.andThen_ok]
  rw [show (k.toList == k.toList) = true by simp, if_neg (by simp), Sem.run_bind, ps _ 1 (.string v) rfl, Result.andThen_ok, Sem.run_bind, ps _ 1 (.string v) rfl, Result.andThen_ok, Sem.run_bind, es, Result.andThen_ok]
  rw [show (v.toList == v.toList) = true by simp, if_neg (by simp), Sem.run_bind, pi _ 2 (.int .i64 n) rfl, Result.andThen_ok, Sem.run_bind, pi _ 2 (.int .i64 n) rfl, Result.andThen_ok, Sem.run_bind, ei, Result.andThen_ok]
  rw [show (n == n) = true by simp, if_neg (by simp)]
  rfl
set_option maxRecDepth 100000 in
set_option maxHeartbeats 1000000 in
theorem sameIm_same (a b : Option Addr) (l : List Im) (ca cb : Nat) (w : World) (hl : l.length ≤ 1048576) (ha : RdG imC 3 w a l) (hb : RdG imC 3 w b l) :
    Calls Try.prog 14 #[.slice a l.length ca, .slice b l.length cb] w fun e w' => e = .returned (.bool true) ∧ Below w.heap.size w w' := by
  have HA := hide1 ha
  have HB := hide1 hb
  clear ha hb
  have q0 : ((l.length : Int) != (l.length : Int)) = false := by simp
  go_enter Try.func14, Try.ntmps14
  go_wp2
  go_loopw [5] (fun iv wr => ∃ i : Nat, i ≤ l.length ∧ iv = .int .i64 (i : Int) ∧ Below w.heap.size w wr) (fun iv _ => l.length - (intOf iv).toNat)
  case atStart => exact ⟨0, by omega, rfl, Below.refl _ _⟩
  case round =>
    obtain ⟨i, hi, rfl, hbel⟩ := hrel
    by_cases hlt : i < l.length
    · have k1 : (i : Int) < (l.length : Int) := by omega
      obtain ⟨b1, o1, rfl, hg1, h1⟩ := HA.out i hlt
      obtain ⟨b2, o2, rfl, hg2, h2⟩ := HB.out i hlt
      have x0 : wr.cell? ⟨b1, o1 + i * 3, none⟩ = some (.string l[i].k) := (hbel.cell (p := ⟨b1, o1 + i * 3, none⟩) hg1).trans (h1 0 (by omega))
      have x1 : wr.cell? ⟨b1, o1 + i * 3 + 1, none⟩ = some (.string l[i].v) := (hbel.cell (p := ⟨b1, o1 + i * 3 + 1, none⟩) hg1).trans (h1 1 (by omega))
      have x2 : wr.cell? ⟨b1, o1 + i * 3 + 2, none⟩ = some (.int .i64 l[i].n) := (hbel.cell (p := ⟨b1, o1 + i * 3 + 2, none⟩) hg1).trans (h1 2 (by omega))
      have y0 : wr.cell? ⟨b2, o2 + i * 3, none⟩ = some (.string l[i].k) := (hbel.cell (p := ⟨b2, o2 + i * 3, none⟩) hg2).trans (h2 0 (by omega))
      have y1 : wr.cell? ⟨b2, o2 + i * 3 + 1, none⟩ = some (.string l[i].v) := (hbel.cell (p := ⟨b2, o2 + i * 3 + 1, none⟩) hg2).trans (h2 1 (by omega))
      have y2 : wr.cell? ⟨b2, o2 + i * 3 + 2, none⟩ = some (.int .i64 l[i].n) := (hbel.cell (p := ⟨b2, o2 + i * 3 + 2, none⟩) hg2).trans (h2 2 (by omega))
      clear h1 h2
      generalize l[i] = s at *
      have hqv : ∀ w, (Op.equalIn 10000 26 (.agg #[.string s.k, .string s.v, .int .i64 s.n]) (.agg #[.string s.k, .string s.v, .int .i64 s.n])).run Try.prog w = .ok true w := fun w => eqImV 9998 s.k s.v s.n w
      have hgd := guardIm
      go_wp2_with fail
      go_quiet (fail)
      go_wp2
      go_roundw
      case rel => exact ⟨i + 1, by omega, by go_num, below_drewN hbel _⟩
      case measure => simp [intOf]; omega
    · go_wp2
      go_ret
      exact ⟨rfl, hbel⟩
end Go.Proofs.Ytbkhhkknhbddeaa
