/- Arrays of slots compared as values; a copy into a room; a load of its slots. -/
import Derived.Test.YtcbfceefhoeooaaRoomA
import Derived.Laws.StructEq
import Derived.Laws.CopyRow
namespace Go.Proofs.Ytcbfceefhoeooaa
open Go.RowKit

theorem Try.infoRoom : (Try.prog.info? 54).map (fun i => (i.zero, i.size)) = some (some (.agg (roomC 0 (List.replicate 24 zS) none).toArray), 122) := by kernel_rfl
theorem fieldsSlot : Try.prog.underlying 40 = some (.struct (Try.prog.fieldsOf 40)) := by kernel_rfl
theorem heldSlot : Try.prog.stoodInHeld 40 = false := by kernel_rfl
theorem listSlot : (Try.prog.fieldsOf 40).toList.map (fun f => (f.name, f.type, f.offset)) = [("Gen", 3, 0), ("Used", 4, 1), ("Key", 9, 2), ("Val", 9, 3), ("Next", 3, 4)] := by kernel_rfl
theorem guardArr : Try.prog.eqGuardType Try.prog.depth 51 = false := by kernel_rfl

theorem part_one (w : World) (t : TypeId) (d : TypeDesc) (hd : Try.prog.underlying t = some d) (hn : (match d with | .struct _ | .array _ _ => true | _ => false) = false) (xs : Array Value) (i : Nat) (v : Value) (h : xs[i]? = some v) : (part t xs i).run Try.prog w = .ok v w := by
  unfold part isAgg
  cases d <;> simp_all [run_underlying hd]

/-- Fields compared one by one, by what is asked of them. -/
def eqS (d : Nat) (xs ys : Array Value) : List (String × TypeId × Nat) → Sem Bool
  | [] => pure true
  | f :: fs =>
    if f.1 ≠ "_" then do
      let a ← part f.2.1 xs f.2.2
      let b ← part f.2.1 ys f.2.2
      let r ← Op.equalIn d f.2.1 a b
      if (!r) = true then pure false else eqS d xs ys fs
    else eqS d xs ys fs
theorem eqS_of (d : Nat) (xs ys : Array Value) : ∀ fs : List Field, Op.eqFields d xs ys fs = eqS d xs ys (fs.map (fun f => (f.name, f.type, f.offset)))
  | [] => rfl
  | f :: fs => by rw [List.map_cons, Op.eqFields, eqS, eqS_of d xs ys fs]

theorem eqSlotV (d : Nat) (a b : Sl) (w : World) : (Op.equalIn (d + 2) 40 (slV a) (slV b)).run Try.prog w = .ok (eqSl a b) w := by
  unfold slV
  rw [run_equalIn_struct w (d + 1) 40 _ _ fieldsSlot heldSlot, eqS_of, listSlot]
  have pi := fun (xs : Array Value) i v h => part_one w 3 _ Try.underlying3 rfl xs i v h
  have pb := fun (xs : Array Value) i v h => part_one w 4 _ Try.underlying4 rfl xs i v h
  have ps := fun (xs : Array Value) i v h => part_one w 9 _ Try.underlying9 rfl xs i v h
  have ei := fun x y => run_equalIn_int w d 3 .i64 .i64 x y Try.underlying3
  have eb := fun x y => run_equalIn_bool' w d 4 x y Try.underlying4
  have es := fun x y => run_equalIn_string w d 9 x y Try.underlying9
  have ne : ∀ s, s ∈ ["Gen", "Used", "Key", "Val", "Next"] → s ≠ "_" := by decide
  simp only [eqS, ne "Gen" (by simp), ne "Used" (by simp), ne "Key" (by simp), ne "Val" (by simp), ne "Next" (by simp), ne_eq, not_false_eq_true, if_true, Sem.run_bind]
  rw [pi _ 0 (.int .i64 a.gen) rfl, Result.andThen_ok, pi _ 0 (.int .i64 b.gen) rfl, Result.andThen_ok, ei, Result.andThen_ok]
  unfold eqSl
  cases (a.gen == b.gen)
  · rfl
  · rw [if_neg (by simp), Sem.run_bind, pb _ 1 (.bool a.used) rfl, Result.andThen_ok, Sem.run_bind, pb _ 1 (.bool b.used) rfl, Result.andThen_ok, Sem.run_bind, eb, Result.andThen_ok]
    cases (a.used == b.used)
    · rfl
    · rw [if_neg (by simp), Sem.run_bind, ps _ 2 (.string a.key) rfl, Result.andThen_ok, Sem.run_bind, ps _ 2 (.string b.key) rfl, Result.andThen_ok, Sem.run_bind, es, Result.andThen_ok]
      cases (a.key.toList == b.key.toList)
      · rfl
      · rw [if_neg (by simp), Sem.run_bind, ps _ 3 (.string a.val) rfl, Result.andThen_ok, Sem.run_bind, ps _ 3 (.string b.val) rfl, Result.andThen_ok, Sem.run_bind, es, Result.andThen_ok]
        cases (a.val.toList == b.val.toList)
        · rfl
        · rw [if_neg (by simp), Sem.run_bind, pi _ 4 (.int .i64 a.next) rfl, Result.andThen_ok, Sem.run_bind, pi _ 4 (.int .i64 b.next) rfl, Result.andThen_ok, Sem.run_bind, ei, Result.andThen_ok]
          cases (a.next == b.next) <;> rfl

theorem part_slot (w : World) (L : List Sl) (i : Nat) (h : i < L.length) : (part 40 (sls L).toArray (i * 5)).run Try.prog w = .ok (slV L[i]) w := by
  have hz : (sizeOf 40).run Try.prog w = .ok 5 w := by
    obtain ⟨i0, hi, _, h5, _⟩ := info_parts Try.infoSlot
    simp [sizeOf, typeInfo, hi, h5]
  have ha : (isAgg 40).run Try.prog w = .ok true w := by
    unfold isAgg
    rw [Sem.run_bind, run_underlying fieldsSlot w]
    rfl
  have he : (sls L).toArray.extract (i * 5) (i * 5 + 5) = #[.int .i64 L[i].gen, .bool L[i].used, .string L[i].key, .string L[i].val, .int .i64 L[i].next] := by
    apply Array.ext_getElem?
    intro j
    rw [Array.getElem?_extract]
    have hl : (sls L).toArray.size = L.length * 5 := by simp [sls_length]
    by_cases hj : j < 5
    · rw [if_pos (by rw [hl]; omega), List.getElem?_toArray, sls_at L i j h hj]
      match j, hj with
      | 0, _ => rfl
      | 1, _ => rfl
      | 2, _ => rfl
      | 3, _ => rfl
      | 4, _ => rfl
    · rw [if_neg (by rw [hl]; omega), Array.getElem?_eq_none (by simp; omega)]
  unfold part slV
  simp only [Sem.run_bind, ha, Result.andThen_ok, if_true, hz, he, Sem.run_pure]

/-- Slots compared one by one. -/
def eqLs (A B : List Sl) (n : Nat) : Bool := (List.range n).all fun i => match A[i]?, B[i]? with | some a, some b => eqSl a b | _, _ => false
theorem eqLs_iff : ∀ (A B : List Sl), A.length = B.length → (eqLs A B A.length = true ↔ A = B)
  | [], [], _ => by simp [eqLs]
  | a :: A, b :: B, h => by
    have ih := eqLs_iff A B (by simpa using h)
    unfold eqLs at ih ⊢
    rw [List.length_cons, List.range_succ_eq_map, List.all_cons, List.all_map, Bool.and_eq_true]
    simp only [List.getElem?_cons_zero, Function.comp_def, List.getElem?_cons_succ]
    rw [ih, eqSl_iff, List.cons.injEq]
  | [], _ :: _, h => by simp at h
  | _ :: _, [], h => by simp at h

theorem eqArrV (d : Nat) (A B : List Sl) (hA : A.length = 24) (hB : B.length = 24) (w : World) : (Op.equalIn (d + 3) 51 (.agg (sls A).toArray) (.agg (sls B).toArray)).run Try.prog w = .ok (eqLs A B 24) w := by
  have ht : Try.prog.underlying 51 = some (.array 24 40) := Try.underlying51
  have hz : ∀ w, (sizeOf 40).run Try.prog w = .ok 5 w := by
    obtain ⟨i0, hi, _, h5, _⟩ := info_parts Try.infoSlot
    intro w
    simp [sizeOf, typeInfo, hi, h5]
  rw [eqLs, List.range_eq_range', Op.equalIn]
  simp only [Sem.run_bind, run_underlying ht, Result.andThen_ok, hz, Std.Legacy.Range.forIn_eq_forIn_range', Std.Legacy.Range.size, Nat.sub_zero, Nat.add_sub_cancel, Nat.div_one]
  have hl : ∀ i ∈ List.range' 0 24 1, i < 24 := fun i hi => by simpa using (List.mem_range'_1.1 hi).2
  generalize List.range' 0 24 1 = l at hl ⊢
  induction l with
  | nil => simp
  | cons i l ih =>
    have hi : i < 24 := hl i (by simp)
    have px := part_slot w A i (by omega)
    have py := part_slot w B i (by omega)
    have pe := eqSlotV d (A[i]'(by omega)) (B[i]'(by omega)) w
    simp only [List.forIn_cons, Sem.run_bind, px, py, pe, Result.andThen_ok, List.all_cons, List.getElem?_eq_getElem (show i < A.length by omega), List.getElem?_eq_getElem (show i < B.length by omega)]
    cases hb : eqSl (A[i]'(by omega)) (B[i]'(by omega))
    · simp
    · simp only [Bool.not_true, Bool.false_eq_true, if_false, Sem.run_pure, Result.andThen_ok, Bool.true_and]
      exact ih fun j hj => hl j (by simp [hj])
end Go.Proofs.Ytcbfceefhoeooaa
