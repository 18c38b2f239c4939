/- Whether a number is in a row: slices.Contains. -/
import Derived.Test.YtpjgplohlchpoaaGreatDoorUAE
import Derived.Test.YtpjgplohlchpoaaGreatDoorUAL
import Derived.Test.YtpjgplohlchpoaaGreatDoorUAS
import Derived.Test.YtpjgplohlchpoaaGreatDoorUAF
import Derived.Laws.StructEq
import Derived.Test.YtpjgplohlchpoaaGreatDoorUAH
namespace Go.Proofs.YtpjgplohlchpoaaGreatDoor
open Go.RowKit
set_option linter.unusedVariables false

set_option maxRecDepth 100000 in
set_option maxHeartbeats 1000000 in
theorem indexV_any (a : Option Addr) (ca : Nat) (l : List Int) (f : Int) (w : World) (hl : l.length ≤ 1048576) (hR : RdZ w a l) :
    Calls Tryz.prog 97 #[.slice a l.length ca, .int .i64 f] w fun e w' => (∃ z : Int, e = .returned (.int .i64 z) ∧ decide (0 ≤ z) = decide (f ∈ l) ∧ -1 ≤ z ∧ z ≤ 1048576) ∧ w' = w := by
  have HR := hide1 hR
  clear hR
  go_enter Tryz.func97, Tryz.ntmps97
  go_wp2
  go_loopw [8] (fun iv wr => ∃ i : Nat, i ≤ l.length ∧ iv = .int .i64 (i : Int) ∧ Hid (¬ f ∈ l.take i) ∧ wr = w) (fun iv _ => l.length - (intOf iv).toNat)
  case atStart => exact ⟨0, by omega, rfl, hide1 (by simp), rfl⟩
  case round =>
    obtain ⟨i, hi, rfl, ha, rfl⟩ := hrel
    by_cases hlt : i < l.length
    · have k1 : (i : Int) < (l.length : Int) := by omega
      have k0 : (0 : Int) ≤ (i : Int) := by omega
      obtain ⟨b, q, rfl, hb, x0⟩ := HR.out i hlt
      have HN := hide1 (show ¬ l[i] = f → ¬ f ∈ l.take (i + 1) from fun hne hm => by
        rw [List.take_succ_eq_append_getElem hlt, List.mem_append] at hm
        rcases hm with hm | hm
        · exact ha.out hm
        · exact hne (List.mem_singleton.1 hm).symm)
      have HT := hide1 (show l[i] = f → f ∈ l from fun hq => hq ▸ List.getElem_mem hlt)
      clear ha
      generalize l[i] = s at *
      by_cases cf : s = f
      · have HT2 := hide1 (decide_eq_true (HT.out cf))
        have q1 : (f == s) = true := by simp [cf]
        have q2 : (s == f) = true := by simp [cf]
        clear cf
        go_wp2
        go_ret
        exact ⟨⟨(i : Int), rfl, by rw [HT2.out]; simp, by omega, by omega⟩, rfl⟩
      · have HN2 := hide1 (HN.out cf)
        have q1 : (f == s) = false := by rw [beq_eq_false_iff_ne]; exact fun e => cf e.symm
        have q2 : (s == f) = false := by rw [beq_eq_false_iff_ne]; exact cf
        clear cf
        go_wp2
        go_roundw
        case rel => exact ⟨i + 1, by omega, by go_num, HN2, trivial⟩
        case measure => simp [intOf]; omega
    · obtain rfl : i = l.length := by omega
      have k1 : ¬ ((l.length : Int) < (l.length : Int)) := by omega
      have hz := ha.out
      rw [List.take_length] at hz
      have HZ := hide1 hz
      clear hz ha
      go_wp2
      go_ret
      exact ⟨⟨-1, rfl, by first | exact ⟨fun h => by omega, fun h => absurd h HZ.out⟩ | (rw [decide_eq_false HZ.out]; rfl), by omega, by omega⟩, rfl⟩
set_option maxRecDepth 100000 in
theorem containsV_any (a : Option Addr) (ca : Nat) (l : List Int) (f : Int) (w : World) (hl : l.length ≤ 1048576) (hR : RdZ w a l) :
    Calls Tryz.prog 75 #[.slice a l.length ca, .int .i64 f] w fun e w' => e = .returned (.bool (decide (f ∈ l))) ∧ w' = w := by
  have C := hide1 (indexV_any a ca l f w hl hR)
  clear hR
  go_enter Tryz.func75, Tryz.ntmps75
  go_wp2_with fail
  refine C.out.mono ?_
  rintro e w1 ⟨⟨z, rfl, hz, _, _⟩, rfl⟩
  have HZ := hide1 hz
  clear hz
  go_wp2
  go_ret
  exact ⟨by rw [← HZ.out]; rfl, rfl⟩
end Go.Proofs.YtpjgplohlchpoaaGreatDoor
namespace Go.Proofs.YtpjgplohlchpoaaGreatDoor
open Go.RowKit
set_option linter.unusedVariables false

set_option maxRecDepth 100000 in
set_option maxHeartbeats 4000000 in
theorem implWasBase_any (X : Nat) (q0 q1 td sd : Value) (m : Mb) (A : MA) (va : Option Addr) (L : List Vw) (vc : Nat) (k : Nat) (hk : k < L.length) (w : World) (hX : BlkA w X 94 (seatA q0 q1 (.slice va L.length vc) m A td sd)) (hL : L.length ≤ 1048576) (hs : ∀ x ∈ L, x.l.length ≤ 1048576) (hV : RdVs w va L) :
    Calls Tryz.prog 56 #[.pointer (some ⟨X, 0, none⟩), .int .i64 ((k : Int) + 1)] w fun e w' => e = .returned (.bool (decide (m.ba = true ∧ m.ep = (k : Int) + 1 ∧ m.id ∈ L[k].l))) ∧ Below w.heap.size w w' := by
  obtain ⟨r, hr⟩ : ∃ r, r = decide (m.ba = true ∧ m.ep = (k : Int) + 1 ∧ m.id ∈ L[k].l) := ⟨_, rfl⟩
  rw [← hr]
  have CV := hide1 (fun w' (h : Below w.heap.size w w') => implViewOf_any X q0 q1 td sd m A va L vc k hk w' (hX.below h hX.lt) hL (hV.later h))
  have CC := hide1 (fun w' (h : Below w.heap.size w w') => containsV_any L[k].a L[k].c L[k].l m.id w' (hs _ (List.getElem_mem hk)) ((hV.v _ (List.getElem_mem hk)).later h))
  have z3 : ∀ n : Gr w, n.w.cell? ⟨X, 3, none⟩ = some (.int .i64 m.id) := fun n => n.cell (hX.cell 3 rfl)
  have z4 : ∀ n : Gr w, n.w.cell? ⟨X, 4, none⟩ = some (.int .i64 m.ep) := fun n => n.cell (hX.cell 4 rfl)
  have z6 : ∀ n : Gr w, n.w.cell? ⟨X, 6, none⟩ = some (.bool m.ba) := fun n => n.cell (hX.cell 6 rfl)
  clear hX hV hs
  cases hba : m.ba
  · rw [hba] at z6
    have RES := hide1 (show r = false from by rw [hr, hba]; simp)
    clear hba hr
    go_enter Tryz.func56, Tryz.ntmps56
    go_upto_region 1 with fail
    refine wp_region_grown (by kernel_rfl) (by kernel_rfl) ?_
    (repeat (first | go_big_quiet_skip | (go_big_quiet_want; go_big_quiet_op; go_big_quiet_on)))
    refine wpQuiet_nil ?_
    rintro w1 ⟨m1, rfl⟩
    go_wp2
    go_ret
    exact ⟨by rw [RES.out]; rfl, m1.b⟩
  rw [hba] at z6
  rw [hba] at hr
  clear hba
  by_cases he : m.ep = (k : Int) + 1
  case neg =>
    have q : (m.ep == (k : Int) + 1) = false := by simp [he]
    have RES := hide1 (show r = false from by rw [hr]; exact decide_eq_false (fun h => he h.2.1))
    clear he hr
    go_enter Tryz.func56, Tryz.ntmps56
    go_upto_region 1 with fail
    refine wp_region_grown (by kernel_rfl) (by kernel_rfl) ?_
    (repeat (first | go_big_quiet_skip | (go_big_quiet_want; go_big_quiet_op; go_big_quiet_on)))
    refine wpQuiet_nil ?_
    rintro w1 ⟨m1, rfl⟩
    go_wp2
    go_ret
    exact ⟨by rw [RES.out]; rfl, m1.b⟩
  have q : (m.ep == (k : Int) + 1) = true := by simp [he]
  have RES := hide1 (show r = decide (m.id ∈ L[k].l) from by rw [hr]; simp [he])
  clear he hr
  go_enter Tryz.func56, Tryz.ntmps56
  go_upto_region 1 with fail
  refine wp_region_grown (by kernel_rfl) (by kernel_rfl) ?_
  (repeat (first | go_big_quiet_skip | (go_big_quiet_want; go_big_quiet_op; first | go_big_quiet_on | go_big_quiet_call (first | (go_at_call 60; exact quiet_grownS (CV.out _ (Gr.b _))) | (go_at_call 75; exact quiet_grownS (CC.out _ (Gr.b _)))))))
  refine wpQuiet_nil ?_
  rintro w1 ⟨m1, rfl⟩
  go_wp2
  go_ret
  exact ⟨by rw [RES.out]; rfl, m1.b⟩
end Go.Proofs.YtpjgplohlchpoaaGreatDoor
namespace Go.Proofs.YtpjgplohlchpoaaGreatDoor
open Go.RowKit
set_option linter.unusedVariables false

theorem okIm_z {x : Im} (h : okIm x) : x.k.size ≤ 1048576 ∧ x.v.size ≤ 1048576 := by have h1 := h.1.2; have h2 := h.2.1; omega
theorem okIms_z {l : List Im} (h : okIms l) : ∀ x ∈ l, x.k.size ≤ 1048576 ∧ x.v.size ≤ 1048576 := fun x hx => okIm_z (h.1 x hx)
theorem fieldsIm : Tryz.prog.underlying 34 = some (.struct (Tryz.prog.fieldsOf 34)) := by kernel_rfl
theorem heldIm : Tryz.prog.stoodInHeld 34 = false := by kernel_rfl
theorem listIm : (Tryz.prog.fieldsOf 34).toList.map (fun f => (f.name, f.type, f.offset)) = [("Key", 9, 0), ("Val", 9, 1), ("Ver", 3, 2)] := by kernel_rfl
theorem guardIm : Tryz.prog.eqGuardType Tryz.prog.depth 34 = false := by kernel_rfl
theorem part_oneI (w : World) (t : TypeId) (d : TypeDesc) (hd : Tryz.prog.underlying t = some d) (hn : (match d with | .struct _ | .array _ _ => true | _ => false) = false) (xs : Array Value) (i : Nat) (v : Value) (h : xs[i]? = some v) : (part t xs i).run Tryz.prog w = .ok v w := by
  unfold part isAgg
  cases d <;> simp_all [run_underlying hd]
def eqSI (d : Nat) (xs ys : Array Value) : List (String × TypeId × Nat) → Sem Bool
  | [] => pure true
  | f :: fs =>
    if f.1 ≠ "_" then do
      let a ← part f.2.1 xs f.2.2
      let b ← part f.2.1 ys f.2.2
      let r ← Op.equalIn d f.2.1 a b
      if (!r) = true then pure false else eqSI d xs ys fs
    else eqSI d xs ys fs
theorem eqSI_of (d : Nat) (xs ys : Array Value) : ∀ fs : List Field, Op.eqFields d xs ys fs = eqSI d xs ys (fs.map (fun f => (f.name, f.type, f.offset)))
  | [] => rfl
  | f :: fs => by rw [List.map_cons, Op.eqFields, eqSI, eqSI_of d xs ys fs]
theorem eqImV (d : Nat) (k v : ByteArray) (n : Int) (w : World) : (Op.equalIn (d + 2) 34 (.agg #[.string k, .string v, .int .i64 n]) (.agg #[.string k, .string v, .int .i64 n])).run Tryz.prog w = .ok true w := by
  rw [run_equalIn_struct w (d + 1) 34 _ _ fieldsIm heldIm, eqSI_of, listIm]
  have pi := fun (xs : Array Value) i v h => part_oneI w 3 _ Tryz.underlying3 rfl xs i v h
  have ps := fun (xs : Array Value) i v h => part_oneI w 9 _ Tryz.underlying9 rfl xs i v h
  have ei := fun x y => run_equalIn_int w d 3 .i64 .i64 x y Tryz.underlying3
  have es := fun x y => run_equalIn_string w d 9 x y Tryz.underlying9
  have ne : ∀ s, s ∈ ["Key", "Val", "Ver"] → s ≠ "_" := by decide
  simp only [eqSI, ne "Key" (by simp), ne "Val" (by simp), ne "Ver" (by simp), ne_eq, not_false_eq_true, if_true, Sem.run_bind]
  rw [ps _ 0 (.string k) rfl, Result.andThen_ok, ps _ 0 (.string k) rfl, Result.andThen_ok, es, Result.andThen_ok]
  rw [show (k.toList == k.toList) = true by simp, if_neg (by simp), Sem.run_bind, ps _ 1 (.string v) rfl, Result.andThen_ok, Sem.run_bind, ps _ 1 (.string v) rfl, Result.andThen_ok, Sem.run_bind, es, Result.andThen_ok]
  rw [show (v.toList == v.toList) = true by simp, if_neg (by simp), Sem.run_bind, pi _ 2 (.int .i64 n) rfl, Result.andThen_ok, Sem.run_bind, pi _ 2 (.int .i64 n) rfl, Result.andThen_ok, Sem.run_bind, ei, Result.andThen_ok]
  rw [show (n == n) = true by simp, if_neg (by simp)]
  rfl
end Go.Proofs.YtpjgplohlchpoaaGreatDoor
namespace Go.Proofs.YtpjgplohlchpoaaGreatDoor
open Go.RowKit
set_option linter.unusedVariables false

theorem tx_ne {a b : ByteArray} (h : ¬ a = b) : (a.toList == b.toList) = false := by
  rw [beq_eq_false_iff_ne]
  exact fun e => h (tx_inj e)
theorem eqIm_dec (d : Nat) (x y : Im) (w : World) : (Op.equalIn (d + 2) 34 (.agg #[.string x.k, .string x.v, .int .i64 x.n]) (.agg #[.string y.k, .string y.v, .int .i64 y.n])).run Tryz.prog w = .ok (decide (x = y)) w := by
  have pi := fun (xs : Array Value) i v h => part_oneI w 3 _ Tryz.underlying3 rfl xs i v h
  have ps := fun (xs : Array Value) i v h => part_oneI w 9 _ Tryz.underlying9 rfl xs i v h
  have ei := fun x y => run_equalIn_int w d 3 .i64 .i64 x y Tryz.underlying3
  have es := fun x y => run_equalIn_string w d 9 x y Tryz.underlying9
  have ne : ∀ s, s ∈ ["Key", "Val", "Ver"] → s ≠ "_" := by decide
  rw [run_equalIn_struct w (d + 1) 34 _ _ fieldsIm heldIm, eqSI_of, listIm]
  simp only [eqSI, ne "Key" (by simp), ne "Val" (by simp), ne "Ver" (by simp), ne_eq, not_false_eq_true, if_true, Sem.run_bind]
  rw [ps _ 0 (.string x.k) rfl, Result.andThen_ok, ps _ 0 (.string y.k) rfl, Result.andThen_ok, es, Result.andThen_ok]
  by_cases h0 : x.k = y.k
  · rw [show (x.k.toList == y.k.toList) = true by rw [h0]; simp, if_neg (by simp), Sem.run_bind, ps _ 1 (.string x.v) rfl, Result.andThen_ok, Sem.run_bind, ps _ 1 (.string y.v) rfl, Result.andThen_ok, Sem.run_bind, es, Result.andThen_ok]
    by_cases h1 : x.v = y.v
    · rw [show (x.v.toList == y.v.toList) = true by rw [h1]; simp, if_neg (by simp), Sem.run_bind, pi _ 2 (.int .i64 x.n) rfl, Result.andThen_ok, Sem.run_bind, pi _ 2 (.int .i64 y.n) rfl, Result.andThen_ok, Sem.run_bind, ei, Result.andThen_ok]
      by_cases h2 : x.n = y.n
      · rw [show (x.n == y.n) = true by simp [h2], if_neg (by simp), decide_eq_true (show x = y by cases x; cases y; simp_all)]
        rfl
      · rw [show (x.n == y.n) = false by simp [h2], if_pos (by simp), decide_eq_false (fun e : x = y => h2 (by rw [e]))]
        rfl
    · rw [tx_ne h1, if_pos (by simp), decide_eq_false (fun e : x = y => h1 (by rw [e]))]
      rfl
  · rw [tx_ne h0, if_pos (by simp), decide_eq_false (fun e : x = y => h0 (by rw [e]))]
    rfl
end Go.Proofs.YtpjgplohlchpoaaGreatDoor
