/- The program's functions on lists of texts: whether one is there, none twice, all others, one ahead. -/
import Derived.Test.YtenmpciimocggaaXQ
namespace Go.Proofs.Ytenmpciimocggaa
open Go.RowKit

theorem RdQ.take {w : World} {a : Option Addr} {l : List ByteArray} (h : RdQ w a l) (i : Nat) : RdQ w a (l.take i) := by
  intro j hj
  have hj2 : j < l.length := by rw [List.length_take] at hj; omega
  obtain ⟨b, o, ha, hg, hc⟩ := h j hj2
  exact ⟨b, o, ha, hg, by rw [hc]; simp⟩
theorem mem_take_succ {l : List ByteArray} {k : ByteArray} {i : Nat} (h : i < l.length) (hk : ¬ k ∈ l.take i) (hn : ¬ l[i] = k) : ¬ k ∈ l.take (i + 1) := by
  rw [List.take_succ_eq_append_getElem h]
  intro hm
  rcases List.mem_append.1 hm with h1 | h1
  · exact hk h1
  · exact hn (List.mem_singleton.1 h1).symm
theorem own_cap {w : World} {base n c : Nat} {e : TypeId} {ao : Option Addr} {xs : List Value} (h : w.ownsRow base e 1 (.slice ao n c) n xs) : n ≤ c ∧ c ≤ maxLen := by
  rcases h.2 with ⟨hv, h0⟩ | ⟨g, cap, cur, hv, _, _, h1, h2, _⟩
  · simp only [Value.slice.injEq] at hv; obtain ⟨_, _, rfl⟩ := hv; exact ⟨by omega, Nat.zero_le _⟩
  · simp only [Value.slice.injEq] at hv; obtain ⟨_, _, rfl⟩ := hv; exact ⟨h1, h2⟩
theorem OwnQ.cap {w : World} {B c : Nat} {ao : Option Addr} {L : List ByteArray} (h : OwnQ w B ao c L) : L.length ≤ c ∧ c ≤ maxLen := own_cap h

/-- 'append(row, texts...)', row the call's own. -/
theorem appQ_run (w : World) (t ty : TypeId) (ht : Try.prog.underlying t = some (.slice 9)) (base : Nat) (v : Value) (n : Nat) (l1 : List ByteArray) (hown : w.ownsRow base 9 1 v n (sc l1)) (ao : Option Addr) (m c : Nat) (l2 : List ByteArray) (hm : l2.length = m) (hA : RdQ w ao l2) (hlen : n + m ≤ 1048576) (hbase : base ≤ w.heap.size) :
    ∃ v' w', (Builtin.append_ #[t, t] ty #[v, .slice ao m c]).run Try.prog w = .ok v' w' ∧ w'.ownsRow base 9 1 v' (n + m) (sc (l1 ++ l2)) ∧ w.grownBy w' v.ownBlock := by
  obtain ⟨i0, hi, hz0, hz1, hz2⟩ := info_parts Try.infoQ
  by_cases h0 : m = 0
  · subst h0
    have e : l2 = [] := List.eq_nil_of_length_eq_zero hm
    subst e
    refine ⟨v, w, ?_, by simpa using hown, gnew (Below.refl _ _)⟩
    rcases hown.2 with ⟨rfl, rfl⟩ | ⟨g, cap, cur, rfl, _, _, hnc, _⟩
    · cases ao <;> simp [Builtin.append_, run_underlying ht, sizeOf, typeInfo, hi, Builtin.lenOf, Builtin.firstCells, loadCells, loadCellsFrom]
    · cases ao <;> simp [Builtin.append_, run_underlying ht, sizeOf, typeInfo, hi, Builtin.lenOf, Builtin.firstCells, loadCells, loadCellsFrom, hnc, storeCells]
  · obtain ⟨g, o, rfl, hg, _⟩ := hA 0 (by omega)
    have hAt : ∀ j v, (sc l2)[j]? = some v → w.cell? ((⟨g, o, none⟩ : Addr).add j) = some v := fun j v hj => by
      have hj' : j < l2.length := by have := (List.getElem?_eq_some_iff.1 hj).1; rwa [qc_length] at this
      obtain ⟨b', o', e, _, h⟩ := hA j hj'
      simp only [Option.some.injEq, Addr.mk.injEq, and_true] at e
      obtain ⟨rfl, rfl⟩ := e
      rw [qc_get l2 j hj'] at hj
      rw [Addr.add_lit, ← hj]
      exact h
    obtain ⟨v', w', h1, h2, h3, _⟩ := run_append_own (P := Try.prog) w base t ty 9 i0 (.string ⟨#[]⟩) 1 16 ht hi hz0 hz1 hz2 rfl (by decide) v n (sc l1) hown ⟨g, o, none⟩ m c (sc l2) (by rw [qc_length]; omega) hAt (qc_one _) (by unfold maxLen; omega) (by omega) hbase
    exact ⟨v', w', h1, by rw [sc_append]; exact h2, h3⟩
theorem wpList_appQ {ops : Array Oper} {rest : List Oper} {o : Oper} {a : Act} {w : World} {Q : Exit → Act → World → Prop} (hgd : o.guard = none) (s x : Operand) (t : TypeId)
    (ho : o.op = .call { callee := .builtin .append, args := #[s, x], argTypes := #[t, t] }) (ht : Try.prog.underlying t = some (.slice 9)) (base : Nat) (v : Value) (n : Nat) (l1 : List ByteArray) (hs : a.eval s = v) (hown : w.ownsRow base 9 1 v n (sc l1)) (ao : Option Addr) (m c : Nat) (l2 : List ByteArray) (hx : a.eval x = .slice ao m c) (hm : l2.length = m) (hA : RdQ w ao l2) (hlen : n + m ≤ 1048576) (hbase : base ≤ w.heap.size)
    (h : ∀ v' w', w'.ownsRow base 9 1 v' (n + m) (sc (l1 ++ l2)) → w.grownBy w' v.ownBlock → wpList Try.prog ops Q rest (a.put o.dst v') w') : wpList Try.prog ops Q (o :: rest) a w := by
  refine wpList_plain hgd fun K hK => ?_
  obtain ⟨v', w', hrun, h1, h2⟩ := appQ_run w t o.type ht base v n l1 hown ao m c l2 hm hA hlen hbase
  unfold Oper.wp
  simp only [execOp, ho, resolve, invoke, builtin, Sem.run_bind, Sem.run_pure, Result.andThen_ok, List.map_toArray, List.map_cons, List.map_nil, hs, hx, hrun]
  exact hK _ _ (h v' w' h1 h2)
theorem step_appQ {ops : Array Oper} {o : Oper} {a : Act} {w : World} {K : Act → World → Prop} {Q : Exit → Act → World → Prop} {E : Prop} (hgd : o.guard = none) (s x : Operand) (t : TypeId)
    (ho : o.op = .call { callee := .builtin .append, args := #[s, x], argTypes := #[t, t] }) (ht : Try.prog.underlying t = some (.slice 9)) (base : Nat) (v : Value) (n : Nat) (l1 : List ByteArray) (hs : a.eval s = v) (hown : w.ownsRow base 9 1 v n (sc l1)) (ao : Option Addr) (m c : Nat) (l2 : List ByteArray) (hx : a.eval x = .slice ao m c) (hm : l2.length = m) (hA : RdQ w ao l2) (hlen : n + m ≤ 1048576) (hbase : base ≤ w.heap.size)
    (h : ∀ v' w', w'.ownsRow base 9 1 v' (n + m) (sc (l1 ++ l2)) → w.grownBy w' v.ownBlock → K (a.put o.dst v') w') :
    if Region.wanted o (yielded ops a.tmps) = true then Oper.wp Try.prog o a w K Q else E := by
  have hw : Region.wanted o (yielded ops a.tmps) = true := by simp [Region.wanted, hgd]
  rw [if_pos hw]
  obtain ⟨v', w', hrun, h1, h2⟩ := appQ_run w t o.type ht base v n l1 hown ao m c l2 hm hA hlen hbase
  unfold Oper.wp
  simp only [execOp, ho, resolve, invoke, builtin, Sem.run_bind, Sem.run_pure, Result.andThen_ok, List.map_toArray, List.map_cons, List.map_nil, hs, hx, hrun]
  exact h v' w' h1 h2

theorem nodup_take_succ {l : List ByteArray} {i : Nat} (h : i < l.length) : (l.take (i + 1)).Nodup ↔ (l.take i).Nodup ∧ ¬ l[i] ∈ l.take i := by
  rw [List.take_succ_eq_append_getElem h, List.nodup_append]
  constructor
  · rintro ⟨h1, _, h3⟩; exact ⟨h1, fun hm => h3 _ hm _ (List.mem_singleton.2 rfl) rfl⟩
  · rintro ⟨h1, h2⟩; exact ⟨h1, by simp, fun a ha b hb e => by rw [List.mem_singleton.1 hb] at e; subst e; exact h2 ha⟩

end Go.Proofs.Ytenmpciimocggaa
namespace Go.Proofs.Ytenmpciimocggaa
open Go.RowKit

theorem conv_newQ {P : Program} (w : World) (src dst e : TypeId) (s : ByteArray) (hs : P.underlying src = some .string) (hd : P.underlying dst = some (.slice e)) (he : P.underlying e = some (.int .u8)) :
    ∃ v w1, (convert src dst (.string s)).run P w = .ok v w1 ∧ (convert dst src v).run P w1 = .ok (.string s) w1 ∧ Below w.heap.size w w1 := by
  refine ⟨_, _, run_bytes_of_string w src dst e s hs hd he, ?_, (Below.refl _ _).drew.alloc (Nat.le_refl _) _⟩
  have hl : s.size = s.data.toList.length := by simp
  rw [hl, run_convert_bytes_back _ dst src e ⟨w.heap.size, 0, none⟩ _ s.data.toList hd he hs]
  intro j hj
  have hj' : j < s.data.size := by simpa using hj
  rw [Addr.add_lit, Nat.zero_add]
  have := World.cell?_alloc_mark w.drew (bytesRow s (grownCap w s.size 0 e)) e ((bytesRow s (grownCap w s.size 0 e)).size, (bytesRow s (grownCap w s.size 0 e)).size + 1) j
  rw [bytesRow_at s _ j hj'] at this
  rw [← hl]
  simpa using this

theorem newQ_any (s : ByteArray) (w : World) : Calls Try.prog 59 #[.string s] w fun e w' => e = .returned (.string s) ∧ Below w.heap.size w w' := by
  obtain ⟨v, w1, r1, r2, hb⟩ := conv_newQ (P := Try.prog) w 9 106 5 s Try.underlying9 Try.underlying106 Try.underlying5
  go_enter Try.func59, Try.ntmps59
  go_wp2
  go_ret
  exact ⟨rfl, hb⟩

end Go.Proofs.Ytenmpciimocggaa
