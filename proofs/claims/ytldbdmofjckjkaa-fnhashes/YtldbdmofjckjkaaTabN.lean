/- New cells, and a new table, by the model. -/
import Derived.Test.YtldbdmofjckjkaaTabU
import Derived.Test.YtldbdmofjckjkaaTabS
namespace Go.Proofs.Ytldbdmofjckjkaa
open Go.RowKit

/-- 'out = append(out, c)' of one cell, out a row of the call's own. -/
theorem wpList_push2 {P : Program} {w : World} {ops : Array Oper} {rest : List Oper} {o : Oper} {a : Act} {Q : Exit → Act → World → Prop} (hgd : o.guard = none) (s x : Operand) (t : TypeId)
    (ho : o.op = .call { callee := .builtin .append, args := #[s, x], argTypes := #[t, t] })
    (base : Nat) (e : TypeId) (i : TypeInfo) (ht : P.underlying t = some (.slice e)) (hi : P.info? e = some i) (hz : i.zero = some (ceV zC)) (hsize : i.size = 2) (hby : i.bytes = 24)
    (v : Value) (acc : List Ce) (n : Nat) (hs : a.eval s = v) (hown : w.ownsRow base e 2 v n (ces acc)) (u : Ce)
    (hx : a.eval x = .slice (some ⟨w.heap.size, 0, none⟩) 1 1) (hlen : n ≤ 1048576) (hbase : base ≤ w.heap.size)
    (h : ∀ v' w', w'.ownsRow base e 2 v' (n + 1) (ces (acc ++ [u])) → Below base w w' → wpList P ops Q rest (a.put o.dst v') w') :
    wpList P ops Q (o :: rest) a (w.alloc (.cells #[.string u.key, .int .i64 u.h] e)) := by
  refine wpList_append_own _ hgd s x t ho base e i (ceV zC) 2 24 ht hi hz hsize hby rfl (by decide) v n (ces acc) hs (hown.alloc _) ⟨w.heap.size, 0, none⟩ 1 1 (ceC u) hx rfl ?_ ?_ ?_ ?_ ?_ ?_
  · intro j y hj
    rw [Addr.add_lit, Nat.zero_add, World.cell?_alloc_at _ _ _ _ rfl, ← Array.getElem?_toList]
    exact hj
  · intro y hy
    simp [ceC] at hy
    rcases hy with rfl | rfl <;> rfl
  · unfold maxLen; omega
  · omega
  · rw [World.size_alloc]; omega
  · intro v' w' h1 h2 _
    refine h v' w' ?_ ?_
    · rw [ces_append]; simpa [ces] using h1
    · refine Below.grown ((Below.refl _ _).alloc hbase _) h2 (by rw [World.size_alloc]; omega) ?_
      intro k hk
      exact (hown.lt k hk).1
/-- A cell that nobody took. -/
def nC : Ce := ⟨⟨#[]⟩, -1⟩
theorem own_slice2 {w : World} {base n size : Nat} {e : TypeId} {v : Value} {xs : List Value} (h : w.ownsRow base e size v n xs) : ∃ ao cap, v = .slice ao n cap := by
  rcases h.2 with ⟨hv, h0⟩ | ⟨g, cap, cur, hv, _⟩
  · exact ⟨none, 0, by rw [h0]; exact hv⟩
  · exact ⟨_, cap, hv⟩
theorem owns_empty2 (w : World) (e : TypeId) : (w.alloc (.cells #[] e)).ownsRow w.heap.size e 2 (.slice (some ⟨w.heap.size, 0, none⟩) 0 0) 0 [] :=
  ⟨rfl, .inr ⟨w.heap.size, 0, #[], rfl, Nat.le_refl _, heap_alloc_new w _, Nat.le_refl _, Nat.zero_le _, rfl, rfl⟩⟩

set_option maxRecDepth 100000 in
set_option maxHeartbeats 400000 in
theorem specCells_any (n : Nat) (w : World) (hn : n ≤ 1048576) :
    Calls Try.prog 54 #[.int .i64 (n : Int)] w fun e w' => ∃ b c, e = .returned (.slice b n c) ∧ w'.ownsRow w.heap.size 47 2 (.slice b n c) n (ces (List.replicate n nC)) ∧ Below w.heap.size w w' := by
  obtain ⟨i0, hi0, hz0, hz1, hz2⟩ := info_parts Try.infoCell
  go_enter Try.func54, Try.ntmps54
  go_wp2
  go_loopw [3, 4] (fun lv iv wr => ∃ (i : Nat) (lo : Option Addr) (lc : Nat), i ≤ n ∧ iv = .int .i64 (i : Int) ∧ lv = .slice lo i lc ∧ Hid (wr.ownsRow w.heap.size 47 2 (.slice lo i lc) i (ces (List.replicate i nC))) ∧ Hid (Below w.heap.size w wr)) (fun _ iv _ => n - (intOf iv).toNat)
  case atStart => exact ⟨0, _, _, by omega, rfl, rfl, owns_empty2 w 47, (Below.refl _ _).alloc (Nat.le_refl _) _⟩
  case round =>
    obtain ⟨i, lo, lc, hi, rfl, rfl, hown, hbel⟩ := hrel
    by_cases hlt : i < n
    · have k1 : (i : Int) < (n : Int) := by omega
      have hbs := hbel.out.size
      go_wp2_with (at_builtin; (refine wpList_push2 rfl _ _ 27 rfl w.heap.size 47 i0 Try.underlying27 hi0 hz0 hz1 hz2 _ (List.replicate i nC) i rfl hown.out nC rfl (by omega) hbs ?_; intro v' w6 hown6 hb6))
      have O6 : Hid (w6.ownsRow w.heap.size 47 2 v' (i + 1) (ces (List.replicate (i + 1) nC))) := by
        show w6.ownsRow w.heap.size 47 2 v' (i + 1) (ces (List.replicate (i + 1) nC))
        rw [List.replicate_succ']
        exact hown6
      obtain ⟨lo', lc', rfl⟩ := own_slice2 O6.out
      have B6 := hide1 (hbel.out.trans hb6)
      clear hown6 hb6
      go_wp2
      go_roundw
      case rel => exact ⟨i + 1, lo', lc', by omega, by go_num, by first | rfl | (congr 1; omega), O6, B6⟩
      case measure => simp [intOf]; omega
    · obtain rfl : i = n := by omega
      go_wp2
      go_ret
      exact ⟨lo, lc, rfl, hown.out, hbel.out⟩
end Go.Proofs.Ytldbdmofjckjkaa
