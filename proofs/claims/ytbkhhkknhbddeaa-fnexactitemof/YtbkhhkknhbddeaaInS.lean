/- The library's slices.Insert of one item into a row that is full: a new row. -/
import Derived.Test.YtbkhhkknhbddeaaRowZ
import Derived.Test.YtbkhhkknhbddeaaImM
import Derived.Deep.DeepCutAuto
import Derived.Deep.RegionLaw
namespace Go.Proofs.Ytbkhhkknhbddeaa
open Go.RowKit
set_option linter.unusedVariables false

theorem RdG.takeI {α : Type} {enc : α → List Value} {k : Nat} {w : World} {a : Option Addr} {l : List α} (h : RdG enc k w a l) (i : Nat) : RdG enc k w a (l.take i) := fun j hj => by
  rw [List.length_take] at hj
  obtain ⟨b, o, e, hb, hc⟩ := h j (by omega)
  refine ⟨b, o, e, hb, fun q hq => ?_⟩
  rw [List.getElem_take]
  exact hc q hq
theorem RdG.dropI {α : Type} {enc : α → List Value} {k : Nat} {w : World} {g o : Nat} {l : List α} (h : RdG enc k w (some ⟨g, o, none⟩) l) (i : Nat) : RdG enc k w (some ⟨g, o + i * k, none⟩) (l.drop i) := fun j hj => by
  rw [List.length_drop] at hj
  obtain ⟨b, o', e, hb, hc⟩ := h (i + j) (by omega)
  injection e with e
  injection e with e1 e2
  subst e1 e2
  refine ⟨g, o + i * k, rfl, hb, fun q hq => ?_⟩
  rw [List.getElem_drop, show o + i * k + j * k + q = o + (i + j) * k + q by rw [Nat.add_mul]; omega]
  exact hc q hq
theorem ins_row (l : List Im) (x : Im) (i : Nat) (hi : i ≤ l.length) (zs : List Value) (hz : zs.length = (l.length + 1 - i) * 3) : setL (setL (rowG imC (l.take i) ++ zs) (i * 3) (rowG imC [x])) ((i + 1) * 3) (rowG imC (l.drop i)) = rowG imC (l.take i ++ x :: l.drop i) := by
  have ht := rowG_length imC 3 encIm.len (l.take i)
  rw [List.length_take, Nat.min_eq_left hi] at ht
  have hd := rowG_length imC 3 encIm.len (l.drop i)
  rw [List.length_drop] at hd
  have h1 : (rowG imC [x]).length = 3 := rfl
  rw [setL_eq (rowG imC [x]) _ _ (by rw [List.length_append, ht, hz, h1]; omega), List.take_left' ht]
  have e1 : (rowG imC (l.take i) ++ zs).drop (i * 3 + (rowG imC [x]).length) = zs.drop 3 := by
    rw [h1, List.drop_append, ht, List.drop_eq_nil_of_le (by omega), List.nil_append, show i * 3 + 3 - i * 3 = 3 by omega]
  rw [e1, setL_eq _ _ _ (by rw [List.length_append, List.length_append, List.length_drop, ht, hz, h1, hd]; omega), List.take_left' (by rw [List.length_append, ht, h1]; omega)]
  have e2 : (rowG imC (l.take i) ++ rowG imC [x] ++ zs.drop 3).drop ((i + 1) * 3 + (rowG imC (l.drop i)).length) = [] := List.drop_eq_nil_of_le (by rw [List.length_append, List.length_append, List.length_drop, ht, hz, h1, hd]; omega)
  rw [e2, List.append_nil, show x :: l.drop i = [x] ++ l.drop i from rfl, ← List.append_assoc, rowG_join, rowG_join]
set_option maxRecDepth 100000 in
set_option maxHeartbeats 2000000 in
theorem insert_any (l : List Im) (x : Im) (i g vb : Nat) (w : World) (hi : i ≤ l.length) (hn : l.length ≤ 1048576) (hR : RdG imC 3 w (some ⟨g, 0, none⟩) l) (hV : RdG imC 3 w (some ⟨vb, 0, none⟩) [x]) :
    Calls Try.prog 55 #[.slice (some ⟨g, 0, none⟩) l.length l.length, .int .i64 (i : Int), .slice (some ⟨vb, 0, none⟩) 1 1] w fun e w' => (∃ q c, e = .returned (.slice (some ⟨q, 0, none⟩) (l.length + 1) c) ∧ w'.ownsRow w.heap.size 26 3 (.slice (some ⟨q, 0, none⟩) (l.length + 1) c) (l.length + 1) (rowG imC (l.take i ++ x :: l.drop i))) ∧ Below w.heap.size w w' := by
  have HR := hide1 hR
  have HV := hide1 hV
  clear hR hV
  obtain ⟨n, hln⟩ : ∃ n, l.length = n := ⟨_, rfl⟩
  have HL := hide1 hln
  have HROW := hide1 (ins_row l x i hi)
  rw [hln] at hi hn HROW ⊢
  clear hln
  by_cases c : i = n
  · subst c
    have k0 : (0 : Int) ≤ (i : Int) := by omega
    have RES := hide1 (show l ++ [x] = l.take i ++ x :: l.drop i by rw [← HL.out, List.take_length, List.drop_length])
    go_enter Try.func55, Try.ntmps55
    go_wp2_with (at_builtin; (refine wpList_appN encIm rowIm rfl _ _ rfl g 0 i i l HL.out HR.out (some ⟨vb, 0, none⟩) 1 1 [x] rfl HV.out (by omega) (by omega) (by omega) rfl rfl ?_; intro q c' w' ho hb hq; have HO := hide1 ho; have HB := hide1 hb; clear ho hb))
    go_ret
    exact ⟨⟨q, c', rfl, by rw [← RES.out]; exact HO.out⟩, HB.out⟩
  · have k0 : (0 : Int) ≤ (i : Int) := by omega
    have k1 : (i : Int) ≤ (n : Int) := by omega
    have kb : ((i : Int) == (n : Int)) = false := by rw [beq_eq_false_iff_ne]; omega
    have kn : ¬ n = i := fun e => c e.symm
    go_enter Try.func55, Try.ntmps55
    obtain ⟨M, hM⟩ : ∃ M, n + 1 - i = M := ⟨_, rfl⟩
    have hiM : i + M = n + 1 := by omega
    rw [hM] at HROW
    have k2 : (n : Int) < (n : Int) + 1 := by omega
    have k3 : (0 : Int) ≤ (i : Int) + 1 := by omega
    have k4 : (i : Int) + 1 ≤ (n : Int) + 1 := by omega
    have k5 : (i : Int) ≤ (n : Int) + 1 := by omega
    go_upto_region 10 with (at_builtin; (refine wpList_appZr encIm rowIm rfl (.tmp 34) (.tmp 39) 3 .i64 Try.underlying3 rfl g 0 i n (l.take i) (by rw [List.length_take, HL.out]; omega) (HR.out.takeI i) M (by omega) (by omega) (by omega) rfl (show Value.int .i64 ((n : Int) + 1 - (i : Int)) = Value.int .i64 (M : Int) by rw [show (n : Int) + 1 - (i : Int) = (M : Int) by omega]) ?_; intro q c' zs w1 hz1 ho1 hb1 hq1 hc1; rw [hiM] at ho1 hc1 ⊢; have HZ := hide1 hz1; have O1 := hide1 ho1; have B1 := hide1 hb1; have Q1 := hide1 hq1; have k6 : (n : Int) + 1 ≤ (c' : Int) := (by omega); have k7 : ¬ c' = i := (by omega); have k8 : ¬ c' = i + 1 := (by omega); clear hz1 ho1 hb1 hq1))
    go_upto_region 11 with ((refine wpList_copyK encIm rowIm rfl (.tmp 43) (.tmp 44) rfl w.heap.size (n + 1) q c' i _ _ _ O1.out [x] 1 rfl (some ⟨vb, 0, none⟩) 1 (HV.out.later B1.out) (by omega) (by omega) (some ⟨q, i * 3, none⟩) (fun _ => rfl) rfl rfl ?_; intro ho2 hg2; have O2 := hide1 ho2; have B2 := hide1 (below_putG (rowG imC [x]) (i * 3) B1.out Q1.out); generalize putG w1 q (i * 3) (rowG imC [x]) = w2 at O2 B2 ⊢; clear ho2 hg2))
    go_wp2_with fail
    have B2D := hide1 (show Below w.heap.size w w2.drew from B2.out.drew)
    have O2D := hide1 O2.out.drew
    have R2D := hide1 (show RdG imC 3 w2.drew (some ⟨g, i * 3, none⟩) (l.drop i) by have := HR.out.dropI i; rw [Nat.zero_add] at this; exact this.later B2D.out)
    have kw3 : IntKind.i64.wrap ((i : Int) + 1) = (i : Int) + 1 := IntWalk.i64_in _ ⟨by omega, by omega⟩
    go_region_law (refine step_copyK encIm rowIm rfl (.tmp 50) (.tmp 53) rfl w.heap.size (n + 1) q c' (i + 1) (n - i) (c' - (i + 1)) _ O2D.out (l.drop i) (n - i) (by rw [List.length_drop, HL.out]) (some ⟨g, i * 3, none⟩) (n - i) R2D.out (by omega) (by omega) (some ⟨q, (i + 1) * 3, none⟩) (fun _ => rfl) (by simp [Act.eval, Act.put]) (by simp [Act.eval, Act.put]) ?_; intro ho3 hg3; have O3 := hide1 ho3; have B3 := hide1 (below_putG (rowG imC (l.drop i)) ((i + 1) * 3) B2D.out Q1.out); generalize putG w2.drew q ((i + 1) * 3) (rowG imC (l.drop i)) = w3 at O3 B3 ⊢; clear ho3 hg3)
    all_goals
      go_wp2
      go_ret
      refine ⟨⟨q, c', rfl, ?_⟩, B3.out⟩
      rw [← HROW.out zs HZ.out]
      exact O3.out
end Go.Proofs.Ytbkhhkknhbddeaa
