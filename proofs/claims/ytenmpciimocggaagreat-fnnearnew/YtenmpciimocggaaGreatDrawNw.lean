/- A drawn number of slots; new near entries are right. -/
import Derived.Test.YtenmpciimocggaaGreatDrawH
import Derived.Test.YtenmpciimocggaaGreatNeE
import Derived.Test.YtenmpciimocggaaGreatXP
import Derived.Test.YtenmpciimocggaaGreatXBW
namespace Go.Proofs.YtenmpciimocggaaGreat
open Go.RowKit

def plW : List Int := [-1, 25, 26, 9223372036854775807, -9223372036854775808]
theorem plW_at (j : Nat) (h : j < 5) : (#[Value.int .i64 (-1), .int .i64 25, .int .i64 26, .int .i64 9223372036854775807, .int .i64 (-9223372036854775808)] : Array Value)[j]? = some (.int .i64 (plW.getD j 0)) := by
  match j, h with
  | 0, _ => rfl
  | 1, _ => rfl
  | 2, _ => rfl
  | 3, _ => rfl
  | 4, _ => rfl
theorem plW_in (j : Nat) : -9223372036854775808 ≤ plW.getD j 0 ∧ plW.getD j 0 ≤ 9223372036854775807 := by
  match j with
  | 0 => decide
  | 1 => decide
  | 2 => decide
  | 3 => decide
  | 4 => decide
  | k + 5 => exact ⟨by show (-9223372036854775808 : Int) ≤ 0; decide, by show (0 : Int) ≤ 9223372036854775807; decide⟩

set_option maxHeartbeats 400000 in
theorem placeW_any {B : Nat} {w : World} {a : Option Addr} {len cap g : Nat} (h : Drw B w a len cap g) :
    Calls Tryz.prog 10 #[.pointer (some ⟨g, 0, none⟩), .int .i64 25] w fun e w' => ∃ n : Int, e = .returned (.int .i64 n) ∧ (-9223372036854775808 ≤ n ∧ n ≤ 9223372036854775807) ∧ Drw B w' a len cap g ∧ w.grownBy w' (some g) := by
  go_enter Tryz.func10, Tryz.ntmps10
  go_wp2_with fail
  refine (once_any h 15 (by omega)).mono ?_
  rintro e w1 ⟨b, rfl, h1, hb1⟩
  cases b with
  | true =>
    go_wp2_with fail
    have hlt := h1.lt
    refine (pickInt_any (h1.later ((Below.refl _ _).alloc (Nat.le_refl _) _)) w1.heap.size 5 5 (by omega) (by omega) (by omega) (fun j => plW.getD j 0) (fun j hj => ?_) (by rw [World.size_alloc]; omega)).mono ?_
    · rw [World.cell?_alloc_at _ _ _ _ rfl]
      exact plW_at j hj
    · rintro e w2 ⟨j, rfl, h2, hb2⟩
      have hin := hide1 (plW_in j)
      generalize plW.getD j 0 = z at *
      go_wp2
      go_ret
      exact ⟨_, rfl, hin.out, h2, hb1.trans ((World.grownBy_alloc w1 _ _).trans hb2)⟩
  | false =>
    go_wp2_with (go_at_call 28; refine (below_any h1 25 (by omega)).mono ?_; rintro e w2 ⟨y, rfl, hy, _, h2, hb2⟩)
    go_ret
    exact ⟨_, rfl, ⟨by omega, by have := hy (by omega); omega⟩, h2, hb1.trans hb2⟩


set_option maxHeartbeats 400000 in
theorem drawNW_any (w : World) (a : Option Addr) (len cap : Nat) (hc : Code w.heap.size w a len) :
    Calls Tryz.prog 5 #[.slice a len cap] w fun e w' => ∃ n : Int, e = .returned (.int .i64 n) ∧ (-9223372036854775808 ≤ n ∧ n ≤ 9223372036854775807) ∧ Below w.heap.size w w' := by
  go_enter Tryz.func5, Tryz.ntmps5
  go_wp2_with fail
  refine (new_any w a len cap hc).mono ?_
  rintro e w1 ⟨g, rfl, h1, hb1⟩
  have hBg := h1.cur.1
  go_wp2_with fail
  refine (placeW_any h1).mono ?_
  rintro e w4 ⟨n, rfl, hn, h4, hb4⟩
  have HN := hide1 hn
  clear hn
  go_wp2
  go_ret
  exact ⟨n, rfl, HN.out, hb1.trans (grow_below hb4 hBg h1.base)⟩
theorem okQ_nil {m : Int} (h0 : 0 ≤ m) (h : m ≤ 24) : OkQ [] m := by
  refine ⟨h0, h, h0, ?_, List.nodup_nil⟩
  intro s hs
  cases hs
theorem InN.new {n : Nat} (h2 : 2 ≤ n) (hn : n ≤ 24) : InN (newN n) := by
  have hs := most_sum h2
  refine ⟨⟨OkA.new n (by omega) hn, OkN.new (by have := cellsN_ok n; unfold szOk at this; omega), fun k hk => by simp [keysN, newN] at hk, fun k x hk he => ?_, fun j hj hu => ?_⟩, by rw [show (newN n).sl = newL n n from rfl, newL_length]; exact h2, rfl, rfl, ?_, ?_, ?_, ?_, ?_, ?_, ?_, ?_, ?_, ?_⟩
  · obtain ⟨c, hc, e, _⟩ := he
    rcases hc with hc | hc
    · have := List.eq_of_mem_replicate hc
      rw [this] at e
      exact absurd (by rw [← e]; exact by simp [nC]) hk
    · cases hc
  · have e : (newN n).sl[j] = ⟨0, false, ⟨#[]⟩, ⟨#[]⟩, if j + 1 = n then -1 else (j : Int) + 1⟩ := newL_at n n j hj
    rw [e] at hu
    cases hu
  · rw [show (newN n).sl = newL n n from rfl, newL_length]; exact List.length_replicate
  · exact okQ_nil (m := (mostW n : Int)) (by omega) (by omega)
  · exact okQ_nil (m := (mostT n : Int)) (by omega) (by omega)
  · exact okQ_nil (m := (mostS n : Int)) (by omega) (by omega)
  · rw [show (newN n).sl = newL n n from rfl, newL_length]; rfl
  · rw [show (newN n).sl = newL n n from rfl, newL_length]; rfl
  · rw [show (newN n).sl = newL n n from rfl, newL_length]; rfl
  · show OkK (List.replicate 48 0) 0
    exact ⟨List.length_replicate, by decide, by decide, fun i hi => by rw [List.getElem_replicate]; decide⟩
  · show okD 0 = true
    decide
  · exact List.nodup_nil
end Go.Proofs.YtenmpciimocggaaGreat
