/- Whether what a board has is right, by the program. -/
import Derived.Test.YtahglnojllkjdaaTabJ
import Derived.Test.YtahglnojllkjdaaTabI
import Derived.BigQuiet
namespace Go.Proofs.Ytahglnojllkjdaa
open Go.RowKit

theorem placeOf_any (ao : Option Addr) (l : List Ce) (ca : Nat) (key : ByteArray) (w : World) (hl : l.length ≤ 1048576) (hk : key.size ≤ 1048576) (hA : RdJ w ao l) :
    Calls Try.prog 56 #[.slice ao l.length ca, .string key] w fun e w' => e = .returned (.int .i64 (optI (srchC l key).1)) ∧ Below w.heap.size w w' := by
  have C1 := hide1 (search_any ao l ca key w hl hk hA)
  clear hA
  go_enter Try.func56, Try.ntmps56
  go_wp2_with fail
  refine C1.out.mono ?_
  rintro e w1 ⟨rfl, hb1⟩
  go_wp2
  go_ret
  exact ⟨rfl, hb1⟩

theorem optI_eq {a : Option Nat} {i : Nat} : optI a = (i : Int) ↔ a = some i := by
  cases a with
  | none => simp [optI]
  | some k => simp [optI]; omega
theorem optI_neg {a : Option Nat} : optI a = -1 ↔ a = none := by
  cases a with
  | none => simp [optI]
  | some k => simp [optI]
theorem fit_small {l : List Ce} (h : FitC l) (i : Nat) (hi : i < l.length) : l[i].key.size ≤ 12 := by
  rcases h i hi with ⟨e, _⟩ | ⟨_, e, _⟩
  · have := size_toList l[i].key
    rw [e] at this
    simp at this
    omega
  · exact e

set_option maxRecDepth 100000 in
set_option maxHeartbeats 1000000 in
theorem allFound_any (ao : Option Addr) (l : List Ce) (ca : Nat) (w : World) (hl : l.length ≤ 1048576) (hF : FitC l) (hA : RdJ w ao l) :
    Calls Try.prog 80 #[.slice ao l.length ca] w fun e w' => ∃ x : Bool, e = .returned (.bool x) ∧ (x = true ↔ Found l) ∧ Below w.heap.size w w' := by
  have HA := hide1 hA
  have HF := hide1 hF
  have CS := hide1 (fun w' (hb : Below w.heap.size w w') (key : ByteArray) (hk : key.size ≤ 1048576) => placeOf_any ao l ca key w' hl hk (hA.later hb))
  clear hA hF
  go_enter Try.func80, Try.ntmps80
  go_wp2
  go_loopw [7] (fun iv wr => ∃ i : Nat, i ≤ l.length ∧ iv = .int .i64 (i : Int) ∧ Hid (∀ j (h : j < l.length), j < i → l[j].key.toList ≠ [] → (srchC l l[j].key).1 = some j) ∧ Hid (Below w.heap.size w wr)) (fun iv _ => l.length - (intOf iv).toNat)
  case atStart => exact ⟨0, by omega, rfl, fun j _ h => by omega, Below.refl _ _⟩
  case round =>
    obtain ⟨i, hi, rfl, hok, hbel⟩ := hrel
    by_cases hlt : i < l.length
    · have k1 : (i : Int) < (l.length : Int) := by omega
      obtain ⟨b, o, hao, hb, h1⟩ := HA.out i hlt
      obtain ⟨x0, x1⟩ := h1.below hbel.out hb
      have hks := fit_small HF.out i hlt
      have hno := hide1 (fun (h : ¬ (l[i].key.toList ≠ [] → (srchC l l[i].key).1 = some i)) (hr : Found l) => h (hr i hlt))
      have hyes := hide1 (fun (h : l[i].key.toList ≠ [] → (srchC l l[i].key).1 = some i) j (hj : j < l.length) (hj2 : j < i + 1) => show l[j].key.toList ≠ [] → (srchC l l[j].key).1 = some j by
        by_cases e : j < i
        · exact hok.out j hj e
        · obtain rfl : j = i := by omega
          exact h)
      generalize l[i] = s at *
      obtain ⟨ky, hh⟩ := s
      simp only at x0 x1 hks hno hyes
      have BX : Hid (Below w.heap.size w (wr.alloc (.cells #[.string ky, .int .i64 hh] 65))) := hbel.out.alloc hbel.out.size _
      have NN : Hid ((wr.alloc (.cells #[.string ky, .int .i64 hh] 65)).cell? ⟨wr.heap.size, 0, none⟩ = some (.string ky) ∧ (wr.alloc (.cells #[.string ky, .int .i64 hh] 65)).cell? ⟨wr.heap.size, 1, none⟩ = some (.int .i64 hh)) := ⟨World.cell?_alloc_at _ _ _ _ rfl, World.cell?_alloc_at _ _ _ _ rfl⟩
      have HAO := hide1 hao
      rw [hao]
      clear h1 hok hao
      go_upto_region 4 with fail
      generalize (wr.alloc (.cells #[.string ky, .int .i64 hh] 65)) = wv at NN BX ⊢
      obtain ⟨n0, n1⟩ := NN.out
      clear NN x0 x1 hbel
      by_cases d1 : ky.toList = []
      · have b1 : ky.toList.isEmpty = true := by rw [d1]; rfl
        have HY := hide1 (hyes.out (fun h => absurd d1 h))
        clear hyes hno d1
        go_wp2
        go_roundw
        case rel => exact ⟨i + 1, by omega, by go_num, HY, BX⟩
        case measure => simp [intOf]; omega
      · have b1 : ky.toList.isEmpty = false := by cases h : ky.toList with | nil => exact absurd h d1 | cons a b => rfl
        have CSI := hide1 (CS.out wv BX.out ky (by omega))
        rw [HAO.out] at CSI
        go_wp2_with fail
        refine CSI.out.mono ?_
        rintro e w2 ⟨rfl, hb2⟩
        have B2 := hide1 (BX.out.trans (hb2.mono BX.out.size))
        clear hb2 CSI
        by_cases d2 : (srchC l ky).1 = some i
        · have HY := hide1 (hyes.out (fun _ => d2))
          rw [d2]
          have q : ((i : Int) != (i : Int)) = false := by simp
          unfold optI
          clear hyes hno d1 d2
          go_wp2
          go_roundw
          case rel => exact ⟨i + 1, by omega, by go_num, HY, B2⟩
          case measure => simp [intOf]; omega
        · have HN := hide1 (hno.out (fun h => d2 (h d1)))
          have q : (optI (srchC l ky).1 != (i : Int)) = true := by simp; intro h; exact d2 (optI_eq.1 h)
          generalize optI (srchC l ky).1 = r at *
          clear hyes hno d1 d2
          go_wp2
          go_ret
          exact ⟨false, rfl, ⟨(fun h => by cases h), fun h => absurd h HN.out⟩, B2.out⟩
    · have HY := hide1 (show Found l from fun j hj => hok.out j hj (by omega))
      clear hok
      go_wp2
      go_ret
      exact ⟨true, rfl, ⟨(fun _ => HY.out), fun _ => rfl⟩, hbel.out⟩
end Go.Proofs.Ytahglnojllkjdaa
