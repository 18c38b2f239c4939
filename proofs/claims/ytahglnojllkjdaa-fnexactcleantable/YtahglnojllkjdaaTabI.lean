/- The smallest functions on tables, by the program: sizes, keys, cells that fit, counting. -/
import Derived.Test.YtahglnojllkjdaaTabP
namespace Go.Proofs.Ytahglnojllkjdaa
open Go.RowKit

theorem sizeFits_any (n : Int) (w : World) : Calls Try.prog 44 #[.int .i64 n] w fun e w' => ∃ x : Bool, e = .returned (.bool x) ∧ (x = true ↔ n = 4 ∨ n = 8 ∨ n = 16 ∨ n = 32 ∨ n = 64) ∧ w = w' := by
  by_cases c0 : n = 4
  · subst c0
    go_enter Try.func44, Try.ntmps44
    go_wp2
    go_ret
    first | exact ⟨true, rfl, by simp, rfl⟩ | exact .inr ⟨rfl, by simp, rfl⟩
  · have q0 : (n == 4) = false := by simpa using c0
    by_cases c1 : n = 8
    · subst c1
      clear c0
      go_enter Try.func44, Try.ntmps44
      go_wp2
      go_ret
      first | exact ⟨true, rfl, by simp, rfl⟩ | exact .inr ⟨rfl, by simp, rfl⟩
    · have q1 : (n == 8) = false := by simpa using c1
      by_cases c2 : n = 16
      · subst c2
        clear c0
        clear c1
        go_enter Try.func44, Try.ntmps44
        go_wp2
        go_ret
        first | exact ⟨true, rfl, by simp, rfl⟩ | exact .inr ⟨rfl, by simp, rfl⟩
      · have q2 : (n == 16) = false := by simpa using c2
        by_cases c3 : n = 32
        · subst c3
          clear c0
          clear c1
          clear c2
          go_enter Try.func44, Try.ntmps44
          go_wp2
          go_ret
          first | exact ⟨true, rfl, by simp, rfl⟩ | exact .inr ⟨rfl, by simp, rfl⟩
        · have q3 : (n == 32) = false := by simpa using c3
          by_cases c4 : n = 64
          · subst c4
            clear c0
            clear c1
            clear c2
            clear c3
            go_enter Try.func44, Try.ntmps44
            go_wp2
            go_ret
            first | exact ⟨true, rfl, by simp, rfl⟩ | exact .inr ⟨rfl, by simp, rfl⟩
          · have q4 : (n == 64) = false := by simpa using c4
            have HN := hide1 (show ¬ (n = 4 ∨ n = 8 ∨ n = 16 ∨ n = 32 ∨ n = 64) by omega)
            clear c0 c1 c2 c3 c4
            go_enter Try.func44, Try.ntmps44
            go_wp2
            go_ret
            first | exact ⟨false, rfl, ⟨(fun h => by cases h), fun h => absurd h HN.out⟩, rfl⟩ | exact .inl ⟨rfl, HN.out, rfl⟩

theorem specSize_any (n : Int) (w : World) : Calls Try.prog 42 #[.int .i64 n] w fun e w' => ∃ x : Bool, e = .returned (.bool x) ∧ (x = true ↔ n = 4 ∨ n = 8 ∨ n = 16 ∨ n = 32 ∨ n = 64) ∧ w = w' := by
  by_cases c0 : n = 4
  · subst c0
    go_enter Try.func42, Try.ntmps42
    go_wp2
    go_ret
    first | exact ⟨true, rfl, by simp, rfl⟩ | exact .inr ⟨rfl, by simp, rfl⟩
  · have q0 : (n == 4) = false := by simpa using c0
    by_cases c1 : n = 8
    · subst c1
      clear c0
      go_enter Try.func42, Try.ntmps42
      go_wp2
      go_ret
      first | exact ⟨true, rfl, by simp, rfl⟩ | exact .inr ⟨rfl, by simp, rfl⟩
    · have q1 : (n == 8) = false := by simpa using c1
      by_cases c2 : n = 16
      · subst c2
        clear c0
        clear c1
        go_enter Try.func42, Try.ntmps42
        go_wp2
        go_ret
        first | exact ⟨true, rfl, by simp, rfl⟩ | exact .inr ⟨rfl, by simp, rfl⟩
      · have q2 : (n == 16) = false := by simpa using c2
        by_cases c3 : n = 32
        · subst c3
          clear c0
          clear c1
          clear c2
          go_enter Try.func42, Try.ntmps42
          go_wp2
          go_ret
          first | exact ⟨true, rfl, by simp, rfl⟩ | exact .inr ⟨rfl, by simp, rfl⟩
        · have q3 : (n == 32) = false := by simpa using c3
          by_cases c4 : n = 64
          · subst c4
            clear c0
            clear c1
            clear c2
            clear c3
            go_enter Try.func42, Try.ntmps42
            go_wp2
            go_ret
            first | exact ⟨true, rfl, by simp, rfl⟩ | exact .inr ⟨rfl, by simp, rfl⟩
          · have q4 : (n == 64) = false := by simpa using c4
            have HN := hide1 (show ¬ (n = 4 ∨ n = 8 ∨ n = 16 ∨ n = 32 ∨ n = 64) by omega)
            clear c0 c1 c2 c3 c4
            go_enter Try.func42, Try.ntmps42
            go_wp2
            go_ret
            first | exact ⟨false, rfl, ⟨(fun h => by cases h), fun h => absurd h HN.out⟩, rfl⟩ | exact .inl ⟨rfl, HN.out, rfl⟩

/-- A key that an entry may have. -/
def keyOk (k : ByteArray) : Bool := decide (1 ≤ k.size) && decide (k.size ≤ 12)
theorem keyOk_iff (k : ByteArray) : keyOk k = true ↔ 1 ≤ k.size ∧ k.size ≤ 12 := by simp [keyOk]
theorem size_toList (k : ByteArray) : k.toList.length = k.size := by rw [ByteArray.toList_eq]; simp
theorem keyOk_ne {k : ByteArray} (h : keyOk k = true) : k.toList ≠ [] := by
  intro e
  have := size_toList k
  rw [e] at this
  have := (keyOk_iff k).1 h
  simp at *
  omega
theorem size_pos {k : ByteArray} (h : k.toList ≠ []) : 1 ≤ k.size := by
  have := size_toList k
  have := List.length_pos_iff.2 h
  omega

theorem keyFits_any (k : ByteArray) (w : World) : Calls Try.prog 59 #[.string k] w fun e w' => e = .returned (.bool (keyOk k)) ∧ w' = w := by
  by_cases h1 : 1 ≤ k.size
  · by_cases h2 : k.size ≤ 12
    · have HF := hide1 (show keyOk k = true by simp [keyOk, h1, h2])
      go_enter Try.func59, Try.ntmps59
      go_wp2
      go_ret
      exact ⟨by rw [HF.out]; first | rfl | (show Ending.returned (.bool (decide ((k.size : Int) ≤ 12))) = _; rw [decide_eq_true (by omega)]), rfl⟩
    · have HF := hide1 (show keyOk k = false by simp [keyOk, h2])
      go_enter Try.func59, Try.ntmps59
      go_wp2
      go_ret
      exact ⟨by rw [HF.out]; first | rfl | (show Ending.returned (.bool (decide ((k.size : Int) ≤ 12))) = _; rw [decide_eq_false (by omega)]), rfl⟩
  · have HF := hide1 (show keyOk k = false by simp [keyOk, h1])
    go_enter Try.func59, Try.ntmps59
    go_wp2
    go_ret
    exact ⟨by rw [HF.out]; rfl, rfl⟩

set_option maxRecDepth 100000 in
set_option maxHeartbeats 1000000 in
theorem cellsFit_any (ao : Option Addr) (l : List Ce) (ca : Nat) (w : World) (hl : l.length ≤ 1048576) (hA : RdJ w ao l) :
    Calls Try.prog 79 #[.slice ao l.length ca] w fun e w' => ∃ x : Bool, e = .returned (.bool x) ∧ (x = true ↔ FitC l) ∧ Below w.heap.size w w' := by
  have HA := hide1 hA
  clear hA
  go_enter Try.func79, Try.ntmps79
  go_wp2
  go_loopw [8] (fun iv wr => ∃ i : Nat, i ≤ l.length ∧ iv = .int .i64 (i : Int) ∧ Hid (∀ j (h : j < l.length), j < i → fitC l[j]) ∧ Hid (Below w.heap.size w wr)) (fun iv _ => l.length - (intOf iv).toNat)
  case atStart => exact ⟨0, by omega, rfl, fun j _ h => by omega, Below.refl _ _⟩
  case round =>
    obtain ⟨i, hi, rfl, hok, hbel⟩ := hrel
    by_cases hlt : i < l.length
    · have k1 : (i : Int) < (l.length : Int) := by omega
      obtain ⟨b, o, hao, hb, h1⟩ := HA.out i hlt
      obtain ⟨x0, x1⟩ := h1.below hbel.out hb
      have hno := hide1 (fun (h : ¬ fitC l[i]) (hr : FitC l) => h (hr i hlt))
      have hyes := hide1 (fun (h : fitC l[i]) j (hj : j < l.length) (hj2 : j < i + 1) => show fitC l[j] by
        by_cases e : j < i
        · exact hok.out j hj e
        · obtain rfl : j = i := by omega
          exact h)
      have CK := hide1 (fun w => keyFits_any l[i].key w)
      generalize l[i] = s at *
      obtain ⟨ky, hh⟩ := s
      simp only at x0 x1 CK
      have BX : Hid (Below w.heap.size w (wr.alloc (.cells #[.string ky, .int .i64 hh] 65))) := hbel.out.alloc hbel.out.size _
      have NN : Hid ((wr.alloc (.cells #[.string ky, .int .i64 hh] 65)).cell? ⟨wr.heap.size, 0, none⟩ = some (.string ky) ∧ (wr.alloc (.cells #[.string ky, .int .i64 hh] 65)).cell? ⟨wr.heap.size, 1, none⟩ = some (.int .i64 hh)) := ⟨World.cell?_alloc_at _ _ _ _ rfl, World.cell?_alloc_at _ _ _ _ rfl⟩
      rw [hao]
      clear h1 hok hao
      go_upto_region 4 with fail
      generalize (wr.alloc (.cells #[.string ky, .int .i64 hh] 65)) = wv at NN BX ⊢
      obtain ⟨n0, n1⟩ := NN.out
      clear NN x0 x1 hbel
      by_cases d1 : ky.toList = []
      · have b1 : ky.toList.isEmpty = true := by rw [d1]; rfl
        by_cases d2 : hh = -1
        · have b2 : (hh == (-1 : Int)) = true := by simp [d2]
          have HY := hide1 (hyes.out (.inl ⟨d1, .inl d2⟩))
          clear hyes hno d1 d2
          go_wp2
          go_roundw
          case rel => exact ⟨i + 1, by omega, by go_num, HY, BX⟩
          case measure => simp [intOf]; omega
        · have b2 : (hh == (-1 : Int)) = false := by simp [d2]
          by_cases d3 : hh = -2
          · have b3 : (hh == (-2 : Int)) = true := by simp [d3]
            have HY := hide1 (hyes.out (.inl ⟨d1, .inr d3⟩))
            clear hyes hno d1 d2 d3
            go_wp2
            go_roundw
            case rel => exact ⟨i + 1, by omega, by go_num, HY, BX⟩
            case measure => simp [intOf]; omega
          · have b3 : (hh == (-2 : Int)) = false := by simp [d3]
            have HN := hide1 (hno.out (fun h => by rcases h with ⟨_, h | h⟩ | ⟨h, _⟩ <;> first | exact d2 h | exact d3 h | exact h d1))
            have hkf : keyOk ky = false := by
              cases e : keyOk ky with
              | false => rfl
              | true => exact absurd d1 (keyOk_ne e)
            rw [hkf] at CK
            clear hyes hno d1 d2 d3 hkf
            go_wp2_with fail
            refine (CK.out _).mono ?_
            rintro e w1 ⟨rfl, rfl⟩
            go_wp2
            go_ret
            exact ⟨false, rfl, ⟨(fun h => by cases h), fun h => absurd h HN.out⟩, BX.out⟩
      · have b1 : ky.toList.isEmpty = false := by cases h : ky.toList with | nil => exact absurd h d1 | cons a b => rfl
        by_cases d4 : ky.size ≤ 12
        · have hkf : keyOk ky = true := (keyOk_iff ky).2 ⟨size_pos d1, d4⟩
          rw [hkf] at CK
          by_cases d5 : 0 ≤ hh
          · have b5 : decide (0 ≤ hh) = true := decide_eq_true d5
            have HY := hide1 (hyes.out (.inr ⟨d1, d4, d5⟩))
            clear hyes hno d1 d4 d5 hkf
            go_wp2_with fail
            refine (CK.out _).mono ?_
            rintro e w1 ⟨rfl, rfl⟩
            go_wp2
            go_roundw
            case rel => exact ⟨i + 1, by omega, by go_num, HY, BX⟩
            case measure => simp [intOf]; omega
          · have b5 : decide (0 ≤ hh) = false := decide_eq_false d5
            have HN := hide1 (hno.out (fun h => by rcases h with ⟨h, _⟩ | ⟨_, _, h⟩ <;> first | exact d1 h | exact d5 h))
            clear hyes hno d1 d4 d5 hkf
            go_wp2_with fail
            refine (CK.out _).mono ?_
            rintro e w1 ⟨rfl, rfl⟩
            go_wp2
            go_ret
            exact ⟨false, rfl, ⟨(fun h => by cases h), fun h => absurd h HN.out⟩, BX.out⟩
        · have hkf : keyOk ky = false := by
            cases e : keyOk ky with
            | false => rfl
            | true => exact absurd ((keyOk_iff ky).1 e).2 d4
          rw [hkf] at CK
          have HN := hide1 (hno.out (fun h => by rcases h with ⟨h, _⟩ | ⟨_, h, _⟩ <;> first | exact d1 h | exact d4 h))
          clear hyes hno d1 d4 hkf
          go_wp2_with fail
          refine (CK.out _).mono ?_
          rintro e w1 ⟨rfl, rfl⟩
          go_wp2
          go_ret
          exact ⟨false, rfl, ⟨(fun h => by cases h), fun h => absurd h HN.out⟩, BX.out⟩
    · have HY := hide1 (show FitC l from fun j hj => hok.out j hj (by omega))
      clear hok
      go_wp2
      go_ret
      exact ⟨true, rfl, ⟨(fun _ => HY.out), fun _ => rfl⟩, hbel.out⟩

set_option maxRecDepth 100000 in
set_option maxHeartbeats 1000000 in
theorem countNone_any {w : World} {r : Nat} {vo vm : Value} (ao : Option Addr) (l : List Ce) (ca : Nat) (hK : Blk w r 71 [.slice ao l.length ca, vo, vm]) (hl : l.length ≤ 1048576) (hA : RdJ w ao l) :
    Calls Try.prog 74 #[.pointer (some ⟨r, 0, none⟩)] w fun e w' => e = .returned (.int .i64 (cntN l l.length : Int)) ∧ Below w.heap.size w w' := by
  have HA := hide1 hA
  have v0 : w.cell? ⟨r, 0, none⟩ = some (.slice ao l.length ca) := hK.cell 0
  clear hA hK
  go_enter Try.func74, Try.ntmps74
  go_wp2
  go_loopw [3, 11] (fun cv iv wr => ∃ i n : Nat, i ≤ l.length ∧ n ≤ i ∧ iv = .int .i64 (i : Int) ∧ cv = .int .i64 (n : Int) ∧ Hid (n = cntN l i) ∧ Hid (Below w.heap.size w wr)) (fun _ iv _ => l.length - (intOf iv).toNat)
  case atStart => exact ⟨0, 0, by omega, by omega, rfl, rfl, rfl, Below.refl _ _⟩
  case round =>
    obtain ⟨i, n, hi, hn, rfl, rfl, hcn, hbel⟩ := hrel
    by_cases hlt : i < l.length
    · have k1 : (i : Int) < (l.length : Int) := by omega
      obtain ⟨b, o, hao, hb, h1⟩ := HA.out i hlt
      obtain ⟨x0, x1⟩ := h1.below hbel.out hb
      have hnx : Hid (cntN l (i + 1) = n + (if l[i].h = -1 then 1 else 0)) := by
        show cntN l (i + 1) = _
        rw [cntN, List.getElem?_eq_getElem hlt, hcn.out]
      generalize l[i] = s at *
      obtain ⟨ky, hh⟩ := s
      simp only at x0 x1 hnx
      have BX : Hid (Below w.heap.size w (wr.alloc (.cells #[.string ky, .int .i64 hh] 65))) := hbel.out.alloc hbel.out.size _
      have NN : Hid ((wr.alloc (.cells #[.string ky, .int .i64 hh] 65)).cell? ⟨wr.heap.size, 0, none⟩ = some (.string ky) ∧ (wr.alloc (.cells #[.string ky, .int .i64 hh] 65)).cell? ⟨wr.heap.size, 1, none⟩ = some (.int .i64 hh)) := ⟨World.cell?_alloc_at _ _ _ _ rfl, World.cell?_alloc_at _ _ _ _ rfl⟩
      rw [hao]
      clear h1 hao v0 hcn
      go_upto_region 5 with fail
      generalize (wr.alloc (.cells #[.string ky, .int .i64 hh] 65)) = wv at NN BX ⊢
      obtain ⟨n0, n1⟩ := NN.out
      clear NN x0 x1 hbel
      by_cases d2 : hh = -1
      · have b2 : (hh == (-1 : Int)) = true := by simp [d2]
        have HY : Hid (n + 1 = cntN l (i + 1)) := by show n + 1 = _; rw [hnx.out, if_pos d2]
        clear d2 hnx
        go_wp2
        go_roundw
        case rel => exact ⟨i + 1, n + 1, by omega, by omega, by go_num, by go_num, HY, BX⟩
        case measure => simp [intOf]; omega
      · have b2 : (hh == (-1 : Int)) = false := by simp [d2]
        have HY : Hid (n = cntN l (i + 1)) := by show n = _; rw [hnx.out, if_neg d2]; rfl
        clear d2 hnx
        go_wp2
        go_roundw
        case rel => exact ⟨i + 1, n, by omega, by omega, by go_num, rfl, HY, BX⟩
        case measure => simp [intOf]; omega
    · obtain rfl : i = l.length := by omega
      clear v0
      go_wp2
      go_ret
      exact ⟨by rw [← hcn.out]; rfl, hbel.out⟩
end Go.Proofs.Ytahglnojllkjdaa
