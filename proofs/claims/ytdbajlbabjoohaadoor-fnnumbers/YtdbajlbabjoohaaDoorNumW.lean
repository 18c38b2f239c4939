/- What VarText, Decimal, ShortText and Hex write of a drawn number and text is read back, whatever is drawn, where the library's table of powers of ten is as its text lays it. -/
import Derived.Test.YtdbajlbabjoohaaDoorDrawN
import Derived.Test.YtdbajlbabjoohaaDoorBack
namespace Go.Proofs.YtdbajlbabjoohaaDoor
open Go.RowKit

theorem Code.mono {B B' : Nat} {w : World} {a : Option Addr} {len : Nat} (h : Code B w a len) (hB : B ≤ B') : Code B' w a len :=
  ⟨h.le, fun j hj => by obtain ⟨b, o, v, h1, h2, h3, h4⟩ := h.cells j hj; exact ⟨b, o, v, h1, by omega, h3, h4⟩⟩

/-- VarText, and ReadVar behind one byte. -/
theorem var_pair (n : Nat) (h : n ≤ 1000000000) : ∃ (A : ByteArray) (q : Int), A.size ≤ 5 ∧ Hid (q = 1 + (A.size : Int)) ∧
    (∀ w, Calls Tryd.prog 6 #[.int .i64 (n : Int)] w fun e w' => e = .returned (.tuple #[.string A, .bool true]) ∧ Below w.heap.size w w') ∧
    (∀ w, Calls Tryd.prog 7 #[.string (⟨#[120]⟩ ++ A ++ ⟨#[121]⟩), .int .i64 1] w fun e w' => e = .returned (.tuple #[.int .i64 (n : Int), .int .i64 q, .bool true]) ∧ w = w') := by
  have hl := varB_len5 n h
  have hs : (⟨(varB n).toArray⟩ : ByteArray).size = (varB n).length := by show (varB n).toArray.size = _; rw [List.size_toArray]
  refine ⟨⟨(varB n).toArray⟩, ((1 + (varB n).length : Nat) : Int), by omega, ?_, fun w => ?_, fun w => ?_⟩
  · show ((1 + (varB n).length : Nat) : Int) = _; rw [hs]; omega
  · have := implVarText_any (n : Int) w
    rw [varText_yes (by omega) (by omega), Int.toNat_natCast] at this
    exact this
  · have hz : (⟨#[120]⟩ ++ (⟨(varB n).toArray⟩ : ByteArray) ++ ⟨#[121]⟩).size ≤ 1048576 := by
      rw [ByteArray.size_append, ByteArray.size_append, hs]
      show 1 + (varB n).length + 1 ≤ _
      omega
    have := implReadVar_any (⟨#[120]⟩ ++ (⟨(varB n).toArray⟩ : ByteArray) ++ ⟨#[121]⟩) 1 w hz
    rw [var_back1 n h _ (by simp [ByteArray.data_append])] at this
    refine this.mono ?_
    rintro e w' ⟨rfl, rfl⟩
    exact ⟨rfl, rfl⟩

/-- Decimal, and ReadDecimal. -/
theorem dec_pair (n : Nat) (h : n ≤ 1000000000) : ∃ z : ByteArray,
    (∀ w, Tens w → Calls Tryd.prog 9 #[.int .i64 (n : Int)] w fun e w' => e = .returned (.string z) ∧ Below w.heap.size w w') ∧
    (∀ w, Tens w → Calls Tryd.prog 8 #[.string z] w fun e w' => e = .returned (.tuple #[.int .i64 (n : Int), .bool true]) ∧ Below w.heap.size w w') := by
  refine ⟨⟨(Lib.itoa (n : Int)).toArray⟩, fun w ht => implDecimal_any (n : Int) (by omega) (by omega) w ht, fun w ht => ?_⟩
  have hs : (⟨(Lib.itoa (n : Int)).toArray⟩ : ByteArray).size ≤ 1048576 := by
    show (Lib.itoa (n : Int)).toArray.size ≤ _
    rw [List.size_toArray, Lib.itoa_nonneg]
    have := dec_len10 n h
    omega
  have := implReadDec_any _ w hs ht
  rw [dec_back n h] at this
  exact this

/-- ShortText, and ReadShort. -/
theorem short_pair (t : ByteArray) (h : t.size ≤ 300) : ∃ (S : ByteArray) (q : Int), S.size ≤ 20000 ∧ Hid (q = (S.size : Int)) ∧
    (∀ w, Calls Tryd.prog 11 #[.string t] w fun e w' => e = .returned (.tuple #[.string S, .bool true]) ∧ Below w.heap.size w w') ∧
    (∀ w, Calls Tryd.prog 12 #[.string S, .int .i64 0] w fun e w' => e = .returned (.tuple #[.string t, .int .i64 q, .bool true]) ∧ Below w.heap.size w w') := by
  obtain ⟨j, hj, e1, e2⟩ := short_back t (by omega)
  have hl := varB_len5 t.size (by omega)
  have hz : ((⟨(varB t.size).toArray⟩ : ByteArray) ++ t).size = (varB t.size).length + t.size := by rw [ByteArray.size_append]; rfl
  have c1 : ∀ w, Calls Tryd.prog 11 #[.string t] w fun e w' => e = .returned (.tuple #[.string (⟨(varB t.size).toArray⟩ ++ t), .bool true]) ∧ Below w.heap.size w w' := by
    intro w
    have := implShort_any t w (by omega)
    unfold shortV at this
    rw [if_pos (by omega)] at this
    exact this
  generalize ((⟨(varB t.size).toArray⟩ : ByteArray) ++ t) = S at e1 e2 hz c1
  have hS : S.size ≤ 1048576 := by omega
  refine ⟨S, (j : Int) + (t.size : Int), by omega, ?_, c1, fun w => ?_⟩
  · show (j : Int) + (t.size : Int) = _; rw [hz]; omega
  · have hbd : ∀ n k, (some (t.size, j) : Option (Nat × Nat)) = some (n, k) → n ≤ 1000000000 ∧ k ≤ S.size := by
      intro n k hk
      simp only [Option.some.injEq, Prod.mk.injEq] at hk
      omega
    have := implReadShort_any S 0 w hS (some (t.size, j)) e1 hbd
    rw [e2] at this
    exact this

/-- Hex, and Unhex. -/
theorem hex_pair (t : ByteArray) (h : t.size ≤ 300) : ∃ z : ByteArray,
    (∀ w, Calls Tryd.prog 13 #[.string t] w fun e w' => e = .returned (.tuple #[.string z, .bool true]) ∧ Below w.heap.size w w') ∧
    (∀ w, Calls Tryd.prog 14 #[.string z] w fun e w' => e = .returned (.tuple #[.string t, .bool true]) ∧ Below w.heap.size w w') := by
  refine ⟨⟨(hexL (byt t) t.size).toArray⟩, fun w => ?_, fun w => ?_⟩
  · have := implHex_any t w (by omega)
    unfold hexV at this
    rw [if_pos (by omega)] at this
    exact this
  · have := implUnhex_any ⟨(hexL (byt t) t.size).toArray⟩ w (by show (hexL (byt t) t.size).toArray.size ≤ _; rw [List.size_toArray, hexL_length]; omega)
    rw [hex_back t (by omega)] at this
    exact this

theorem big_no (a : Option Addr) (len cap : Nat) (w : World) (h : len ≤ 1048576) : Calls Tryd.prog 4 #[.slice a len cap] w fun e w' => e = .returned (.bool false) ∧ w = w' := by
  have q : decide ((1048576 : Int) < (len : Int)) = false := by simp; omega
  go_enter Tryd.func4, Tryd.ntmps4
  go_wp2
  go_ret
  exact ⟨rfl, rfl⟩
theorem big_yes (a : Option Addr) (len cap : Nat) (w : World) (h : ¬ len ≤ 1048576) : Calls Tryd.prog 4 #[.slice a len cap] w fun e w' => e = .returned (.bool true) ∧ w = w' := by
  have q : decide ((1048576 : Int) < (len : Int)) = true := by simp; omega
  go_enter Tryd.func4, Tryd.ntmps4
  go_wp2
  go_ret
  exact ⟨rfl, rfl⟩
end Go.Proofs.YtdbajlbabjoohaaDoor
