/- What chapter 1 writes is read back: plain facts on the two functions of each pair; no condition but the limits. -/
import Derived.Test.YtdbajlbabjoohaaDoorShort
import Derived.Test.YtdbajlbabjoohaaDoorHex
import Derived.Test.YtdbajlbabjoohaaDoorUnhex
import Derived.Test.YtdbajlbabjoohaaDoorReadDec
namespace Go.Proofs.YtdbajlbabjoohaaDoor
open Go.RowKit

theorem byt_list (l : List UInt8) (k : Nat) : byt ⟨l.toArray⟩ k = (l[k]?.getD 0).toNat := rfl

theorem varF_len (f : Nat) : ∀ (k m : Nat), 0 < k → m < 128 ^ k → (varF f m).length ≤ k := by
  induction f with
  | zero => intro k m hk _; simp [varF]; omega
  | succ f ih =>
    intro k m hk hm
    rw [varF]
    split
    · cases k with
      | zero => omega
      | succ k =>
        by_cases c : k = 0
        · subst c; omega
        · have := ih k (m / 128) (by omega) (by rw [Nat.pow_succ] at hm; omega)
          simp; omega
    · simp; omega

theorem ofNat_lt (n : Nat) (h : n < 256) : (UInt8.ofNat n).toNat = n := by rw [UInt8.toNat_ofNat']; omega

/-- A number that stands in a text from the place i on is read there. -/
theorem rd_var (t : Nat → Nat) (len : Nat) : ∀ (f g m i acc wt : Nat), (varF f m).length ≤ g → (∀ j b, (varF f m)[j]? = some b → i + j < len ∧ t (i + j) = b.toNat) → m < 128 ^ (f + 1) → acc + m * wt ≤ 1000000000 → (wt = 1 ∨ 0 < m) →
    rdF t len g i acc wt = some (acc + m * wt, i + (varF f m).length)
  | f, g, m, i, acc, wt, hg, ht, hm, hb, hw => by
    by_cases c : 127 < m
    · cases f with
      | zero => omega
      | succ f =>
        rw [varF_big f m c] at hg ht ⊢
        cases g with
        | zero => simp at hg
        | succ g =>
          have h0 := ht 0 _ (by rfl)
          rw [ofNat_lt _ (by omega), Nat.add_zero] at h0
          have e1 : (m % 128 + 128) % 128 = m % 128 := by omega
          have e2 : m % 128 * wt + m / 128 * (wt * 128) = m * wt := by
            have := Nat.div_add_mod m 128
            rw [show m / 128 * (wt * 128) = 128 * (m / 128) * wt from by rw [Nat.mul_comm wt 128, ← Nat.mul_assoc, Nat.mul_comm (m / 128) 128], Nat.add_comm, ← Nat.add_mul, this]
          have ih := rd_var t len f g (m / 128) (i + 1) (acc + m % 128 * wt) (wt * 128) (by simpa using hg)
            (fun j b hj => by
              have := ht (j + 1) b (by simpa using hj)
              rw [show i + 1 + j = i + (j + 1) by omega]; exact this)
            (by rw [Nat.pow_succ] at hm; omega) (by omega) (.inr (by omega))
          rw [rdF, if_pos h0.1, if_pos (by rw [h0.2]; omega), h0.2, e1, ih]
          simp only [List.length_cons]
          rw [show acc + m % 128 * wt + m / 128 * (wt * 128) = acc + m * wt by omega, show i + 1 + (varF f (m / 128)).length = i + ((varF f (m / 128)).length + 1) by omega]
    · rw [varF_small f m (by omega)] at hg ht ⊢
      cases g with
      | zero => simp at hg
      | succ g =>
        have h0 := ht 0 _ (by rfl)
        rw [ofNat_lt _ (by omega), Nat.add_zero] at h0
        have e1 : m % 128 = m := by omega
        rw [rdF, if_pos h0.1, if_neg (by rw [h0.2]; exact c), h0.2, e1, if_neg (by omega)]
        rfl

theorem varB_len5 (n : Nat) (h : n ≤ 1000000000) : (varB n).length ≤ 5 := varF_len 9 5 n (by omega) (by omega)
/-- A text that holds the bytes of n from the place p on. -/
theorem read_back (s : ByteArray) (p n : Nat) (h : n ≤ 1000000000) (hs : ∀ j b, (varB n)[j]? = some b → s.data.toList[p + j]? = some b) (hp : p + (varB n).length ≤ s.size) : readVarV s (p : Int) = rdV (some (n, p + (varB n).length)) := by
  rw [readVarV_in (by omega)]
  have hl := varB_len5 n h
  rw [rd_var (byt s) s.size 9 5 n p 0 1 hl (fun j b hj => ?_) (by omega) (by omega) (.inl rfl)]
  · simp; rfl
  · have := hs j b hj
    refine ⟨?_, ?_⟩
    · have := (List.getElem?_eq_some_iff.1 hj).1
      have hv : (varF 9 n).length = (varB n).length := rfl
      omega
    · unfold byt; rw [this]; rfl

theorem ba_ext {s t : ByteArray} (h : s.data.toList = t.data.toList) : s = t := by
  apply ByteArray.ext
  exact Array.toList_inj.1 h

theorem var_back1 (n : Nat) (h : n ≤ 1000000000) (s : ByteArray) (hs : s.data.toList = 120 :: (varB n ++ [121])) : readVarV s 1 = rdV (some (n, 1 + (varB n).length)) := by
  have hl : s.size = (varB n).length + 2 := by
    show s.data.size = _
    rw [← Array.length_toList, hs]; simp
  refine read_back s 1 n h (fun j b hj => ?_) (by omega)
  have hj2 := (List.getElem?_eq_some_iff.1 hj).1
  rw [hs, Nat.add_comm 1 j, List.getElem?_cons_succ, List.getElem?_append_left hj2]
  exact hj

theorem short_back (t : ByteArray) (h : t.size ≤ 20000) : ∃ j : Nat, j = (varB t.size).length ∧ readVarV (⟨(varB t.size).toArray⟩ ++ t) 0 = rdV (some (t.size, j)) ∧ readShortV (⟨(varB t.size).toArray⟩ ++ t) (some (t.size, j)) = .tuple #[.string t, .int .i64 ((j : Int) + (t.size : Int)), .bool true] := by
  refine ⟨_, rfl, ?_, ?_⟩
  · have hd : ((⟨(varB t.size).toArray⟩ : ByteArray) ++ t).data.toList = varB t.size ++ t.data.toList := by simp [ByteArray.data_append]
    have hz : ((⟨(varB t.size).toArray⟩ : ByteArray) ++ t).size = (varB t.size).length + t.size := by rw [ByteArray.size_append]; rfl
    have := read_back (⟨(varB t.size).toArray⟩ ++ t) 0 t.size (by omega) (fun j b hj => by
      have hj2 := (List.getElem?_eq_some_iff.1 hj).1
      rw [hd, Nat.zero_add, List.getElem?_append_left hj2]; exact hj) (by omega)
    rw [Nat.zero_add] at this
    exact this
  · have hz : ((⟨(varB t.size).toArray⟩ : ByteArray) ++ t).size = (varB t.size).length + t.size := by rw [ByteArray.size_append]; rfl
    rw [readShortV_yes h (by omega)]
    have e : ((⟨(varB t.size).toArray⟩ : ByteArray) ++ t).extract (varB t.size).length ((varB t.size).length + t.size) = t := by
      apply ba_ext
      rw [ByteArray.data_extract, ByteArray.data_append]
      simp
      exact List.take_of_length_le (by rw [Array.length_toList]; exact Nat.le_refl _)
    rw [e]

theorem fig_wv : ∀ x : Fin 16, wv true (fig x.val).toNat = some x.val := by decide +kernel
theorem fig_at (t : Nat → Nat) : ∀ k j, j < k → (hexL t k)[2 * j]? = some (fig (t j / 16)) ∧ (hexL t k)[2 * j + 1]? = some (fig (t j % 16))
  | 0, j, h => by omega
  | k + 1, j, h => by
    have hl := hexL_length t k
    by_cases c : j < k
    · have := fig_at t k j c
      rw [hexL, List.getElem?_append_left (by omega), List.getElem?_append_left (by omega)]
      exact this
    · obtain rfl : j = k := by omega
      rw [hexL, List.getElem?_append_right (by omega), List.getElem?_append_right (by omega), hl]
      simp
theorem gd_fig (x : Nat) (h : x < 16) : gd (fig x).toNat = x := by
  unfold gd; rw [fig_wv ⟨x, h⟩]; rfl
theorem hex_back (t : ByteArray) (h : t.size ≤ 20000) : unhexV ⟨(hexL (byt t) t.size).toArray⟩ = .tuple #[.string t, .bool true] := by
  have hsz : (⟨(hexL (byt t) t.size).toArray⟩ : ByteArray).size = 2 * t.size := by
    show (hexL (byt t) t.size).toArray.size = _
    rw [List.size_toArray, hexL_length]
  have hat : ∀ j, j < t.size → byt ⟨(hexL (byt t) t.size).toArray⟩ (2 * j) = (fig (byt t j / 16)).toNat ∧ byt ⟨(hexL (byt t) t.size).toArray⟩ (2 * j + 1) = (fig (byt t j % 16)).toNat := by
    intro j hj
    have := fig_at (byt t) t.size j hj
    refine ⟨?_, ?_⟩
    · rw [byt_list (hexL (byt t) t.size), this.1]; rfl
    · rw [byt_list (hexL (byt t) t.size), this.2]; rfl
  have hall : allFig (byt ⟨(hexL (byt t) t.size).toArray⟩) (2 * t.size) := by
    intro j hj
    have h2 := hat (j / 2) (by omega)
    have hb := byt_le t (j / 2)
    rcases Nat.mod_two_eq_zero_or_one j with e | e
    · have f1 : wv true (fig (byt t (j / 2) / 16)).toNat = some (byt t (j / 2) / 16) := fig_wv ⟨byt t (j / 2) / 16, by omega⟩
      have f2 : byt ⟨(hexL (byt t) t.size).toArray⟩ j = (fig (byt t (j / 2) / 16)).toNat := by rw [← h2.1, show 2 * (j / 2) = j by omega]
      rw [f2, f1]; rfl
    · have f1 : wv true (fig (byt t (j / 2) % 16)).toNat = some (byt t (j / 2) % 16) := fig_wv ⟨byt t (j / 2) % 16, by omega⟩
      have f2 : byt ⟨(hexL (byt t) t.size).toArray⟩ j = (fig (byt t (j / 2) % 16)).toNat := by rw [← h2.2, show 2 * (j / 2) + 1 = j by omega]
      rw [f2, f1]; rfl
  rw [unhexV_yes (by omega) (by omega) (by rw [hsz]; exact hall), hsz]
  have hp : ∀ k, k ≤ t.size → pL (byt ⟨(hexL (byt t) t.size).toArray⟩) k = t.data.toList.take k := by
    intro k
    induction k with
    | zero => intro _; simp [pL]
    | succ k ih =>
      intro hk
      have h2 := hat k (by omega)
      have hb := byt_le t k
      rw [pL, ih (by omega), h2.1, h2.2, gd_fig _ (by omega), gd_fig _ (by omega), List.take_add_one, byt_some t k (by omega)]
      rw [show 16 * (byt t k / 16) + byt t k % 16 = byt t k by omega]
      rfl
  have e : (⟨(pL (byt ⟨(hexL (byt t) t.size).toArray⟩) (2 * t.size / 2)).toArray⟩ : ByteArray) = t := by
    apply ba_ext
    rw [show 2 * t.size / 2 = t.size by omega, hp t.size (Nat.le_refl _)]
    exact List.take_of_length_le (by rw [Array.length_toList]; exact Nat.le_refl _)
  rw [e]

theorem dN_congr {t t' : Nat → Nat} : ∀ k, (∀ j, j < k → t j = t' j) → dN t k = dN t' k
  | 0, _ => rfl
  | k + 1, h => by rw [dN, dN, dN_congr k (fun j hj => h j (by omega)), h k (by omega)]
theorem dec_all (f : Nat) : ∀ n, n < 10 ^ f → (∀ b ∈ Lib.decDigits n, 48 ≤ b.toNat ∧ b.toNat ≤ 57) ∧ dN (byt ⟨(Lib.decDigits n).toArray⟩) (Lib.decDigits n).length = n := by
  induction f with
  | zero =>
    intro n hn
    obtain rfl : n = 0 := by simpa using hn
    rw [Lib.decDigits_one (by omega)]
    exact ⟨by intro b hb; simp at hb; subst hb; decide, by decide⟩
  | succ f ih =>
    intro n hn
    by_cases c : n < 10
    · rw [Lib.decDigits_one c]
      refine ⟨?_, ?_⟩
      · intro b hb
        simp only [List.mem_singleton] at hb
        rw [hb, ofNat_lt _ (by omega)]; omega
      · show 10 * 0 + (byt ⟨[UInt8.ofNat (48 + n)].toArray⟩ 0 - 48) = n
        rw [byt_list]
        show 10 * 0 + ((UInt8.ofNat (48 + n)).toNat - 48) = n
        rw [ofNat_lt _ (by omega)]; omega
    · have h := ih (n / 10) (by rw [Nat.pow_succ] at hn; omega)
      rw [Lib.decDigits, dif_neg c]
      refine ⟨?_, ?_⟩
      · intro b hb
        rcases List.mem_append.1 hb with hb | hb
        · exact h.1 b hb
        · simp only [List.mem_singleton] at hb
          rw [hb, ofNat_lt _ (by omega)]; omega
      · rw [List.length_append]
        show 10 * dN _ (Lib.decDigits (n / 10)).length + (byt _ (Lib.decDigits (n / 10)).length - 48) = n
        rw [dN_congr (t' := byt ⟨(Lib.decDigits (n / 10)).toArray⟩) _ (fun j hj => by rw [byt_list, byt_list, List.getElem?_append_left hj]), h.2, byt_list, List.getElem?_append_right (Nat.le_refl _), Nat.sub_self]
        show 10 * (n / 10) + ((UInt8.ofNat (48 + n % 10)).toNat - 48) = n
        rw [ofNat_lt _ (by omega)]; omega
theorem dec_len10 (n : Nat) (h : n ≤ 1000000000) : (Lib.decDigits n).length ≤ 10 := by
  rw [Lib.decDigits_length]
  have key : ∀ f n, n < 10 ^ (f + 1) → Lib.nDigits n ≤ f + 1 := by
    intro f
    induction f with
    | zero => intro n hn; rw [Lib.nDigits_small (by simpa using hn)]; omega
    | succ f ih =>
      intro n hn
      by_cases c : n < 10
      · rw [Lib.nDigits_small c]; omega
      · rw [Lib.nDigits_big c]
        have := ih (n / 10) (by rw [Nat.pow_succ] at hn; omega)
        omega
  exact key 9 n (by omega)
theorem dec_back (n : Nat) (h : n ≤ 1000000000) : rdDec ⟨(Lib.itoa (n : Int)).toArray⟩ = .tuple #[.int .i64 (n : Int), .bool true] := by
  rw [Lib.itoa_nonneg]
  have hsz : (⟨(Lib.decDigits n).toArray⟩ : ByteArray).size = (Lib.decDigits n).length := by
    show (Lib.decDigits n).toArray.size = _
    rw [List.size_toArray]
  have ha := dec_all 10 n (by omega)
  have hl := dec_len10 n h
  have hd : dN (byt ⟨(Lib.decDigits n).toArray⟩) (⟨(Lib.decDigits n).toArray⟩ : ByteArray).size = n := by rw [hsz]; exact ha.2
  rw [rdDec_yes ⟨by omega, ?_, by omega, ?_⟩, hd]
  · intro j hj
    rw [hsz] at hj
    rw [byt_list, List.getElem?_eq_getElem hj]
    exact ha.1 _ (List.getElem_mem hj)
  · rw [hd, Lib.itoa_nonneg, ByteArray.toList_eq]
end Go.Proofs.YtdbajlbabjoohaaDoor
