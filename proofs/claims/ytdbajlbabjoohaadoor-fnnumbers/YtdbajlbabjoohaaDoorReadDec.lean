/- The contracts of the two readers of decimal figures: at every text; the program's own where the library's table of powers of ten is as its text lays it. -/
import Derived.Test.YtdbajlbabjoohaaDoorDecI
import Derived.Test.YtdbajlbabjoohaaDoorWorths
namespace Go.Proofs.YtdbajlbabjoohaaDoor
open Go.RowKit

/-- The number of the first k figures. -/
def dN (t : Nat → Nat) : Nat → Nat
  | 0 => 0
  | k + 1 => 10 * dN t k + (t k - 48)
def digTo (s : ByteArray) (n : Nat) : Prop := ∀ j, j < n → 48 ≤ byt s j ∧ byt s j ≤ 57
theorem dN_lt (s : ByteArray) (k : Nat) (h : digTo s k) : dN (byt s) k < 10 ^ k := by
  induction k with
  | zero => show 0 < 1; omega
  | succ k ih =>
    have := ih (fun j hj => h j (by omega))
    have h2 := h k (by omega)
    rw [dN, Nat.pow_succ]
    omega
theorem dN_bd (s : ByteArray) (k : Nat) (h : digTo s k) (hk : k ≤ 10) : dN (byt s) k < 10000000000 := by
  have h1 := dN_lt s k h
  have h2 : 10 ^ k ≤ 10 ^ 10 := Nat.pow_le_pow_right (by omega) hk
  have h3 : (10 : Nat) ^ 10 = 10000000000 := by decide
  omega
def rdB (s : ByteArray) : Bool := decide (s.size ≤ 10) && (((List.range s.size).all fun j => decide (48 ≤ byt s j) && decide (byt s j ≤ 57)) && (decide (dN (byt s) s.size ≤ 1000000000) && (Lib.itoa (dN (byt s) s.size : Int) == s.toList)))
theorem rdB_iff (s : ByteArray) : rdB s = true ↔ s.size ≤ 10 ∧ digTo s s.size ∧ dN (byt s) s.size ≤ 1000000000 ∧ Lib.itoa (dN (byt s) s.size : Int) = s.toList := by
  unfold rdB digTo
  simp [List.all_eq_true]
def rdDec (s : ByteArray) : Value := if rdB s = true then .tuple #[.int .i64 (dN (byt s) s.size : Int), .bool true] else .tuple #[.int .i64 0, .bool false]
theorem rdDec_yes {s : ByteArray} (h : s.size ≤ 10 ∧ digTo s s.size ∧ dN (byt s) s.size ≤ 1000000000 ∧ Lib.itoa (dN (byt s) s.size : Int) = s.toList) : rdDec s = .tuple #[.int .i64 (dN (byt s) s.size : Int), .bool true] := by
  unfold rdDec; rw [if_pos ((rdB_iff s).2 h)]
theorem rdDec_no {s : ByteArray} (h : ¬ (s.size ≤ 10 ∧ digTo s s.size ∧ dN (byt s) s.size ≤ 1000000000 ∧ Lib.itoa (dN (byt s) s.size : Int) = s.toList)) : rdDec s = .tuple #[.int .i64 0, .bool false] := by
  unfold rdDec; rw [if_neg (fun e => h ((rdB_iff s).1 e))]

theorem wv_some_digit {x : Nat} (h : (wv false x).isSome = true) : 48 ≤ x ∧ x ≤ 57 ∧ wv false x = some (x - 48) := by
  by_cases c : 48 ≤ x ∧ x ≤ 57
  · exact ⟨c.1, c.2, wv_digit c.1 c.2⟩
  · rw [wv_none c (by simp)] at h; cases h

set_option maxRecDepth 100000 in
set_option maxHeartbeats 800000 in
theorem implReadDec_any (s : ByteArray) (w : World) (hs : s.size ≤ 1048576) (ht : Tens w) :
    Calls Tryd.prog 8 #[.string s] w fun e w' => e = .returned (rdDec s) ∧ Below w.heap.size w w' := by
  have HT := hide1 ht
  have hpos := ht.pos
  clear ht
  by_cases h : s.size ≤ 10
  · have q1 : decide ((10 : Int) < (s.size : Int)) = false := by simp; omega
    go_enter Tryd.func8, Tryd.ntmps8
    go_wp2_with fail
    refine Calls.mono (worths_any s false _ hs) ?_
    rintro e w1 ⟨m, g, cap, b, hm, hbm, hgood, hno, rfl, hown1, hbel1⟩
    by_cases hms : m = s.size
    · obtain rfl : b = true := hbm.2 hms
      subst hms
      have hdig : Hid (digTo s s.size) := fun j hj => by have := wv_some_digit (hgood j hj); omega
      have hgl := (hown1.lt g rfl).2
      have hb1s := hbel1.size
      have HT1 := hide1 (HT.out.below hbel1 hpos)
      have hp1 : 0 < w1.heap.size := by omega
      have hcell : Hid (∀ j, j < s.size → w1.cell? ⟨g, j, none⟩ = some (.int .u8 ((byt s j - 48 : Nat) : Int))) := by
        intro j hj
        obtain ⟨d1, d2, d3⟩ := wv_some_digit (hgood j hj)
        have := hown1.cells (g := g) rfl j (.int .u8 ((byt s j - 48 : Nat) : Int)) (by
          unfold bc; rw [List.getElem?_map, wL_at _ _ _ _ hj, d3]
          simp only [Option.map_some, Option.getD_some, UInt8.toNat_ofNat']
          rw [Nat.mod_eq_of_lt (by omega)])
        rw [Addr.add_lit, Nat.zero_add] at this
        exact this
      clear hbm hno hgood hown1
      go_wp2
      go_loop [6, 21] (fun nv iv => ∃ (i n : Nat), i ≤ s.size ∧ iv = .int .i64 (i : Int) ∧ nv = .int .i64 (n : Int) ∧ n < 10000000000 ∧ Hid (n = dN (byt s) i)) (fun _ iv => s.size - (intOf iv).toNat)
      case atStart => exact ⟨0, 0, by omega, rfl, rfl, by omega, rfl⟩
      case round =>
        obtain ⟨i, n, hi, rfl, rfl, hn, hdn⟩ := hrel
        by_cases hlt : i < s.size
        · have x1 := hcell.out i hlt
          have hd := hdig.out i hlt
          have hn' : 10 * n + (byt s i - 48) < 10000000000 := by
            have := dN_bd s (i + 1) (fun j hj => hdig.out j (by omega)) (by omega)
            rw [dN, ← hdn.out] at this
            exact this
          obtain ⟨x, hx⟩ : ∃ x, x = byt s i - 48 := ⟨_, rfl⟩
          rw [← hx] at x1 hn'
          have hx16 : x ≤ 9 := by omega
          have X := hide1 hx
          clear hx hd
          go_wp2
          go_round
          case rel => exact ⟨i + 1, 10 * n + x, by omega, by go_num, by go_num, hn', by rw [hdn.out, X.out]; rfl⟩
          case measure => simp [intOf]; omega
        · have hil : Hid (i = s.size) := by show i = s.size; omega
          by_cases c1 : 1000000000 < n
          · have hfin := hide1 (rdDec_no (s := s) (fun hh => by have := hh.2.2.1; rw [← hil.out, ← hdn.out] at this; omega))
            have c1' : decide ((1000000000 : Int) < (n : Int)) = true := by simp; omega
            go_wp2
            go_ret2
            exact ⟨by rw [hfin.out]; rfl, hbel1⟩
          · have c1' : decide ((1000000000 : Int) < (n : Int)) = false := by simp; omega
            have cc := fun w ht => implDecimal_any (n : Int) (by omega) (by omega) w ht
            obtain ⟨z, hz⟩ : ∃ z : ByteArray, z = ⟨(Lib.itoa (n : Int)).toArray⟩ := ⟨_, rfl⟩
            have hzl : z.toList = Lib.itoa (n : Int) := by rw [hz, ByteArray.toList_eq]
            rw [← hz] at cc
            have CC := hide1 cc
            have ZL := hide1 hzl
            clear hz hzl cc
            cases e : z.toList == s.toList with
            | true =>
              have hfin := hide1 (rdDec_yes (s := s) ⟨h, hdig.out, by rw [← hil.out, ← hdn.out]; omega, by rw [← hil.out, ← hdn.out, ← ZL.out]; exact beq_iff_eq.1 e⟩)
              rw [← hil.out, ← hdn.out] at hfin
              go_wp2_with (go_at_call 9; refine (CC.out _ HT1.out).mono ?_; rintro e w2 ⟨rfl, hb2⟩)
              go_ret2
              exact ⟨by rw [hfin.out]; rfl, hbel1.trans (hb2.mono hb1s)⟩
            | false =>
              have hfin := hide1 (rdDec_no (s := s) (fun hh => by have := hh.2.2.2; rw [← hil.out, ← hdn.out, ← ZL.out] at this; rw [this] at e; simp at e))
              go_wp2_with (go_at_call 9; refine (CC.out _ HT1.out).mono ?_; rintro e w2 ⟨rfl, hb2⟩)
              go_ret2
              exact ⟨by rw [hfin.out]; rfl, hbel1.trans (hb2.mono hb1s)⟩
    · have hb : b = false := by cases b with
        | false => rfl
        | true => exact absurd (hbm.1 rfl) hms
      subst hb
      have hfin := hide1 (rdDec_no (s := s) (fun hh => by have hd := hh.2.1 m (by omega); have := hno (by omega); rw [wv_digit hd.1 hd.2] at this; cases this))
      clear hno hgood hbm
      go_wp2
      go_ret2
      exact ⟨by rw [hfin.out]; rfl, hbel1⟩
  · rw [rdDec_no (fun hh => h hh.1)]
    have q1 : decide ((10 : Int) < (s.size : Int)) = true := by simp; omega
    go_enter Tryd.func8, Tryd.ntmps8
    go_wp2
    go_ret2
    exact ⟨rfl, Below.refl _ _⟩
end Go.Proofs.YtdbajlbabjoohaaDoor
