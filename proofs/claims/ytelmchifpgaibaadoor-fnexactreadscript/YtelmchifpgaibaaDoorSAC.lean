/- The contract of the program's writer of decimal figures: at every int, where the library's table of powers of ten is as its text lays it. -/
import Derived.Test.YtelmchifpgaibaaDoorDec
import Derived.Test.YtelmchifpgaibaaDoorItoa
import Derived.Lib.LaidTab
import Derived.WalkSmall
import Derived.Test.YtelmchifpgaibaaDoorSAA
import Derived.Handy
import Derived.Test.YtelmchifpgaibaaDoorSAB
import Derived.Deep.RegionHeld3
import Derived.Deep.RegionWith
namespace Go.Proofs.YtelmchifpgaibaaDoor
open Go.RowKit

/-- The library's table of powers of ten holds them. -/
def Tens (w : World) : Prop := Lib.TabIs Tryd.prog w "internal/strconv.uint64pow10" .u64 Lib.pow10Tab
theorem gTens : Tryd.prog.globalNamed "internal/strconv.uint64pow10" = some 1 := by kernel_rfl
theorem Tens.pos {w : World} (h : Tens w) : 1 < w.heap.size := by
  unfold Tens Lib.TabIs World.var? at h
  rw [gTens] at h
  simp only [Option.bind_some] at h
  cases e : w.heap[1]? with
  | none => rw [e] at h; cases h
  | some x => exact (Array.getElem?_eq_some_iff.1 e).1
theorem Tens.below {w w' : World} {B : Nat} (h : Tens w) (hb : Below B w w') (hB : 1 < B) : Tens w' := var?_below hb gTens hB h
theorem Tens.later {w w' : World} (h : Tens w) (hb : Below w.heap.size w w') : Tens w' := h.below hb h.pos
theorem below_grow1 (w : World) (k : Nat) (os : Array Obj) : Below w.heap.size w (Sort.grow (w.drewN k) os) := by
  refine ⟨rfl, rfl, rfl, ?_, fun i hi => ?_⟩
  · show w.heap.size ≤ (w.heap ++ os).size
    simp
  · show (w.heap ++ os)[i]? = w.heap[i]?
    rw [Array.getElem?_append_left hi]

theorem itoa_any (n : Int) (h0 : -9223372036854775808 ≤ n) (h1 : n ≤ 9223372036854775807) (w : World) (ht : Tens w) :
    Calls Tryd.prog 58 #[.int .i64 n] w fun e w' => e = .returned (.string ⟨(Lib.itoa n).toArray⟩) ∧ Below w.heap.size w w' := by
  refine (Any.strconv_Itoa lays171 n h0 h1 w ht).mono ?_
  rintro e w' ⟨rfl, k, os, rfl⟩
  exact ⟨rfl, below_grow1 w k os⟩

theorem implDecimal_any (n : Int) (h0 : -9223372036854775808 ≤ n) (h1 : n ≤ 9223372036854775807) (w : World) (ht : Tens w) :
    Calls Tryd.prog 53 #[.int .i64 n] w fun e w' => e = .returned (.string ⟨(Lib.itoa n).toArray⟩) ∧ Below w.heap.size w w' := by
  have cc := itoa_any n h0 h1 w ht
  generalize ({ data := (Lib.itoa n).toArray } : ByteArray) = z at cc ⊢
  have CC := hide1 cc
  clear cc ht
  go_enter Tryd.func53, Tryd.ntmps53
  go_wp2_with (go_at_call 58; refine (CC.out).mono ?_; rintro e w1 ⟨rfl, hb1⟩)
  go_ret
  exact ⟨rfl, hb1⟩
end Go.Proofs.YtelmchifpgaibaaDoor
namespace Go.Proofs.YtelmchifpgaibaaDoor
open Go.RowKit

/-- What a figure is worth: 0-9, and a-f with letters. -/
def wv (letters : Bool) (x : Nat) : Option Nat :=
  if 48 ≤ x ∧ x ≤ 57 then some (x - 48) else if letters = true ∧ 97 ≤ x ∧ x ≤ 102 then some (x - 87) else none
theorem wv_digit {l : Bool} {x : Nat} (h : 48 ≤ x) (k : x ≤ 57) : wv l x = some (x - 48) := by unfold wv; rw [if_pos ⟨h, k⟩]
theorem wv_letter {x : Nat} (h : 97 ≤ x) (k : x ≤ 102) : wv true x = some (x - 87) := by unfold wv; rw [if_neg (by omega), if_pos ⟨rfl, h, k⟩]
theorem wv_none {l : Bool} {x : Nat} (h : ¬ (48 ≤ x ∧ x ≤ 57)) (k : ¬ (l = true ∧ 97 ≤ x ∧ x ≤ 102)) : wv l x = none := by unfold wv; rw [if_neg h, if_neg k]
theorem wv_lt {l : Bool} {x v : Nat} (h : wv l x = some v) : v < 16 := by
  unfold wv at h; split at h
  · simp at h; omega
  · split at h
    · simp at h; omega
    · cases h
/-- The worths of the first k bytes. -/
def wL (l : Bool) (t : Nat → Nat) : Nat → List UInt8
  | 0 => []
  | k + 1 => wL l t k ++ [UInt8.ofNat ((wv l (t k)).getD 0)]
theorem wL_length (l : Bool) (t : Nat → Nat) (k : Nat) : (wL l t k).length = k := by
  induction k with
  | zero => rfl
  | succ k ih => simp [wL, ih]
theorem wL_at (l : Bool) (t : Nat → Nat) : ∀ (n k : Nat), k < n → (wL l t n)[k]? = some (UInt8.ofNat ((wv l (t k)).getD 0))
  | 0, k, h => by omega
  | n + 1, k, h => by
    by_cases e : k < n
    · rw [wL, List.getElem?_append_left (by rw [wL_length]; exact e)]; exact wL_at l t n k e
    · obtain rfl : k = n := by omega
      rw [wL, List.getElem?_append_right (by rw [wL_length]; exact Nat.le_refl _), wL_length]; simp

theorem ret_slice_bool {a : Option Addr} {n m c : Nat} {b : Bool} (h : n = m) : Ending.returned (.tuple #[.slice a n c, .bool b]) = .returned (.tuple #[.slice a m c, .bool b]) := by rw [h]
theorem own_form {w : World} {base n : Nat} {e : TypeId} {v : Value} {xs : List Value} (h : w.ownsRow base e 1 v n xs) (hn : 0 < n) : ∃ g cap, v = .slice (some ⟨g, 0, none⟩) n cap := by
  rcases h.2 with ⟨_, h0⟩ | ⟨g, cap, cur, hv, _⟩
  · omega
  · exact ⟨g, cap, hv⟩

set_option maxRecDepth 100000 in
set_option maxHeartbeats 800000 in
theorem worths_any (s : ByteArray) (l : Bool) (w : World) (hs : s.size ≤ 1048576) :
    Calls Tryd.prog 52 #[.string s, .bool l] w fun e w' => ∃ (k g cap : Nat) (b : Bool), k ≤ s.size ∧ (b = true ↔ k = s.size) ∧ (∀ j, j < k → (wv l (byt s j)).isSome = true) ∧ (k < s.size → wv l (byt s k) = none) ∧
      e = .returned (.tuple #[.slice (some ⟨g, 0, none⟩) k cap, .bool b]) ∧ w'.ownsRow w.heap.size 5 1 (.slice (some ⟨g, 0, none⟩) k cap) k (bc (wL l (byt s) k)) ∧ Below w.heap.size w w' := by
  obtain ⟨i0, hi, hz0, hz1, hz2⟩ := info_parts Tryd.info5
  go_enter Tryd.func52, Tryd.ntmps52
  go_wp2
  go_step3
  go_wp2_with (at_make; (refine wpList_make_own _ rfl _ _ 59 rfl w.heap.size 5 i0 (.int .u8 0) 1 Tryd.underlying59 hi hz0 hz1 _ _ _ s.size rfl rfl (by omega) (by rw [hz2]; omega) (by unfold maxLen; omega) (Nat.le_refl _) ?_; intro w0 hown0 hg0))
  go_step3
  go_wp2
  go_loopw [6, 7] (fun v iv wr => ∃ (k : Nat) (acc : List UInt8) (g cap : Nat), k ≤ s.size ∧ iv = .int .i64 (k : Int) ∧ Hid (acc = wL l (byt s) k) ∧ acc.length ≤ k ∧ v = .slice (some ⟨g, 0, none⟩) acc.length cap ∧
      wr.ownsRow w.heap.size 5 1 v acc.length (bc acc) ∧ Below w.heap.size w wr ∧ Hid (∀ j, j < k → (wv l (byt s j)).isSome = true)) (fun _ iv _ => s.size - (intOf iv).toNat)
  case atStart => exact ⟨0, [], w.heap.size, s.size, by omega, rfl, rfl, by simp, rfl, hown0, Below.grown (Below.refl _ _) hg0 (Nat.le_refl _) (by intro k hk; cases hk), fun j hj => by omega⟩
  case round =>
    obtain ⟨k, acc, g, cap, hk, rfl, hacc, hal, rfl, hown, hbel, hgood⟩ := hrel
    have hbs := hbel.size
    have hlen : Hid (acc.length = k) := by rw [hacc.out]; exact wL_length _ _ _
    by_cases hlt : k < s.size
    · have hlt' : (k : Int) < (s.size : Int) := by omega
      have hb := get_byt s
      have hb1 := byt_le s k
      by_cases c1 : 48 ≤ byt s k ∧ byt s k ≤ 57
      · obtain ⟨c1, c2⟩ := c1
        have HV : Hid _ := wv_digit (l := l) c1 c2
        obtain ⟨b, hbe, hbn⟩ := byte_of (byt s k - 48) (by omega)
        go_wp2_with (at_builtin; (refine wpList_push rfl _ _ 59 rfl w.heap.size 5 i0 Tryd.underlying59 hi hz0 hz1 hz2 _ acc rfl hown _ b (by omega) rfl (by omega) hbs ?_; intro v' w1 hown' hb'))
        go_roundw
        case rel =>
          obtain ⟨g', cap', hv'⟩ := own_form hown' (by simp)
          exact ⟨k + 1, acc ++ [b], g', cap', by omega, by go_num, by rw [hacc.out, hbe.out, wL, HV.out]; rfl, by simp; omega, hv', hown', hbel.trans hb', fun j hj => by
            by_cases e : j < k
            · exact hgood.out j e
            · rw [show j = k by omega, HV.out]; rfl⟩
        case measure => simp [intOf]; omega
      · by_cases c2 : l = true ∧ 97 ≤ byt s k ∧ byt s k ≤ 102
        · obtain ⟨rfl, c2, c3⟩ := c2
          have HV : Hid _ := wv_letter c2 c3
          obtain ⟨b, hbe, hbn⟩ := byte_of (byt s k - 87) (by omega)
          go_wp2_with (at_builtin; (refine wpList_push rfl _ _ 59 rfl w.heap.size 5 i0 Tryd.underlying59 hi hz0 hz1 hz2 _ acc rfl hown _ b (by omega) rfl (by omega) hbs ?_; intro v' w1 hown' hb'))
          go_roundw
          case rel =>
            obtain ⟨g', cap', hv'⟩ := own_form hown' (by simp)
            exact ⟨k + 1, acc ++ [b], g', cap', by omega, by go_num, by rw [hacc.out, hbe.out, wL, HV.out]; rfl, by simp; omega, hv', hown', hbel.trans hb', fun j hj => by
              by_cases e : j < k
              · exact hgood.out j e
              · rw [show j = k by omega, HV.out]; rfl⟩
          case measure => simp [intOf]; omega
        · have HV : Hid _ := wv_none c1 c2
          have q0 : ((acc.length : Int) == (s.size : Int)) = false := by have := hlen.out; simp; omega
          have hown2 : Hid _ := hown
          clear hown
          rcases l with _ | _
          · by_cases c3 : 48 ≤ byt s k
            all_goals
              go_wp2
              try rw [Exit.noGoto_ret]
              go_ret2
              exact ⟨k, g, cap, false, hk, by simp; omega, hgood.out, fun _ => HV.out, ret_slice_bool hlen.out, by have := hown2.out; rw [hlen.out, hacc.out] at this; exact this, hbel⟩
          · have c5 : ¬ (97 ≤ byt s k ∧ byt s k ≤ 102) := fun h => c2 ⟨rfl, h⟩
            clear c2
            by_cases c3 : 48 ≤ byt s k
            all_goals
              by_cases c4 : 97 ≤ byt s k
              all_goals first
                | (exfalso; omega)
                | skip
              all_goals
                go_wp2
                try rw [Exit.noGoto_ret]
                go_ret2
                exact ⟨k, g, cap, false, hk, by simp; omega, hgood.out, fun _ => HV.out, ret_slice_bool hlen.out, by have := hown2.out; rw [hlen.out, hacc.out] at this; exact this, hbel⟩
    · have q0 : ((acc.length : Int) == (s.size : Int)) = true := by have := hlen.out; simp; omega
      go_wp2
      try rw [Exit.noGoto_ret]
      go_ret2
      exact ⟨k, g, cap, true, hk, by simp; omega, hgood.out, fun h => by omega, ret_slice_bool hlen.out, by rw [hlen.out, hacc.out] at hown; exact hown, hbel⟩
end Go.Proofs.YtelmchifpgaibaaDoor
namespace Go.Proofs.YtelmchifpgaibaaDoor
open Go.RowKit

/-- The number of the first k figures. -/
def dN (t : Nat → Nat) : Nat → Nat
  | 0 => 0
  | k + 1 => 10 * dN t k + (t k - 48)
def digTo (s : ByteArray) (n : Nat) : Prop := ∀ j, j < n → 48 ≤ byt s j ∧ byt s j ≤ 57
theorem dN_lt (s : ByteArray) (k : Nat) (h : digTo s k) : dN (byt s) k < 10 ^ k := by
  induction k with
  | zero => show 0 < 1; omega
  | succ k ih =>
    have := ih (fun j hj => h j (by omega))
    have h2 := h k (by omega)
    rw [dN, Nat.pow_succ]
    omega
theorem dN_bd (s : ByteArray) (k : Nat) (h : digTo s k) (hk : k ≤ 10) : dN (byt s) k < 10000000000 := by
  have h1 := dN_lt s k h
  have h2 : 10 ^ k ≤ 10 ^ 10 := Nat.pow_le_pow_right (by omega) hk
  have h3 : (10 : Nat) ^ 10 = 10000000000 := by decide
  omega
def rdB (s : ByteArray) : Bool := decide (s.size ≤ 10) && (((List.range s.size).all fun j => decide (48 ≤ byt s j) && decide (byt s j ≤ 57)) && (decide (dN (byt s) s.size ≤ 1000000000) && (Lib.itoa (dN (byt s) s.size : Int) == s.toList)))
theorem rdB_iff (s : ByteArray) : rdB s = true ↔ s.size ≤ 10 ∧ digTo s s.size ∧ dN (byt s) s.size ≤ 1000000000 ∧ Lib.itoa (dN (byt s) s.size : Int) = s.toList := by
  unfold rdB digTo
  simp [List.all_eq_true]
def rdDec (s : ByteArray) : Value := if rdB s = true then .tuple #[.int .i64 (dN (byt s) s.size : Int), .bool true] else .tuple #[.int .i64 0, .bool false]
theorem rdDec_yes {s : ByteArray} (h : s.size ≤ 10 ∧ digTo s s.size ∧ dN (byt s) s.size ≤ 1000000000 ∧ Lib.itoa (dN (byt s) s.size : Int) = s.toList) : rdDec s = .tuple #[.int .i64 (dN (byt s) s.size : Int), .bool true] := by
  unfold rdDec; rw [if_pos ((rdB_iff s).2 h)]
theorem rdDec_no {s : ByteArray} (h : ¬ (s.size ≤ 10 ∧ digTo s s.size ∧ dN (byt s) s.size ≤ 1000000000 ∧ Lib.itoa (dN (byt s) s.size : Int) = s.toList)) : rdDec s = .tuple #[.int .i64 0, .bool false] := by
  unfold rdDec; rw [if_neg (fun e => h ((rdB_iff s).1 e))]

set_option maxRecDepth 100000 in
set_option maxHeartbeats 800000 in
theorem specReadDec_any (s : ByteArray) (w : World) (hs : s.size ≤ 1048576) :
    Calls Tryd.prog 24 #[.string s] w fun e w' => e = .returned (rdDec s) ∧ Below w.heap.size w w' := by
  by_cases h : s.size ≤ 10
  · have q1 : decide ((10 : Int) < (s.size : Int)) = false := by simp; omega
    go_enter Tryd.func24, Tryd.ntmps24
    go_wp2
    go_loop [4, 5] (fun nv iv => ∃ (i n : Nat), i ≤ s.size ∧ iv = .int .i64 (i : Int) ∧ nv = .int .i64 (n : Int) ∧ n < 10000000000 ∧ Hid (n = dN (byt s) i) ∧ Hid (digTo s i)) (fun _ iv => s.size - (intOf iv).toNat)
    case atStart => exact ⟨0, 0, by omega, rfl, rfl, by omega, rfl, fun j hj => by omega⟩
    case round =>
      obtain ⟨i, n, hi, rfl, rfl, hn, hdn, hdig⟩ := hrel
      by_cases hlt : i < s.size
      · have hb := get_byt s
        have hb1 := byt_le s i
        by_cases c1 : byt s i < 48 ∨ 57 < byt s i
        · have hfin := hide1 (rdDec_no (s := s) (fun hh => by have := hh.2.1 i hlt; omega))
          by_cases c2 : byt s i < 48
          all_goals
            go_wp2
            go_ret2
            exact ⟨by rw [hfin.out]; rfl, Below.refl _ _⟩
        · have c3 : 48 ≤ byt s i := by omega
          have c4 : byt s i ≤ 57 := by omega
          have hd' : Hid (digTo s (i + 1)) := by
            intro j hj
            by_cases c : j < i
            · exact hdig.out j c
            · rw [show j = i by omega]; omega
          have hn' : 10 * n + (byt s i - 48) < 10000000000 := by
            have := dN_bd s (i + 1) hd'.out (by omega)
            rw [dN, ← hdn.out] at this
            exact this
          clear c1
          go_wp2
          go_round
          case rel => exact ⟨i + 1, 10 * n + (byt s i - 48), by omega, by go_num, by go_num, hn', by rw [hdn.out]; rfl, hd'⟩
          case measure => simp [intOf]; omega
      · have hil : Hid (i = s.size) := by show i = s.size; omega
        by_cases c1 : 1000000000 < n
        · have hfin := hide1 (rdDec_no (s := s) (fun hh => by have := hh.2.2.1; rw [← hil.out, ← hdn.out] at this; omega))
          have c1' : decide ((1000000000 : Int) < (n : Int)) = true := by simp; omega
          go_wp2
          go_ret2
          exact ⟨by rw [hfin.out]; rfl, Below.refl _ _⟩
        · have c1' : decide ((1000000000 : Int) < (n : Int)) = false := by simp; omega
          have cc := fun w => specDecimal_any (n : Int) w (by omega) (by omega)
          obtain ⟨z, hz⟩ : ∃ z : ByteArray, z = ⟨(Lib.itoa (n : Int)).toArray⟩ := ⟨_, rfl⟩
          have hzl : z.toList = Lib.itoa (n : Int) := by rw [hz, ByteArray.toList_eq]
          rw [← hz] at cc
          have CC := hide1 cc
          have ZL := hide1 hzl
          clear hz hzl cc
          cases e : z.toList == s.toList with
          | true =>
            have hfin := hide1 (rdDec_yes (s := s) ⟨h, by rw [← hil.out]; exact hdig.out, by rw [← hil.out, ← hdn.out]; omega, by rw [← hil.out, ← hdn.out, ← ZL.out]; exact beq_iff_eq.1 e⟩)
            rw [← hil.out, ← hdn.out] at hfin
            go_wp2_with (go_at_call 30; refine (CC.out _).mono ?_; rintro e w1 ⟨rfl, hb1⟩)
            go_ret2
            exact ⟨by rw [hfin.out]; rfl, hb1⟩
          | false =>
            have hfin := hide1 (rdDec_no (s := s) (fun hh => by have := hh.2.2.2; rw [← hil.out, ← hdn.out, ← ZL.out] at this; rw [this] at e; simp at e))
            go_wp2_with (go_at_call 30; refine (CC.out _).mono ?_; rintro e w1 ⟨rfl, hb1⟩)
            go_ret2
            exact ⟨by rw [hfin.out]; rfl, hb1⟩
  · rw [rdDec_no (fun hh => h hh.1)]
    have q1 : decide ((10 : Int) < (s.size : Int)) = true := by simp; omega
    go_enter Tryd.func24, Tryd.ntmps24
    go_wp2
    go_ret2
    exact ⟨rfl, Below.refl _ _⟩

theorem wv_some_digit {x : Nat} (h : (wv false x).isSome = true) : 48 ≤ x ∧ x ≤ 57 ∧ wv false x = some (x - 48) := by
  by_cases c : 48 ≤ x ∧ x ≤ 57
  · exact ⟨c.1, c.2, wv_digit c.1 c.2⟩
  · rw [wv_none c (by simp)] at h; cases h

set_option maxRecDepth 100000 in
set_option maxHeartbeats 800000 in
theorem implReadDec_any (s : ByteArray) (w : World) (hs : s.size ≤ 1048576) (ht : Tens w) :
    Calls Tryd.prog 45 #[.string s] w fun e w' => e = .returned (rdDec s) ∧ Below w.heap.size w w' := by
  have HT := hide1 ht
  have hpos := ht.pos
  clear ht
  by_cases h : s.size ≤ 10
  · have q1 : decide ((10 : Int) < (s.size : Int)) = false := by simp; omega
    go_enter Tryd.func45, Tryd.ntmps45
    go_wp2_with fail
    refine Calls.mono (worths_any s false _ hs) ?_
    rintro e w1 ⟨m, g, cap, b, hm, hbm, hgood, hno, rfl, hown1, hbel1⟩
    by_cases hms : m = s.size
    · obtain rfl : b = true := hbm.2 hms
      subst hms
      have hdig : Hid (digTo s s.size) := fun j hj => by have := wv_some_digit (hgood j hj); omega
      have hgl := (hown1.lt g rfl).2
      have hb1s := hbel1.size
      have HT1 := hide1 (HT.out.below hbel1 hpos)
      have hp1 : 0 < w1.heap.size := by omega
      have hcell : Hid (∀ j, j < s.size → w1.cell? ⟨g, j, none⟩ = some (.int .u8 ((byt s j - 48 : Nat) : Int))) := by
        intro j hj
        obtain ⟨d1, d2, d3⟩ := wv_some_digit (hgood j hj)
        have := hown1.cells (g := g) rfl j (.int .u8 ((byt s j - 48 : Nat) : Int)) (by
          unfold bc; rw [List.getElem?_map, wL_at _ _ _ _ hj, d3]
          simp only [Option.map_some, Option.getD_some, UInt8.toNat_ofNat']
          rw [Nat.mod_eq_of_lt (by omega)])
        rw [Addr.add_lit, Nat.zero_add] at this
        exact this
      clear hbm hno hgood hown1
      go_wp2
      go_loop [6, 21] (fun nv iv => ∃ (i n : Nat), i ≤ s.size ∧ iv = .int .i64 (i : Int) ∧ nv = .int .i64 (n : Int) ∧ n < 10000000000 ∧ Hid (n = dN (byt s) i)) (fun _ iv => s.size - (intOf iv).toNat)
      case atStart => exact ⟨0, 0, by omega, rfl, rfl, by omega, rfl⟩
      case round =>
        obtain ⟨i, n, hi, rfl, rfl, hn, hdn⟩ := hrel
        by_cases hlt : i < s.size
        · have x1 := hcell.out i hlt
          have hd := hdig.out i hlt
          have hn' : 10 * n + (byt s i - 48) < 10000000000 := by
            have := dN_bd s (i + 1) (fun j hj => hdig.out j (by omega)) (by omega)
            rw [dN, ← hdn.out] at this
            exact this
          obtain ⟨x, hx⟩ : ∃ x, x = byt s i - 48 := ⟨_, rfl⟩
          rw [← hx] at x1 hn'
          have hx16 : x ≤ 9 := by omega
          have X := hide1 hx
          clear hx hd
          go_wp2
          go_round
          case rel => exact ⟨i + 1, 10 * n + x, by omega, by go_num, by go_num, hn', by rw [hdn.out, X.out]; rfl⟩
          case measure => simp [intOf]; omega
        · have hil : Hid (i = s.size) := by show i = s.size; omega
          by_cases c1 : 1000000000 < n
          · have hfin := hide1 (rdDec_no (s := s) (fun hh => by have := hh.2.2.1; rw [← hil.out, ← hdn.out] at this; omega))
            have c1' : decide ((1000000000 : Int) < (n : Int)) = true := by simp; omega
            go_wp2
            go_ret2
            exact ⟨by rw [hfin.out]; rfl, hbel1⟩
          · have c1' : decide ((1000000000 : Int) < (n : Int)) = false := by simp; omega
            have cc := fun w ht => implDecimal_any (n : Int) (by omega) (by omega) w ht
            obtain ⟨z, hz⟩ : ∃ z : ByteArray, z = ⟨(Lib.itoa (n : Int)).toArray⟩ := ⟨_, rfl⟩
            have hzl : z.toList = Lib.itoa (n : Int) := by rw [hz, ByteArray.toList_eq]
            rw [← hz] at cc
            have CC := hide1 cc
            have ZL := hide1 hzl
            clear hz hzl cc
            cases e : z.toList == s.toList with
            | true =>
              have hfin := hide1 (rdDec_yes (s := s) ⟨h, hdig.out, by rw [← hil.out, ← hdn.out]; omega, by rw [← hil.out, ← hdn.out, ← ZL.out]; exact beq_iff_eq.1 e⟩)
              rw [← hil.out, ← hdn.out] at hfin
              go_wp2_with (go_at_call 53; refine (CC.out _ HT1.out).mono ?_; rintro e w2 ⟨rfl, hb2⟩)
              go_ret2
              exact ⟨by rw [hfin.out]; rfl, hbel1.trans (hb2.mono hb1s)⟩
            | false =>
              have hfin := hide1 (rdDec_no (s := s) (fun hh => by have := hh.2.2.2; rw [← hil.out, ← hdn.out, ← ZL.out] at this; rw [this] at e; simp at e))
              go_wp2_with (go_at_call 53; refine (CC.out _ HT1.out).mono ?_; rintro e w2 ⟨rfl, hb2⟩)
              go_ret2
              exact ⟨by rw [hfin.out]; rfl, hbel1.trans (hb2.mono hb1s)⟩
    · have hb : b = false := by cases b with
        | false => rfl
        | true => exact absurd (hbm.1 rfl) hms
      subst hb
      have hfin := hide1 (rdDec_no (s := s) (fun hh => by have hd := hh.2.1 m (by omega); have := hno (by omega); rw [wv_digit hd.1 hd.2] at this; cases this))
      clear hno hgood hbm
      go_wp2
      go_ret2
      exact ⟨by rw [hfin.out]; rfl, hbel1⟩
  · rw [rdDec_no (fun hh => h hh.1)]
    have q1 : decide ((10 : Int) < (s.size : Int)) = true := by simp; omega
    go_enter Tryd.func45, Tryd.ntmps45
    go_wp2
    go_ret2
    exact ⟨rfl, Below.refl _ _⟩
end Go.Proofs.YtelmchifpgaibaaDoor
