/- The numbers of keys, plain, and the contract of the model's function. -/
import Derived.Test.YtdgpencendphbaaDoorProg
import Derived.Test.YtdgpencendphbaaDoorKit
import Derived.Test.YtdgpencendphbaaDoorPlain
import Derived.Handy
namespace Go.Proofs.YtdgpencendphbaaDoor
open Go.RowKit

/-- One byte more. -/
def hstep (h b : Nat) : Nat := ((h ^^^ b) * 16777619) % 4294967296
def hashK (f : Nat → Nat) (h : Nat) : Nat → Nat
  | 0 => h
  | k + 1 => hstep (hashK f h k) (f k)
def seedOf (seed : Int) : Nat := if seed < 0 then 0 else if 1000000000 < seed then 1000000000 else seed.toNat
/-- What a seed begins with. -/
def hash0 (seed : Int) : Nat := (2166136261 + seedOf seed) % 4294967296
def hashN (s : ByteArray) (seed : Int) : Nat := hashK (byt s) (hash0 seed) s.size ^^^ (hashK (byt s) (hash0 seed) s.size / 65536)
theorem hstep_lt (h b : Nat) : hstep h b < 4294967296 := Nat.mod_lt _ (by decide)
theorem hash0_lt (seed : Int) : hash0 seed < 4294967296 := Nat.mod_lt _ (by decide)
theorem hashK_lt (f : Nat → Nat) (h : Nat) (hh : h < 4294967296) : ∀ k, hashK f h k < 4294967296
  | 0 => hh
  | _ + 1 => hstep_lt _ _
theorem seedOf_le (seed : Int) : seedOf seed ≤ 1000000000 := by
  unfold seedOf
  split
  · omega
  · split <;> omega
theorem xor_lt {a b : Nat} (ha : a < 4294967296) (hb : b < 4294967296) : a ^^^ b < 4294967296 := Nat.xor_lt_two_pow (n := 32) ha hb
theorem hashN_lt (s : ByteArray) (seed : Int) : hashN s seed < 4294967296 := by
  have h := hashK_lt (byt s) _ (hash0_lt seed) s.size
  exact xor_lt h (Nat.lt_of_le_of_lt (Nat.div_le_self _ _) h)
theorem xor_low (a b i : Nat) : (a ^^^ b) % 2 ^ (i + 1) = (a ^^^ b) % 2 ^ i + (if (a / 2 ^ i) % 2 ≠ (b / 2 ^ i) % 2 then 2 ^ i else 0) := by
  have h1 : (a ^^^ b) % 2 ^ (i + 1) = (a ^^^ b) % 2 ^ i + 2 ^ i * ((a ^^^ b) / 2 ^ i % 2) := by
    rw [Nat.pow_succ, Nat.mod_mul]
  rw [h1]
  congr 1
  have h2 : (a ^^^ b) / 2 ^ i % 2 = ((a / 2 ^ i) ^^^ (b / 2 ^ i)) % 2 := by rw [← Nat.xor_div_two_pow]
  rw [h2]
  have h3 : ∀ x y : Nat, (x ^^^ y) % 2 = if x % 2 ≠ y % 2 then 1 else 0 := by
    intro x y
    have e := Nat.xor_mod_two_pow (a := x) (b := y) (n := 1)
    simp only [Nat.pow_one] at e
    rw [e]
    rcases Nat.mod_two_eq_zero_or_one x with hx | hx <;> rcases Nat.mod_two_eq_zero_or_one y with hy | hy <;> rw [hx, hy] <;> rfl
  rw [h3]
  split <;> simp

theorem pow_in (i : Nat) (h : i ≤ 32) : 2 ^ i ≤ 4294967296 := by
  have : (2 : Nat) ^ i ≤ 2 ^ 32 := Nat.pow_le_pow_right (by decide) h
  simpa using this
theorem half_next (a i : Nat) : a / 2 ^ i / 2 = a / 2 ^ (i + 1) := by rw [Nat.div_div_eq_div_mul, Nat.pow_succ]

set_option maxRecDepth 100000 in
set_option maxHeartbeats 400000 in
theorem l04Xor_any (a b : Nat) (w : World) (ha : a < 4294967296) (hb : b < 4294967296) :
    Calls Tryd.prog 68 #[.int .i64 (a : Int), .int .i64 (b : Int)] w fun e w' => e = .returned (.int .i64 ((a ^^^ b : Nat) : Int)) ∧ w = w' := by
  have hx : a ^^^ b < 4294967296 := Nat.xor_lt_two_pow (n := 32) ha hb
  have HX := hide1 hx
  have HAB := hide1 (And.intro ha hb)
  clear hx ha hb
  go_enter Tryd.func68, Tryd.ntmps68
  go_wp2
  go_loop [0, 1, 5, 6, 7] (fun av bv ov tv iv => ∃ (i x y o t : Nat), i ≤ 32 ∧ iv = .int .i64 (i : Int) ∧ av = .int .i64 (x : Int) ∧ bv = .int .i64 (y : Int) ∧ ov = .int .i64 (o : Int) ∧ tv = .int .i64 (t : Int) ∧ x ≤ 4294967296 ∧ y ≤ 4294967296 ∧ o ≤ 4294967296 ∧ t ≤ 4294967296 ∧ Hid (x = a / 2 ^ i) ∧ Hid (y = b / 2 ^ i) ∧ Hid (o = (a ^^^ b) % 2 ^ i) ∧ Hid (t = 2 ^ i)) (fun _ _ _ _ iv => 32 - (intOf iv).toNat)
  case atStart => exact ⟨0, a, b, 0, 1, by omega, rfl, rfl, rfl, rfl, rfl, by have := HAB.out.1; omega, by have := HAB.out.2; omega, by omega, by omega, by show a = _; simp, by show b = _; simp, by show 0 = _; rw [Nat.pow_zero, Nat.mod_one], rfl⟩
  case round =>
    obtain ⟨i, x, y, o, t, hi, rfl, rfl, rfl, rfl, rfl, x4, y4, o4, t4, hx, hy, ho, ht⟩ := hrel
    by_cases hlt : i < 32
    · have k1 : (i : Int) < 32 := by omega
      have hx2 : Hid (x / 2 = a / 2 ^ (i + 1)) := by show x / 2 = _; rw [hx.out, half_next]
      have hy2 : Hid (y / 2 = b / 2 ^ (i + 1)) := by show y / 2 = _; rw [hy.out, half_next]
      have ht2 : Hid (2 * t = 2 ^ (i + 1)) := by show 2 * t = _; rw [ht.out, Nat.pow_succ]; omega
      have ht5 : 2 * t ≤ 4294967296 := by rw [ht2.out]; exact pow_in (i + 1) (by omega)
      have hxl := hide1 (xor_low a b i)
      obtain ⟨p, hp⟩ : ∃ p, x % 2 = p := ⟨_, rfl⟩
      obtain ⟨q, hq⟩ : ∃ q, y % 2 = q := ⟨_, rfl⟩
      have e1 : (x : Int) % 2 = (p : Int) := by omega
      have e2 : (y : Int) % 2 = (q : Int) := by omega
      have d1 : (x : Int) / 2 = ((x / 2 : Nat) : Int) := by omega
      have d2 : (y : Int) / 2 = ((y / 2 : Nat) : Int) := by omega
      have hxs : x / 2 ≤ 4294967296 := by omega
      have hys : y / 2 ≤ 4294967296 := by omega
      rw [← hx.out, ← hy.out, ← ho.out, ← ht.out, hp, hq] at hxl
      have hmod : Hid ((a ^^^ b) % 2 ^ (i + 1) ≤ 4294967295) := by
        have := Nat.mod_le (a ^^^ b) (2 ^ (i + 1))
        have h2 := HX.out
        show _ ≤ _
        omega
      have hp' := hide1 hp
      have hq' := hide1 hq
      generalize x / 2 = x2 at *
      generalize y / 2 = y2 at *
      clear hp hq
      by_cases hpq : p = q
      · have n1 : ((p : Int) != (q : Int)) = false := by simp [hpq]
        have hov : Hid (o = (a ^^^ b) % 2 ^ (i + 1)) := by show o = _; rw [hxl.out, if_neg (by simp [hpq])]; rfl
        clear hpq
        go_wp2
        go_round
        case rel => exact ⟨i + 1, x2, y2, o, 2 * t, by omega, by go_num, by go_num, by go_num, rfl, by go_num, hxs, hys, o4, ht5, hx2, hy2, hov, ht2⟩
        case measure => simp [intOf]; omega
      · have n1 : ((p : Int) != (q : Int)) = true := by simp; omega
        have hov : Hid (o + t = (a ^^^ b) % 2 ^ (i + 1)) := by show o + t = _; rw [hxl.out, if_pos (by simpa using hpq)]
        have ho5 : o + t ≤ 4294967296 := by rw [hov.out]; have := hmod.out; omega
        clear hpq
        go_wp2
        go_round
        case rel => exact ⟨i + 1, x2, y2, o + t, 2 * t, by omega, by go_num, by go_num, by go_num, by go_num, by go_num, hxs, hys, ho5, ht5, hx2, hy2, hov, ht2⟩
        case measure => simp [intOf]; omega
    · obtain rfl : i = 32 := by omega
      have hov : Hid (o = a ^^^ b) := by show o = _; rw [ho.out, Nat.mod_eq_of_lt HX.out]
      go_wp2
      go_ret
      exact ⟨by rw [← hov.out]; rfl, rfl⟩

set_option maxRecDepth 100000 in
set_option maxHeartbeats 1000000 in
theorem specHash_any (s : ByteArray) (seed : Int) (w : World) (hs : s.size ≤ 1048576) (h1 : -9223372036854775808 ≤ seed) (h2 : seed ≤ 9223372036854775807) :
    Calls Tryd.prog 48 #[.string s, .int .i64 seed] w fun e w' => e = .returned (.int .i64 (hashN s seed : Int)) ∧ w = w' := by
  obtain ⟨sd, hsd⟩ : ∃ sd, seedOf seed = sd := ⟨_, rfl⟩
  have hsl : sd ≤ 1000000000 := by rw [← hsd]; exact seedOf_le seed
  obtain ⟨z0, hz0⟩ : ∃ z0, hash0 seed = z0 := ⟨_, rfl⟩
  have e0 : (2166136261 + (sd : Int)) % 4294967296 = (z0 : Int) := by rw [← hz0, hash0, hsd]; omega
  have z4 : z0 < 4294967296 := by rw [← hz0]; exact hash0_lt seed
  have HZ := hide1 hz0
  have HF : Hid (hashN s seed = hashK (byt s) z0 s.size ^^^ (hashK (byt s) z0 s.size / 65536)) := by show hashN s seed = _; rw [hashN, hz0]
  by_cases c1 : seed < 0
  · have q1 : decide (seed < 0) = true := decide_eq_true c1
    obtain rfl : sd = 0 := by rw [← hsd, seedOf, if_pos c1]
    obtain rfl : z0 = 2166136261 := by omega
    clear hsd c1 hz0 HZ e0
    go_enter Tryd.func48, Tryd.ntmps48
    go_wp2
    go_loop [5, 6] (fun hv iv => ∃ (k x : Nat), k ≤ s.size ∧ iv = .int .i64 (k : Int) ∧ hv = .int .i64 (x : Int) ∧ x < 4294967296 ∧ Hid (x = hashK (byt s) 2166136261 k)) (fun _ iv => s.size - (intOf iv).toNat)
    case atStart => exact ⟨0, 2166136261, by omega, rfl, rfl, z4, rfl⟩
    case round =>
      obtain ⟨k, x, hk, rfl, rfl, hx, hxk⟩ := hrel
      by_cases hlt : k < s.size
      · have k1 : (k : Int) < (s.size : Int) := by omega
        have hb := get_byt s
        have hbl := byt_le s k
        have CX := hide1 (l04Xor_any x (byt s k) w hx (by omega))
        have hyl : x ^^^ byt s k < 4294967296 := xor_lt hx (by omega)
        obtain ⟨z, hz⟩ : ∃ z, hstep x (byt s k) = z := ⟨_, rfl⟩
        have hzl : z < 4294967296 := by rw [← hz]; exact hstep_lt _ _
        have hzk : Hid (z = hashK (byt s) 2166136261 (k + 1)) := by show z = _; rw [← hz, hashK, hxk.out]
        unfold hstep at hz
        generalize x ^^^ byt s k = y at *
        have ez : ((y : Int) * 16777619) % 4294967296 = (z : Int) := by rw [← hz]; omega
        have wm : IntKind.i64.wrap ((y : Int) * 16777619) = (y : Int) * 16777619 := IntWalk.i64_in _ ⟨by omega, by omega⟩
        clear hz
        go_wp2_with fail
        refine CX.out.mono ?_
        rintro e w1 ⟨rfl, rfl⟩
        go_wp2
        go_round
        case rel => exact ⟨k + 1, z, by omega, by go_num, (by first | rfl | (rw [← ez]) | (rw [ez])), hzl, hzk⟩
        case measure => simp [intOf]; omega
      · obtain rfl : k = s.size := by omega
        obtain ⟨d, hd⟩ : ∃ d, x / 65536 = d := ⟨_, rfl⟩
        have ed : (x : Int) / 65536 = (d : Int) := by omega
        have CX := hide1 (l04Xor_any x d w hx (by omega))
        have HR : Hid (((x ^^^ d : Nat) : Int) = (hashN s seed : Int)) := by show ((x ^^^ d : Nat) : Int) = _; rw [HF.out, ← hxk.out, hd]
        clear hd
        generalize x ^^^ d = y at *
        go_wp2_with fail
        refine CX.out.mono ?_
        rintro e w1 ⟨rfl, rfl⟩
        go_wp2
        go_ret
        exact ⟨by rw [← HR.out]; rfl, rfl⟩
  · have q1 : decide (seed < 0) = false := decide_eq_false c1
    by_cases c2 : 1000000000 < seed
    · have q2 : decide (1000000000 < seed) = true := decide_eq_true c2
      obtain rfl : sd = 1000000000 := by rw [← hsd, seedOf, if_neg c1, if_pos c2]
      obtain rfl : z0 = 3166136261 := by omega
      clear hsd c1 c2 hz0 HZ e0
      go_enter Tryd.func48, Tryd.ntmps48
      go_wp2
      go_loop [5, 6] (fun hv iv => ∃ (k x : Nat), k ≤ s.size ∧ iv = .int .i64 (k : Int) ∧ hv = .int .i64 (x : Int) ∧ x < 4294967296 ∧ Hid (x = hashK (byt s) 3166136261 k)) (fun _ iv => s.size - (intOf iv).toNat)
      case atStart => exact ⟨0, 3166136261, by omega, rfl, rfl, z4, rfl⟩
      case round =>
        obtain ⟨k, x, hk, rfl, rfl, hx, hxk⟩ := hrel
        by_cases hlt : k < s.size
        · have k1 : (k : Int) < (s.size : Int) := by omega
          have hb := get_byt s
          have hbl := byt_le s k
          have CX := hide1 (l04Xor_any x (byt s k) w hx (by omega))
          have hyl : x ^^^ byt s k < 4294967296 := xor_lt hx (by omega)
          obtain ⟨z, hz⟩ : ∃ z, hstep x (byt s k) = z := ⟨_, rfl⟩
          have hzl : z < 4294967296 := by rw [← hz]; exact hstep_lt _ _
          have hzk : Hid (z = hashK (byt s) 3166136261 (k + 1)) := by show z = _; rw [← hz, hashK, hxk.out]
          unfold hstep at hz
          generalize x ^^^ byt s k = y at *
          have ez : ((y : Int) * 16777619) % 4294967296 = (z : Int) := by rw [← hz]; omega
          have wm : IntKind.i64.wrap ((y : Int) * 16777619) = (y : Int) * 16777619 := IntWalk.i64_in _ ⟨by omega, by omega⟩
          clear hz
          go_wp2_with fail
          refine CX.out.mono ?_
          rintro e w1 ⟨rfl, rfl⟩
          go_wp2
          go_round
          case rel => exact ⟨k + 1, z, by omega, by go_num, (by first | rfl | (rw [← ez]) | (rw [ez])), hzl, hzk⟩
          case measure => simp [intOf]; omega
        · obtain rfl : k = s.size := by omega
          obtain ⟨d, hd⟩ : ∃ d, x / 65536 = d := ⟨_, rfl⟩
          have ed : (x : Int) / 65536 = (d : Int) := by omega
          have CX := hide1 (l04Xor_any x d w hx (by omega))
          have HR : Hid (((x ^^^ d : Nat) : Int) = (hashN s seed : Int)) := by show ((x ^^^ d : Nat) : Int) = _; rw [HF.out, ← hxk.out, hd]
          clear hd
          generalize x ^^^ d = y at *
          go_wp2_with fail
          refine CX.out.mono ?_
          rintro e w1 ⟨rfl, rfl⟩
          go_wp2
          go_ret
          exact ⟨by rw [← HR.out]; rfl, rfl⟩
    · have q2 : decide (1000000000 < seed) = false := decide_eq_false c2
      have es : Hid (seed = (sd : Int)) := by show seed = _; rw [← hsd, seedOf, if_neg c1, if_neg c2]; omega
      have hq : -1 < seed := by omega
      have e1 : (2166136261 + seed) % 4294967296 = (z0 : Int) := by rw [es.out]; exact e0
      have s4 : seed ≤ 1000000000 := by omega
      have E1 := hide1 e1
      clear hsd c1 c2 hz0 HZ e0 e1
      go_enter Tryd.func48, Tryd.ntmps48
      go_wp2
      go_loop [5, 6] (fun hv iv => ∃ (k x : Nat), k ≤ s.size ∧ iv = .int .i64 (k : Int) ∧ hv = .int .i64 (x : Int) ∧ x < 4294967296 ∧ Hid (x = hashK (byt s) z0 k)) (fun _ iv => s.size - (intOf iv).toNat)
      case atStart => exact ⟨0, z0, by omega, rfl, (by rw [← E1.out]), z4, rfl⟩
      case round =>
        obtain ⟨k, x, hk, rfl, rfl, hx, hxk⟩ := hrel
        by_cases hlt : k < s.size
        · have k1 : (k : Int) < (s.size : Int) := by omega
          have hb := get_byt s
          have hbl := byt_le s k
          have CX := hide1 (l04Xor_any x (byt s k) w hx (by omega))
          have hyl : x ^^^ byt s k < 4294967296 := xor_lt hx (by omega)
          obtain ⟨z, hz⟩ : ∃ z, hstep x (byt s k) = z := ⟨_, rfl⟩
          have hzl : z < 4294967296 := by rw [← hz]; exact hstep_lt _ _
          have hzk : Hid (z = hashK (byt s) z0 (k + 1)) := by show z = _; rw [← hz, hashK, hxk.out]
          unfold hstep at hz
          generalize x ^^^ byt s k = y at *
          have ez : ((y : Int) * 16777619) % 4294967296 = (z : Int) := by rw [← hz]; omega
          have wm : IntKind.i64.wrap ((y : Int) * 16777619) = (y : Int) * 16777619 := IntWalk.i64_in _ ⟨by omega, by omega⟩
          clear hz
          go_wp2_with fail
          refine CX.out.mono ?_
          rintro e w1 ⟨rfl, rfl⟩
          go_wp2
          go_round
          case rel => exact ⟨k + 1, z, by omega, by go_num, (by first | rfl | (rw [← ez]) | (rw [ez])), hzl, hzk⟩
          case measure => simp [intOf]; omega
        · obtain rfl : k = s.size := by omega
          obtain ⟨d, hd⟩ : ∃ d, x / 65536 = d := ⟨_, rfl⟩
          have ed : (x : Int) / 65536 = (d : Int) := by omega
          have CX := hide1 (l04Xor_any x d w hx (by omega))
          have HR : Hid (((x ^^^ d : Nat) : Int) = (hashN s seed : Int)) := by show ((x ^^^ d : Nat) : Int) = _; rw [HF.out, ← hxk.out, hd]
          clear hd
          generalize x ^^^ d = y at *
          go_wp2_with fail
          refine CX.out.mono ?_
          rintro e w1 ⟨rfl, rfl⟩
          go_wp2
          go_ret
          exact ⟨by rw [← HR.out]; rfl, rfl⟩
end Go.Proofs.YtdgpencendphbaaDoor
