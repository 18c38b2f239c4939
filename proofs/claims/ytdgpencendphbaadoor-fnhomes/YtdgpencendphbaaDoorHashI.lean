/- The number of a key, by the program. -/
import Derived.Test.YtdgpencendphbaaDoorTabH
import Derived.WalkSmall
namespace Go.Proofs.YtdgpencendphbaaDoor
open Go.RowKit

theorem hash0_eq (seed : Int) : hash0 seed = 2166136261 + seedOf seed := by
  have := seedOf_le seed
  unfold hash0
  omega

set_option maxRecDepth 100000 in
set_option maxHeartbeats 1000000 in
theorem implHash_any (s : ByteArray) (seed : Int) (w : World) (hs : s.size ≤ 1048576) (h1 : -9223372036854775808 ≤ seed) (h2 : seed ≤ 9223372036854775807) :
    Calls Tryd.prog 57 #[.string s, .int .i64 seed] w fun e w' => e = .returned (.int .i64 (hashN s seed : Int)) ∧ w = w' := by
  obtain ⟨z0, hz0⟩ : ∃ z0, hash0 seed = z0 := ⟨_, rfl⟩
  have z4 : z0 < 4294967296 := by rw [← hz0]; exact hash0_lt seed
  have HF : Hid (hashN s seed = hashK (byt s) z0 s.size ^^^ (hashK (byt s) z0 s.size / 65536)) := by show hashN s seed = _; rw [hashN, hz0]
  have HC : Hid ((seed < 0 ∧ z0 = 2166136261) ∨ (1000000000 < seed ∧ z0 = 3166136261) ∨ (0 ≤ seed ∧ seed ≤ 1000000000 ∧ (z0 : Int) = 2166136261 + seed)) := by
    show _ ∨ _
    rw [← hz0, hash0_eq]
    unfold seedOf
    by_cases c1 : seed < 0
    · exact .inl ⟨c1, by rw [if_pos c1]⟩
    · by_cases c2 : 1000000000 < seed
      · exact .inr (.inl ⟨c2, by rw [if_neg c1, if_pos c2]⟩)
      · exact .inr (.inr ⟨by omega, by omega, by rw [if_neg c1, if_neg c2]; omega⟩)
  clear hz0
  have tail : ∀ (k x : Nat), Hid (x = hashK (byt s) z0 k) → x < 4294967296 → k < s.size → ∃ y z : Nat, (x ^^^ byt s k = y) ∧ y < 4294967296 ∧ ((y : Int) * 16777619) % 4294967296 = (z : Int) ∧ z < 4294967296 ∧ Hid (z = hashK (byt s) z0 (k + 1)) := by
    intro k x hx hxl hk
    have hbl := byt_le s k
    refine ⟨_, hstep x (byt s k), rfl, xor_lt hxl (by omega), ?_, hstep_lt _ _, ?_⟩
    · unfold hstep; omega
    · show hstep x (byt s k) = _; rw [hashK, hx.out]
  rcases HC.out with ⟨c, e0⟩ | ⟨c, e0⟩ | ⟨c, c', e0⟩
  · have E0 := hide1 e0
    have m1 : (if seed < 0 then (0 : Int) else seed) = 0 := if_pos c
    have HCC := hide1 c
    clear HC c e0
    go_enter Tryd.func57, Tryd.ntmps57
    go_wp2
    go_loop [5, 6] (fun hv iv => ∃ (k x : Nat), k ≤ s.size ∧ iv = .int .i64 (k : Int) ∧ hv = .int .u32 (x : Int) ∧ x < 4294967296 ∧ Hid (x = hashK (byt s) z0 k)) (fun _ iv => s.size - (intOf iv).toNat)
    case atStart => exact ⟨0, z0, by omega, rfl, by rw [E0.out]; rfl, z4, rfl⟩
    case round =>
      obtain ⟨k, x, hk, rfl, rfl, hx, hxk⟩ := hrel
      by_cases hlt : k < s.size
      · have k1 : (k : Int) < (s.size : Int) := by omega
        have hb := get_byt s
        have hbl := byt_le s k
        have hxo := u32_xor_nat x (byt s k) hx (by omega)
        obtain ⟨y, z, hy, hyl, ez, hzl, hzk⟩ := tail k x hxk hx hlt
        rw [hy] at hxo
        have wz : IntKind.u32.wrap ((y : Int) * 16777619) = (z : Int) := by rw [← ez]; rfl
        have EZ := hide1 ez
        clear hy ez tail
        go_wp2
        go_round
        case rel => exact ⟨k + 1, z, by omega, by go_num, (by first | rfl | rw [← EZ.out] | rw [EZ.out]), hzl, hzk⟩
        case measure => simp [intOf]; omega
      · obtain rfl : k = s.size := by omega
        obtain ⟨d, hd⟩ : ∃ d, x / 65536 = d := ⟨_, rfl⟩
        have ed : (x : Int) / 65536 = (d : Int) := by omega
        have hxo := u32_xor_nat x d hx (by omega)
        have HR : Hid (((x ^^^ d : Nat) : Int) = (hashN s seed : Int)) := by show ((x ^^^ d : Nat) : Int) = _; rw [HF.out, ← hxk.out, hd]
        have hyl : x ^^^ d < 4294967296 := xor_lt hx (by omega)
        clear hd tail
        generalize x ^^^ d = y at *
        go_wp2
        go_ret
        exact ⟨by rw [← HR.out]; rfl, rfl⟩
  · have E0 := hide1 e0
    have m1 : (if seed < 0 then (0 : Int) else seed) = seed := if_neg (by omega)
    have m2 : (if seed ≤ 1000000000 then seed else 1000000000) = 1000000000 := if_neg (by omega)
    clear HC e0
    go_enter Tryd.func57, Tryd.ntmps57
    go_wp2
    go_loop [5, 6] (fun hv iv => ∃ (k x : Nat), k ≤ s.size ∧ iv = .int .i64 (k : Int) ∧ hv = .int .u32 (x : Int) ∧ x < 4294967296 ∧ Hid (x = hashK (byt s) z0 k)) (fun _ iv => s.size - (intOf iv).toNat)
    case atStart => exact ⟨0, z0, by omega, rfl, by rw [E0.out]; rfl, z4, rfl⟩
    case round =>
      obtain ⟨k, x, hk, rfl, rfl, hx, hxk⟩ := hrel
      by_cases hlt : k < s.size
      · have k1 : (k : Int) < (s.size : Int) := by omega
        have hb := get_byt s
        have hbl := byt_le s k
        have hxo := u32_xor_nat x (byt s k) hx (by omega)
        obtain ⟨y, z, hy, hyl, ez, hzl, hzk⟩ := tail k x hxk hx hlt
        rw [hy] at hxo
        have wz : IntKind.u32.wrap ((y : Int) * 16777619) = (z : Int) := by rw [← ez]; rfl
        have EZ := hide1 ez
        clear hy ez tail
        go_wp2
        go_round
        case rel => exact ⟨k + 1, z, by omega, by go_num, (by first | rfl | rw [← EZ.out] | rw [EZ.out]), hzl, hzk⟩
        case measure => simp [intOf]; omega
      · obtain rfl : k = s.size := by omega
        obtain ⟨d, hd⟩ : ∃ d, x / 65536 = d := ⟨_, rfl⟩
        have ed : (x : Int) / 65536 = (d : Int) := by omega
        have hxo := u32_xor_nat x d hx (by omega)
        have HR : Hid (((x ^^^ d : Nat) : Int) = (hashN s seed : Int)) := by show ((x ^^^ d : Nat) : Int) = _; rw [HF.out, ← hxk.out, hd]
        have hyl : x ^^^ d < 4294967296 := xor_lt hx (by omega)
        clear hd tail
        generalize x ^^^ d = y at *
        go_wp2
        go_ret
        exact ⟨by rw [← HR.out]; rfl, rfl⟩
  · have E0 := hide1 e0
    have m1 : (if seed < 0 then (0 : Int) else seed) = seed := if_neg (by omega)
    have m2 : (if seed ≤ 1000000000 then seed else 1000000000) = seed := if_pos (by omega)
    have wu : IntKind.u32.wrap (2166136261 + seed) = 2166136261 + seed := by show (2166136261 + seed) % 4294967296 = _; omega
    clear HC e0
    go_enter Tryd.func57, Tryd.ntmps57
    go_wp2
    go_loop [5, 6] (fun hv iv => ∃ (k x : Nat), k ≤ s.size ∧ iv = .int .i64 (k : Int) ∧ hv = .int .u32 (x : Int) ∧ x < 4294967296 ∧ Hid (x = hashK (byt s) z0 k)) (fun _ iv => s.size - (intOf iv).toNat)
    case atStart => exact ⟨0, z0, by omega, rfl, by rw [E0.out], z4, rfl⟩
    case round =>
      obtain ⟨k, x, hk, rfl, rfl, hx, hxk⟩ := hrel
      by_cases hlt : k < s.size
      · have k1 : (k : Int) < (s.size : Int) := by omega
        have hb := get_byt s
        have hbl := byt_le s k
        have hxo := u32_xor_nat x (byt s k) hx (by omega)
        obtain ⟨y, z, hy, hyl, ez, hzl, hzk⟩ := tail k x hxk hx hlt
        rw [hy] at hxo
        have wz : IntKind.u32.wrap ((y : Int) * 16777619) = (z : Int) := by rw [← ez]; rfl
        have EZ := hide1 ez
        clear hy ez tail
        go_wp2
        go_round
        case rel => exact ⟨k + 1, z, by omega, by go_num, (by first | rfl | rw [← EZ.out] | rw [EZ.out]), hzl, hzk⟩
        case measure => simp [intOf]; omega
      · obtain rfl : k = s.size := by omega
        obtain ⟨d, hd⟩ : ∃ d, x / 65536 = d := ⟨_, rfl⟩
        have ed : (x : Int) / 65536 = (d : Int) := by omega
        have hxo := u32_xor_nat x d hx (by omega)
        have HR : Hid (((x ^^^ d : Nat) : Int) = (hashN s seed : Int)) := by show ((x ^^^ d : Nat) : Int) = _; rw [HF.out, ← hxk.out, hd]
        have hyl : x ^^^ d < 4294967296 := xor_lt hx (by omega)
        clear hd tail
        generalize x ^^^ d = y at *
        go_wp2
        go_ret
        exact ⟨by rw [← HR.out]; rfl, rfl⟩
end Go.Proofs.YtdgpencendphbaaDoor
