/- The contracts of the functions of sums: at every sum and text, the program's table being as its text lays it. -/
import Derived.Test.YtbkhhkknhbddeaaDoorProg
import Derived.Test.YtbkhhkknhbddeaaDoorSum
import Derived.Test.YtbkhhkknhbddeaaDoorKitC
import Derived.Lib.LaidTab
import Derived.WalkSmall
import Derived.Handy
namespace Go.Proofs.YtbkhhkknhbddeaaDoor
open Go.RowKit

def tabI : List Int := [0, 1166650509, 2333301018, 3466261911, 3189058079, 4221339282, 889615109, 1888477064, 3558460437, 2442158232, 1594529039, 444807554, 1779230218, 797264519, 3776954128, 2761298845]
theorem tabI_at : ∀ r : Fin 16, tabI.getD r.1 0 = ((tab.getD r.1 0 : Nat) : Int) := by decide +kernel
/-- The program's table of half bytes holds what its text lays there. -/
def Tabs (w : World) : Prop := Lib.TabIs Tryd.prog w "loop.example/g00180/impl.halfByteSums" .u32 tabI
theorem gTabs : Tryd.prog.globalNamed "loop.example/g00180/impl.halfByteSums" = some 0 := by kernel_rfl
theorem Tabs.pos {w : World} (h : Tabs w) : 0 < w.heap.size := by
  unfold Tabs Lib.TabIs World.var? at h
  rw [gTabs] at h
  simp only [Option.bind_some] at h
  cases e : w.heap[0]? with
  | none => rw [e] at h; cases h
  | some x => exact (Array.getElem?_eq_some_iff.1 e).1
theorem Tabs.below {w w' : World} {B : Nat} (h : Tabs w) (hb : Below B w w') (hB : 0 < B) : Tabs w' := var?_below hb gTabs hB h
theorem Tabs.later {w w' : World} (h : Tabs w) (hb : Below w.heap.size w w') : Tabs w' := h.below hb h.pos
theorem Tabs.cell {w : World} (h : Tabs w) (r : Nat) (hr : r < 16) : w.cell? ⟨0, r, none⟩ = some (.int .u32 ((tab.getD r 0 : Nat) : Int)) := by
  rw [← tabI_at ⟨r, hr⟩]
  exact Lib.TabIs.cell h gTabs r hr

set_option maxHeartbeats 400000 in
theorem half_any (c : Nat) (hc : c < 4294967296) (w : World) (ht : Tabs w) :
    Calls Tryd.prog 88 #[.int .u32 (c : Int)] w fun e w' => e = .returned (.int .u32 ((hvs 4 c : Nat) : Int)) ∧ w = w' := by
  have x1 := ht.cell (c % 16) (Nat.mod_lt _ (by decide))
  have x2 := tab_lt ⟨c % 16, Nat.mod_lt _ (by decide)⟩
  have hf := hvs_four c
  rw [hf]
  simp only at x2
  generalize tab.getD (c % 16) 0 = t at x1 x2 ⊢
  have hx := u32_xor_nat (c / 16) t (by omega) x2
  rw [Int.natCast_ediv, show ((16 : Nat) : Int) = 16 from rfl] at hx
  clear ht hf
  go_enter Tryd.func88, Tryd.ntmps88
  go_wp2
  go_ret
  exact ⟨by rw [← hx]; rfl, rfl⟩

theorem conv_lit {P : Program} (w : World) (src dst e : TypeId) (hs : P.underlying src = some (.slice e)) (he : P.underlying e = some (.int .u8)) (hd : P.underlying dst = some .string) (l : List UInt8) (n : Nat) (hn : l.length = n) (cs : Array Value) (hcs : cs.toList = bc l) :
    (convert src dst (.slice (some ⟨w.heap.size, 0, none⟩) n n)).run P (w.alloc (.cells cs e)) = .ok (.string ⟨l.toArray⟩) (w.alloc (.cells cs e)) := by
  subst hn
  have := run_convert_bytes_back (P := P) (w.alloc (.cells cs e)) src dst e ⟨w.heap.size, 0, none⟩ l.length l hs he hd (by
    intro j hj
    rw [Addr.add_lit, Nat.zero_add, World.cell?_alloc_at _ _ _ _ rfl]
    show cs[j]? = _
    rw [← Array.getElem?_toList, hcs]
    simp [bc, List.getElem?_eq_getElem hj])
  exact this

/-- The four bytes of a sum, the highest first. -/
def four (x : Nat) : List UInt8 := [UInt8.ofNat (x / 16777216), UInt8.ofNat (x / 65536), UInt8.ofNat (x / 256), UInt8.ofNat x]
theorem four_bc (x : Nat) (h : x < 4294967296) : (#[Value.int .u8 ((x : Int) / 16777216), .int .u8 ((x : Int) / 65536 % 256), .int .u8 ((x : Int) / 256 % 256), .int .u8 ((x : Int) % 256)] : Array Value).toList = bc (four x) := by
  simp [bc, four, UInt8.toNat_ofNat']; omega

set_option maxHeartbeats 400000 in
theorem four_any (c : Nat) (hc : c < 4294967296) (w : World) :
    Calls Tryd.prog 61 #[.int .u32 (c : Int)] w fun e w' => e = .returned (.string ⟨(four c).toArray⟩) ∧ Below w.heap.size w w' := by
  have hcv := conv_lit w 22 9 5 Tryd.underlying22 Tryd.underlying5 Tryd.underlying9 (four c) 4 rfl _ (four_bc c hc)
  go_enter Tryd.func61, Tryd.ntmps61
  go_wp2
  go_ret
  exact ⟨rfl, (Below.refl _ _).alloc (Nat.le_refl _) _⟩

set_option maxHeartbeats 400000 in
theorem inBytes_any (c : Nat) (hc : c < 4294967296) (w : World) :
    Calls Tryd.prog 55 #[.int .u32 (c : Int)] w fun e w' => e = .returned (.string ⟨(four c).toArray⟩) ∧ Below w.heap.size w w' := by
  have hcv := conv_lit w 22 9 5 Tryd.underlying22 Tryd.underlying5 Tryd.underlying9 (four c) 4 rfl _ (four_bc c hc)
  go_enter Tryd.func55, Tryd.ntmps55
  go_wp2
  go_ret
  exact ⟨rfl, (Below.refl _ _).alloc (Nat.le_refl _) _⟩

set_option maxHeartbeats 400000 in
theorem specMore_any (c : Nat) (hc : c < 4294967296) (s : ByteArray) (hs : s.size ≤ 2097152) (w : World) :
    Calls Tryd.prog 79 #[.int .u32 (c : Int), .string s] w fun e w' => e = .returned (.int .u32 ((sumK (byt s) c s.size : Nat) : Int)) ∧ w = w' := by
  go_enter Tryd.func79, Tryd.ntmps79
  go_wp2
  go_loop [0, 5] (fun cv iv => ∃ (k x : Nat), k ≤ s.size ∧ iv = .int .i64 (k : Int) ∧ cv = .int .u32 (x : Int) ∧ x < 4294967296 ∧ Hid (x = sumK (byt s) c k)) (fun _ iv => s.size - (intOf iv).toNat)
  case atStart => exact ⟨0, c, by omega, rfl, rfl, hc, rfl⟩
  case round =>
    obtain ⟨k, x, hk, rfl, rfl, hx, hxe⟩ := hrel
    by_cases hlt : k < s.size
    · have hlt' : (k : Int) < (s.size : Int) := by omega
      have hb := get_byt s
      have hb1 := byt_le s k
      have hxo := u32_xor_nat x (byt s k) hx (by omega)
      have hyl := xor_lt32 hx (show byt s k < 4294967296 by omega)
      go_wp2
      generalize hy0 : x ^^^ byt s k = y0 at *
      go_loop [0, 6] (fun cv jv => ∃ (j y : Nat), j ≤ 8 ∧ jv = .int .i64 (j : Int) ∧ cv = .int .u32 (y : Int) ∧ y < 4294967296 ∧ Hid (y = hvs j y0)) (fun _ jv => 8 - (intOf jv).toNat)
      case atStart => exact ⟨0, y0, by omega, rfl, rfl, hyl, rfl⟩
      case round =>
        obtain ⟨j, y, hj, rfl, rfl, hy, hye⟩ := hrel
        by_cases hjlt : j < 8
        · by_cases ho : y % 2 = 1
          · have q1 : ((y : Int) % 2 == 1) = true := by simp; omega
            have hx2 := u32_xor_nat (y / 2) 3558460437 (by omega) (by decide)
            rw [Int.natCast_ediv] at hx2
            have hx3 := xor_lt32 (show y / 2 < 4294967296 by omega) (show 3558460437 < 4294967296 by decide)
            go_wp2
            go_round
            case rel => exact ⟨j + 1, y / 2 ^^^ 3558460437, by omega, by go_num, by rw [← hx2]; rfl, hx3, by show _ = _; rw [hvs_succ, ← hye.out, hv_odd ho]⟩
            case measure => simp [intOf]; omega
          · have q1 : ((y : Int) % 2 == 1) = false := by simp; omega
            go_wp2
            go_round
            case rel => exact ⟨j + 1, y / 2, by omega, by go_num, by rw [Int.natCast_ediv]; rfl, by omega, by show _ = _; rw [hvs_succ, ← hye.out, hv_even (by omega)]⟩
            case measure => simp [intOf]; omega
        · have hje : Hid (j = 8) := by show j = 8; omega
          go_wp2
          go_round
          case rel => exact ⟨k + 1, y, by omega, by go_num, rfl, hy, by show _ = _; rw [sumK, ← hxe.out, stepS, hy0, ← hje.out]; exact hye.out⟩
          case measure => simp [intOf]; omega
    · have hke : Hid (k = s.size) := by show k = s.size; omega
      go_wp2
      go_ret
      rw [hxe.out, hke.out]
      exact ⟨rfl, rfl⟩

set_option maxHeartbeats 400000 in
theorem more_any (c : Nat) (hc : c < 4294967296) (s : ByteArray) (hs : s.size ≤ 2097152) (w : World) (ht : Tabs w) :
    Calls Tryd.prog 84 #[.int .u32 (c : Int), .string s] w fun e w' => e = .returned (.int .u32 ((sumK (byt s) c s.size : Nat) : Int)) ∧ w = w' := by
  have HT := hide1 ht
  clear ht
  go_enter Tryd.func84, Tryd.ntmps84
  go_wp2
  go_loop [0, 5] (fun cv iv => ∃ (k x : Nat), k ≤ s.size ∧ iv = .int .i64 (k : Int) ∧ cv = .int .u32 (x : Int) ∧ x < 4294967296 ∧ Hid (x = sumK (byt s) c k)) (fun _ iv => s.size - (intOf iv).toNat)
  case atStart => exact ⟨0, c, by omega, rfl, rfl, hc, rfl⟩
  case round =>
    obtain ⟨k, x, hk, rfl, rfl, hx, hxe⟩ := hrel
    by_cases hlt : k < s.size
    · have hlt' : (k : Int) < (s.size : Int) := by omega
      have hb := get_byt s
      have hb1 := byt_le s k
      have hxo := u32_xor_nat x (byt s k) hx (by omega)
      have hyl := xor_lt32 hx (show byt s k < 4294967296 by omega)
      generalize hy0 : x ^^^ byt s k = y0 at *
      go_wp2_with fail
      refine (half_any y0 hyl w HT.out).mono ?_
      rintro e w1 ⟨rfl, rfl⟩
      have hy1 := hvs_lt 4 hyl
      generalize hz0 : hvs 4 y0 = y1 at *
      go_wp2_with fail
      refine (half_any y1 hy1 w HT.out).mono ?_
      rintro e w1 ⟨rfl, rfl⟩
      have hy2 := hvs_lt 4 hy1
      generalize hz1 : hvs 4 y1 = y2 at *
      go_wp2
      go_round
      case rel => exact ⟨k + 1, y2, by omega, by go_num, rfl, hy2, by show _ = _; rw [sumK, ← hxe.out, stepS, hy0, show (8 : Nat) = 4 + 4 from rfl, hvs_add, hz0, hz1]⟩
      case measure => simp [intOf]; omega
    · have hke : Hid (k = s.size) := by show k = s.size; omega
      go_wp2
      go_ret
      rw [hxe.out, hke.out]
      exact ⟨rfl, rfl⟩

theorem implMore_any (c : Nat) (hc : c < 4294967296) (s : ByteArray) (hs : s.size ≤ 2097152) (w : World) (ht : Tabs w) :
    Calls Tryd.prog 73 #[.int .u32 (c : Int), .string s] w fun e w' => e = .returned (.int .u32 ((sumK (byt s) c s.size : Nat) : Int)) ∧ w = w' := by
  go_enter Tryd.func73, Tryd.ntmps73
  go_wp2_with fail
  refine (more_any c hc s hs w ht).mono ?_
  rintro e w1 ⟨rfl, rfl⟩
  go_wp2
  go_ret
  exact ⟨rfl, rfl⟩

/-- The sum of a text. -/
def sumOf (s : ByteArray) : Nat := sumK (byt s) 4294967295 s.size
theorem sumOf_lt (s : ByteArray) : sumOf s < 4294967296 := sumK_lt (by decide) (fun k => by have := byt_le s k; omega) _
theorem implSumOf_any (s : ByteArray) (hs : s.size ≤ 2097152) (w : World) (ht : Tabs w) :
    Calls Tryd.prog 54 #[.string s] w fun e w' => e = .returned (.int .u32 (sumOf s : Int)) ∧ w = w' := by
  go_enter Tryd.func54, Tryd.ntmps54
  go_wp2_with fail
  refine (implMore_any 4294967295 (by decide) s hs w ht).mono ?_
  rintro e w1 ⟨rfl, rfl⟩
  go_wp2
  go_ret
  exact ⟨rfl, rfl⟩

theorem specSumOf_any (s : ByteArray) (hs : s.size ≤ 2097152) (w : World) :
    Calls Tryd.prog 62 #[.string s] w fun e w' => e = .returned (.int .u32 (sumOf s : Int)) ∧ w = w' := by
  go_enter Tryd.func62, Tryd.ntmps62
  go_wp2_with fail
  refine (specMore_any 4294967295 (by decide) s hs w).mono ?_
  rintro e w1 ⟨rfl, rfl⟩
  go_wp2
  go_ret
  exact ⟨rfl, rfl⟩
end Go.Proofs.YtbkhhkknhbddeaaDoor
