/- The contracts of the functions that write figures: at every text. -/
import Derived.Test.YtdbajlbabjoohaaDoorVar
import Derived.Test.YtdbajlbabjoohaaDoorKitC
import Derived.Deep.RegionHeld3
import Derived.Deep.RegionWith
namespace Go.Proofs.YtdbajlbabjoohaaDoor
open Go.RowKit

/-- The figure of a number below 16. -/
def fig (x : Nat) : UInt8 := if x < 10 then UInt8.ofNat (48 + x) else UInt8.ofNat (87 + x)
/-- The figures of the first k bytes. -/
def hexL (t : Nat → Nat) : Nat → List UInt8
  | 0 => []
  | k + 1 => hexL t k ++ [fig (t k / 16), fig (t k % 16)]
theorem hexL_length (t : Nat → Nat) (k : Nat) : (hexL t k).length = 2 * k := by
  induction k with
  | zero => rfl
  | succ k ih => simp [hexL, ih]; omega

def hexV (s : ByteArray) : Value := if s.size ≤ 20000 then .tuple #[.string ⟨(hexL (byt s) s.size).toArray⟩, .bool true] else .tuple #[.string ⟨#[]⟩, .bool false]

/-- The figures, in order. -/
theorem figs_at : ∀ x : Fin 16, byt { data := #[48, 49, 50, 51, 52, 53, 54, 55, 56, 57, 97, 98, 99, 100, 101, 102] } x.val = (fig x.val).toNat := by decide +kernel
/-- A figure out of the table of figures. -/
theorem index_figs {P : Program} (t : TypeId) (h : P.underlying t = some .string) (x : Nat) (hx : x < 16) (y : Int) (hy : y = (x : Int)) (w : World) :
    (Instr.index t (.string { data := #[48, 49, 50, 51, 52, 53, 54, 55, 56, 57, 97, 98, 99, 100, 101, 102] }) (.int .u8 y)).run P w = .ok (.int .u8 ((fig x).toNat : Int)) w := by
  have e : byt { data := #[48, 49, 50, 51, 52, 53, 54, 55, 56, 57, 97, 98, 99, 100, 101, 102] } x = (fig x).toNat := figs_at ⟨x, hx⟩
  have hc : ({ data := #[48, 49, 50, 51, 52, 53, 54, 55, 56, 57, 97, 98, 99, 100, 101, 102] } : ByteArray).size = 16 := rfl
  generalize ({ data := #[48, 49, 50, 51, 52, 53, 54, 55, 56, 57, 97, 98, 99, 100, 101, 102] } : ByteArray) = C at e hc ⊢
  subst hy
  have hx' : (x : Int) < (C.size : Int) := by omega
  have hb := get_byt C
  simp [go_sem, h, hx', hb, e]

set_option maxRecDepth 100000 in
set_option maxHeartbeats 400000 in
theorem implHex_any (s : ByteArray) (w : World) (hs : s.size ≤ 1048576) :
    Calls Tryd.prog 13 #[.string s] w fun e w' => e = .returned (hexV s) ∧ Below w.heap.size w w' := by
  unfold hexV
  by_cases h : s.size ≤ 20000
  · rw [if_pos h]
    obtain ⟨i0, hi, hz0, hz1, hz2⟩ := info_parts Tryd.info5
    have q1 : decide ((20000 : Int) < (s.size : Int)) = false := by simp; omega
    go_enter Tryd.func13, Tryd.ntmps13
    go_wp2_with (at_make; (refine wpList_make_own _ rfl _ _ 22 rfl w.heap.size 5 i0 (.int .u8 0) 1 Tryd.underlying22 hi hz0 hz1 _ _ _ (2 * s.size) rfl rfl (by omega) (by rw [hz2]; omega) (by unfold maxLen; omega) (Nat.le_refl _) ?_; intro w0 hown0 hg0))
    go_loopw [4, 5] (fun v iv wr => ∃ (k : Nat) (acc : List UInt8), k ≤ s.size ∧ iv = .int .i64 (k : Int) ∧ Hid (acc = hexL (byt s) k) ∧ acc.length ≤ 2 * k ∧ wr.ownsRow w.heap.size 5 1 v acc.length (bc acc) ∧ Below w.heap.size w wr) (fun _ iv _ => s.size - (intOf iv).toNat)
    case atStart => exact ⟨0, [], by omega, rfl, rfl, by simp, hown0, Below.grown (Below.refl _ _) hg0 (Nat.le_refl _) (by intro k hk; cases hk)⟩
    case round =>
      obtain ⟨k, acc, hk, rfl, hacc, hal, hown, hbel⟩ := hrel
      have hbs := hbel.size
      by_cases hlt : k < s.size
      · have hlt' : (k : Int) < (s.size : Int) := by omega
        have hb := get_byt s
        have hb1 := byt_le s k
        obtain ⟨b1, hb1e⟩ : ∃ b, b = fig (byt s k / 16) := ⟨_, rfl⟩
        obtain ⟨b2, hb2e⟩ : ∃ b, b = fig (byt s k % 16) := ⟨_, rfl⟩
        have r2 : (byt s k : Int).tdiv 16 = (byt s k : Int) / 16 := Int.tdiv_eq_ediv_of_nonneg (by omega)
        have r3 : IntKind.u8.wrap ((byt s k : Int) / 16) = (byt s k : Int) / 16 := IntWalk.u8_in _ ⟨by omega, by omega⟩
        have r4 : (byt s k : Int).tmod 16 = (byt s k : Int) % 16 := Int.tmod_eq_emod_of_nonneg (by omega)
        have r5 : IntKind.u8.wrap ((byt s k : Int) % 16) = (byt s k : Int) % 16 := IntWalk.u8_in _ ⟨by omega, by omega⟩
        have x1 := fun w => index_figs (P := Tryd.prog) 9 Tryd.underlying9 (byt s k / 16) (by omega) ((byt s k : Int) / 16) (by omega) w
        have x2 := fun w => index_figs (P := Tryd.prog) 9 Tryd.underlying9 (byt s k % 16) (by omega) ((byt s k : Int) % 16) (by omega) w
        rw [← hb1e] at x1
        rw [← hb2e] at x2
        have E1 : Hid _ := hb1e
        have E2 : Hid _ := hb2e
        clear hb1e hb2e
        go_wp2_with fail
        go_region_held3 (fun _ => True) (trivial) ((refine step_push rfl (.tmp 19) (.tmp 30) 22 rfl w.heap.size 5 i0 Tryd.underlying22 hi hz0 hz1 hz2 u4 acc (by rfl) (by exact hown.drew.alloc _) [b1, b2] ⟨wr.heap.size, 0, none⟩ 2 2 rfl (by rfl) (by exact cell_two_new _ _ _ _) (by omega) (by simp; omega) ?_; intro v' w1 hown' hb'))
        all_goals
          go_wp2
          go_roundw
          case rel => exact ⟨k + 1, acc ++ [b1, b2], by omega, by go_num, by rw [hacc.out, E1.out, E2.out]; rfl, by simp; omega, hown', (hbel.drew.alloc hbs _).trans hb'⟩
          case measure => simp [intOf]; omega
      · have hcv := conv_own 22 9 5 Tryd.underlying22 Tryd.underlying5 Tryd.underlying9 hown
        go_wp2
        go_ret2
        exact ⟨ret_str_bool (by rw [hacc.out, show k = s.size by omega]) rfl, hbel⟩
  · rw [if_neg h]
    go_enter Tryd.func13, Tryd.ntmps13
    go_wp2
    go_ret2
    exact ⟨rfl, Below.refl _ _⟩
end Go.Proofs.YtdbajlbabjoohaaDoor
