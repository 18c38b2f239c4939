/- The contracts of the functions that read figures into bytes: at every text. -/
import Derived.Test.YtdbajlbabjoohaaDoorWorths
namespace Go.Proofs.YtdbajlbabjoohaaDoor
open Go.RowKit

def gd (x : Nat) : Nat := (wv true x).getD 0
theorem gd_lt (x : Nat) : gd x < 16 := by
  unfold gd; cases h : wv true x with
  | none => decide
  | some v => exact wv_lt h
/-- The bytes of the first k pairs of figures. -/
def pL (t : Nat → Nat) : Nat → List UInt8
  | 0 => []
  | k + 1 => pL t k ++ [UInt8.ofNat (16 * gd (t (2 * k)) + gd (t (2 * k + 1)))]
theorem pL_length (t : Nat → Nat) (k : Nat) : (pL t k).length = k := by
  induction k with
  | zero => rfl
  | succ k ih => simp [pL, ih]

def allFig (t : Nat → Nat) (n : Nat) : Prop := ∀ j, j < n → (wv true (t j)).isSome = true
def unhexB (s : ByteArray) : Bool := decide (s.size ≤ 40000) && decide (s.size % 2 = 0) && (List.range s.size).all fun j => (wv true (byt s j)).isSome
def unhexV (s : ByteArray) : Value := if unhexB s = true then .tuple #[.string ⟨(pL (byt s) (s.size / 2)).toArray⟩, .bool true] else .tuple #[.string ⟨#[]⟩, .bool false]
theorem unhexB_iff (s : ByteArray) : unhexB s = true ↔ s.size ≤ 40000 ∧ s.size % 2 = 0 ∧ allFig (byt s) s.size := by
  unfold unhexB allFig
  simp [List.all_eq_true, and_assoc]
theorem unhexV_yes {s : ByteArray} (h : s.size ≤ 40000) (k : s.size % 2 = 0) (a : allFig (byt s) s.size) : unhexV s = .tuple #[.string ⟨(pL (byt s) (s.size / 2)).toArray⟩, .bool true] := by
  unfold unhexV; rw [if_pos ((unhexB_iff s).2 ⟨h, k, a⟩)]
theorem unhexV_no {s : ByteArray} (h : ¬ (s.size ≤ 40000 ∧ s.size % 2 = 0 ∧ allFig (byt s) s.size)) : unhexV s = .tuple #[.string ⟨#[]⟩, .bool false] := by
  unfold unhexV; rw [if_neg (fun e => h ((unhexB_iff s).1 e))]

set_option maxRecDepth 100000 in
set_option maxHeartbeats 800000 in
theorem implUnhex_any (s : ByteArray) (w : World) (hs : s.size ≤ 1048576) :
    Calls Tryd.prog 14 #[.string s] w fun e w' => e = .returned (unhexV s) ∧ Below w.heap.size w w' := by
  by_cases h2 : s.size % 2 = 0
  · have q2 : (((s.size : Int) % 2) != 0) = false := by simp; omega
    have H2 : Hid _ := h2
    clear h2
    by_cases h : s.size ≤ 40000
    · obtain ⟨i0, hi, hz0, hz1, hz2⟩ := info_parts Tryd.info5
      have q1 : decide ((40000 : Int) < (s.size : Int)) = false := by simp; omega
      go_enter Tryd.func14, Tryd.ntmps14
      go_wp2_with fail
      refine Calls.mono (worths_any s true _ hs) ?_
      rintro e w1 ⟨m, g, cap, b, hm, hbm, hgood, hno, rfl, hown1, hbel1⟩
      by_cases hms : m = s.size
      · obtain rfl : b = true := hbm.2 hms
        subst hms
        have hfin : Hid _ := unhexV_yes h H2.out hgood
        clear hbm hno hgood
        have hgl := (hown1.lt g rfl).2
        have hb1s := hbel1.size
        have hcell : Hid (∀ j, j < s.size → w1.cell? ⟨g, j, none⟩ = some (.int .u8 (gd (byt s j) : Int))) := by
          intro j hj
          have := hown1.cells (g := g) rfl j (.int .u8 (gd (byt s j) : Int)) (by
            unfold bc; rw [List.getElem?_map, wL_at _ _ _ _ hj]
            have := gd_lt (byt s j)
            unfold gd at this ⊢
            simp only [Option.map_some, UInt8.toNat_ofNat']
            rw [Nat.mod_eq_of_lt (by omega)])
          rw [Addr.add_lit, Nat.zero_add] at this
          exact this
        go_wp2_with (at_make; (refine wpList_make_own _ rfl _ _ 22 rfl w1.heap.size 5 i0 (.int .u8 0) 1 Tryd.underlying22 hi hz0 hz1 _ _ _ (s.size / 2) rfl rfl (by omega) (by rw [hz2]; omega) (by unfold maxLen; omega) (Nat.le_refl _) ?_; intro w0 hown0 hg0))
        go_loopw [6, 7] (fun v iv wr => ∃ (i k : Nat) (acc : List UInt8), i ≤ s.size ∧ Hid (i = 2 * k) ∧ iv = .int .i64 (i : Int) ∧ Hid (acc = pL (byt s) k) ∧ acc.length ≤ i ∧ wr.ownsRow w1.heap.size 5 1 v acc.length (bc acc) ∧ Below w1.heap.size w1 wr) (fun _ iv _ => s.size - (intOf iv).toNat)
        case atStart => exact ⟨0, 0, [], by omega, rfl, rfl, rfl, by simp, hown0, Below.grown (Below.refl _ _) hg0 (Nat.le_refl _) (by intro k hk; cases hk)⟩
        case round =>
          obtain ⟨i, k, acc, hk, hik, rfl, hacc, hal, hown, hbel⟩ := hrel
          have hbs := hbel.size
          by_cases hlt : i < s.size
          · have hlt2 : i + 1 < s.size := by have := H2.out; have := hik.out; omega
            have g1 := gd_lt (byt s i)
            have g2 := gd_lt (byt s (i + 1))
            have x1 : wr.cell? ⟨g, i, none⟩ = some (.int .u8 (gd (byt s i) : Int)) := (hbel.cell (p := ⟨g, i, none⟩) hgl).trans (hcell.out i hlt)
            have x2 : wr.cell? ⟨g, i + 1, none⟩ = some (.int .u8 (gd (byt s (i + 1)) : Int)) := (hbel.cell (p := ⟨g, i + 1, none⟩) hgl).trans (hcell.out (i + 1) hlt2)
            obtain ⟨x, hx⟩ : ∃ x, x = gd (byt s i) := ⟨_, rfl⟩
            obtain ⟨y, hy⟩ : ∃ y, y = gd (byt s (i + 1)) := ⟨_, rfl⟩
            rw [← hx] at g1 x1
            rw [← hy] at g2 x2
            have X : Hid _ := hx
            have Y : Hid _ := hy
            clear hx hy
            have k1 : (i : Int) < (s.size : Int) := by omega
            have k2 : (i : Int) + 1 < (s.size : Int) := by omega
            have r1 : IntKind.u8.wrap ((x : Int) * 16) = (x : Int) * 16 := IntWalk.u8_in _ ⟨by omega, by omega⟩
            have r2 : IntKind.u8.wrap ((x : Int) * 16 + (y : Int)) = (x : Int) * 16 + (y : Int) := IntWalk.u8_in _ ⟨by omega, by omega⟩
            have r3 : IntKind.i64.wrap ((i : Int) + 1) = (i : Int) + 1 := IntWalk.i64_in _ ⟨by omega, by omega⟩
            have r4 : ((i : Int) + 1).toNat = i + 1 := by omega
            obtain ⟨b, hbe, hbn⟩ := byte_of (16 * x + y) (by omega)
            have r5 : (x : Int) * 16 + (y : Int) = (b.toNat : Int) := by omega
            have r6 : IntKind.u8.wrap (b.toNat : Int) = (b.toNat : Int) := IntWalk.u8_in _ ⟨by omega, by omega⟩
            have k3 : (0 : Int) ≤ (i : Int) + 1 := by omega
            have k4 : (0 : Int) ≤ (i : Int) := by omega
            clear hbn r2
            go_wp2_with fail
            go_region_held3 (fun w' => w'.cell? ⟨g, i, none⟩ = some (.int .u8 (x : Int)) ∧ w'.cell? ⟨g, i + 1, none⟩ = some (.int .u8 (y : Int))) (first | go_keep | exact ⟨(hbb.cell (p := ⟨g, i, none⟩) hgl).trans x1, (hbb.cell (p := ⟨g, i + 1, none⟩) hgl).trans x2⟩) ((refine step_push rfl (.tmp 34) (.tmp 46) 22 rfl w1.heap.size 5 i0 Tryd.underlying22 hi hz0 hz1 hz2 u6 acc (by rfl) (by exact (hown.alloc _).drew) [b] ⟨wr.heap.size, 0, none⟩ 1 1 rfl (by rfl) (by exact cell_one_new _ _ _) (by omega) (by simp; omega) ?_; intro v' w2 hown' hb'; have hbb := ((Below.refl w1.heap.size wr).drew.alloc hbs _).trans hb'))
            all_goals
              go_wp2
              go_roundw
              case rel =>
                refine ⟨i + 2, k + 1, acc ++ [b], by omega, ?_, by go_num, ?_, by simp; omega, hown', hbel.trans hbb⟩
                · show i + 2 = 2 * (k + 1); have := hik.out; omega
                · show acc ++ [b] = pL (byt s) (k + 1)
                  rw [hacc.out, hbe.out, pL, ← hik.out, X.out, Y.out]
              case measure => simp [intOf]; omega
          · have hcv := conv_own 22 9 5 Tryd.underlying22 Tryd.underlying5 Tryd.underlying9 hown
            go_wp2
            go_ret2
            exact ⟨by rw [hfin.out]; exact ret_str_bool (by rw [hacc.out, show k = s.size / 2 by have := hik.out; omega]) rfl, hbel1.trans (hbel.mono hb1s)⟩
      · have hb : b = false := by cases b with
          | false => rfl
          | true => exact absurd (hbm.1 rfl) hms
        subst hb
        have hfin : Hid _ := unhexV_no (s := s) (fun hh => by have := hh.2.2 m (by omega); rw [hno (by omega)] at this; cases this)
        clear hno hgood hbm
        go_wp2
        go_ret2
        exact ⟨by rw [hfin.out]; rfl, hbel1⟩
    · rw [unhexV_no (fun hh => h hh.1)]
      have q1 : decide ((40000 : Int) < (s.size : Int)) = true := by simp; omega
      go_enter Tryd.func14, Tryd.ntmps14
      go_wp2
      go_ret2
      exact ⟨rfl, Below.refl _ _⟩
  · rw [unhexV_no (fun hh => h2 hh.2.1)]
    have q2 : (((s.size : Int) % 2) != 0) = true := by simp; omega
    go_enter Tryd.func14, Tryd.ntmps14
    go_wp2
    go_ret2
    exact ⟨rfl, Below.refl _ _⟩
end Go.Proofs.YtdbajlbabjoohaaDoor
