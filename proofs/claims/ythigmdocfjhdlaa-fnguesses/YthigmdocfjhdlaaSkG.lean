/- A sketch on the program's grid. -/
import Derived.Test.YthigmdocfjhdlaaSkB
import Derived.Test.YthigmdocfjhdlaaSkP
import Derived.Test.YthigmdocfjhdlaaHashI
namespace Go.Proofs.Ythigmdocfjhdlaa
open Go.RowKit

/-- The cells of a grid. -/
def grC (l : List Int) (ad : Int) : List Value := iz l ++ [.int .i64 ad]
/-- A grid in memory. -/
def Grd (w : World) (g : Nat) (l : List Int) (ad : Int) : Prop := Blk w g 45 (grC l ad)
theorem Grd.lt {w : World} {g : Nat} {l : List Int} {ad : Int} (h : Grd w g l ad) : g < w.heap.size := Blk.lt h
theorem Grd.cell {w : World} {g : Nat} {l : List Int} {ad : Int} (h : Grd w g l ad) (k : Nat) (hk : k < l.length) : w.cell? ⟨g, k, none⟩ = some (.int .i64 (gK l k)) := by
  rw [Blk.cell h k, grC, List.getElem?_append_left (by rw [iz_length]; exact hk), iz_get l k hk, gK_get l k hk]
theorem Grd.adds {w : World} {g : Nat} {l : List Int} {ad : Int} (h : Grd w g l ad) (hl : l.length = 48) : w.cell? ⟨g, 48, none⟩ = some (.int .i64 ad) := by
  rw [Blk.cell h 48, grC, List.getElem?_append_right (by rw [iz_length]; omega), iz_length, hl]
  rfl
theorem Grd.froz {w : World} {g : Nat} {l : List Int} {ad : Int} (h : Grd w g l ad) (j : Nat) : w.frozen? ⟨g, j, none⟩ = false := Blk.froz h j
theorem Grd.set {w : World} {g : Nat} {l : List Int} {ad : Int} (h : Grd w g l ad) (k : Nat) (hk : k < l.length) (v : Int) : Grd (w.setCell ⟨g, k, none⟩ (.int .i64 v)) g (l.set k v) ad := by
  have := Blk.set h k (.int .i64 v)
  rw [grC, List.set_append_left _ _ (by rw [iz_length]; exact hk), ← iz_set] at this
  exact this
theorem Grd.setAdds {w : World} {g : Nat} {l : List Int} {ad : Int} (h : Grd w g l ad) (hl : l.length = 48) (v : Int) : Grd (w.setCell ⟨g, 48, none⟩ (.int .i64 v)) g l v := by
  have := Blk.set h 48 (.int .i64 v)
  rw [grC, List.set_append_right _ _ (by rw [iz_length]; omega), iz_length, hl] at this
  exact this
theorem Grd.below {w w' : World} {g B : Nat} {l : List Int} {ad : Int} (h : Grd w g l ad) (hb : Below B w w') (hr : g < B) : Grd w' g l ad := Blk.below h hb hr
theorem Grd.later {w w' : World} {g : Nat} {l : List Int} {ad : Int} (h : Grd w g l ad) (hb : Below w.heap.size w w') : Grd w' g l ad := Blk.below h hb (Blk.lt h)
theorem row_of (i : Nat) (hi : i < 48) : ∃ r p : Nat, i = r * 16 + p ∧ r < 3 ∧ p < 16 ∧ (i : Int).tdiv 16 = (r : Int) ∧ (i : Int).tmod 16 = (p : Int) := by
  refine ⟨i / 16, i % 16, by omega, by omega, by omega, ?_, ?_⟩
  · rw [Int.tdiv_eq_ediv_of_nonneg (by omega)]; omega
  · rw [Int.tmod_eq_emod_of_nonneg (by omega)]; omega

set_option maxRecDepth 100000 in
set_option maxHeartbeats 2000000 in
theorem gridOf_any (ao : Option Addr) (l : List Int) (ca : Nat) (ad : Int) (w : World) (hA : RdZ w ao l) :
    Calls Try.prog 20 #[skV ao l.length ca ad] w fun e w' => ((e = .returned (.tuple #[.pointer none, .bool false]) ∧ ¬ OkK l ad) ∨ ∃ g, e = .returned (.tuple #[.pointer (some ⟨g, 0, none⟩), .bool true]) ∧ OkK l ad ∧ w.heap.size ≤ g ∧ Grd w' g l ad) ∧ Below w.heap.size w w' := by
  have HA := hide1 hA
  clear hA
  unfold skV
  have HB := hide1 (fun o => (Below.refl w.heap.size w).alloc (Nat.le_refl _) o)
  go_enter Try.func20, Try.ntmps20
  by_cases c1 : l.length = 48
  · have q1 : ((l.length : Int) != 48) = false := by simp [c1]
    by_cases c2 : 0 ≤ ad ∧ ad < 100
    · have q2 : decide (ad < 0) = false := by simp; omega
      have q3 : decide (100 ≤ ad) = false := by simp; omega
      have C1 := hide1 c1
      have C2 := hide1 c2
      have F0 : Hid (_ ∧ _ ∧ _) := hide1 (blkN2 w #[.slice ao l.length ca, .int .i64 ad] (grC (List.replicate 48 0) ad).toArray 28 45)
      have hgr : (grC (List.replicate 48 0) ad).toArray = #[.int .i64 0, .int .i64 0, .int .i64 0, .int .i64 0, .int .i64 0, .int .i64 0, .int .i64 0, .int .i64 0, .int .i64 0, .int .i64 0, .int .i64 0, .int .i64 0, .int .i64 0, .int .i64 0, .int .i64 0, .int .i64 0, .int .i64 0, .int .i64 0, .int .i64 0, .int .i64 0, .int .i64 0, .int .i64 0, .int .i64 0, .int .i64 0, .int .i64 0, .int .i64 0, .int .i64 0, .int .i64 0, .int .i64 0, .int .i64 0, .int .i64 0, .int .i64 0, .int .i64 0, .int .i64 0, .int .i64 0, .int .i64 0, .int .i64 0, .int .i64 0, .int .i64 0, .int .i64 0, .int .i64 0, .int .i64 0, .int .i64 0, .int .i64 0, .int .i64 0, .int .i64 0, .int .i64 0, .int .i64 0, .int .i64 ad] := rfl
      rw [hgr] at F0
      have hrg : Hid (#[.int .i64 0, .int .i64 0, .int .i64 0, .int .i64 0, .int .i64 0, .int .i64 0, .int .i64 0, .int .i64 0, .int .i64 0, .int .i64 0, .int .i64 0, .int .i64 0, .int .i64 0, .int .i64 0, .int .i64 0, .int .i64 0, .int .i64 0, .int .i64 0, .int .i64 0, .int .i64 0, .int .i64 0, .int .i64 0, .int .i64 0, .int .i64 0, .int .i64 0, .int .i64 0, .int .i64 0, .int .i64 0, .int .i64 0, .int .i64 0, .int .i64 0, .int .i64 0, .int .i64 0, .int .i64 0, .int .i64 0, .int .i64 0, .int .i64 0, .int .i64 0, .int .i64 0, .int .i64 0, .int .i64 0, .int .i64 0, .int .i64 0, .int .i64 0, .int .i64 0, .int .i64 0, .int .i64 0, .int .i64 0, .int .i64 ad].toList = grC (List.replicate 48 0) ad) := hide1 rfl
      clear c1 c2 hgr
      go_wp2
      generalize (w.alloc (.cells #[.slice ao l.length ca, .int .i64 ad] 28)).alloc (.cells #[.int .i64 0, .int .i64 0, .int .i64 0, .int .i64 0, .int .i64 0, .int .i64 0, .int .i64 0, .int .i64 0, .int .i64 0, .int .i64 0, .int .i64 0, .int .i64 0, .int .i64 0, .int .i64 0, .int .i64 0, .int .i64 0, .int .i64 0, .int .i64 0, .int .i64 0, .int .i64 0, .int .i64 0, .int .i64 0, .int .i64 0, .int .i64 0, .int .i64 0, .int .i64 0, .int .i64 0, .int .i64 0, .int .i64 0, .int .i64 0, .int .i64 0, .int .i64 0, .int .i64 0, .int .i64 0, .int .i64 0, .int .i64 0, .int .i64 0, .int .i64 0, .int .i64 0, .int .i64 0, .int .i64 0, .int .i64 0, .int .i64 0, .int .i64 0, .int .i64 0, .int .i64 0, .int .i64 0, .int .i64 0, .int .i64 ad] 45) = w0 at F0 ⊢
      obtain ⟨K0, K1, B0⟩ := F0.out
      rw [hrg.out] at K1
      have K0 := hide1 K0
      have K1 : Hid (Grd w0 (w.heap.size + 1) (List.replicate 48 0) ad) := hide1 K1
      have B0 := hide1 B0
      clear F0 hrg HB
      go_loopw [25] (fun iv wr => ∃ i : Nat, i ≤ 48 ∧ iv = .int .i64 (i : Int) ∧ Hid (Blk wr w.heap.size 28 [.slice ao l.length ca, .int .i64 ad]) ∧ Hid (Grd wr (w.heap.size + 1) (l.take i ++ List.replicate (l.length - i) 0) ad) ∧ Hid (∀ j, j < i → 0 ≤ gK l j ∧ gK l j ≤ 15) ∧ Hid (Below w.heap.size w wr)) (fun iv _ => 48 - (intOf iv).toNat)
      case atStart => exact ⟨0, by omega, rfl, K0, by rw [C1.out]; exact K1, (fun j hj => by omega), B0⟩
      case round =>
        obtain ⟨i, hi, rfl, hK, hG, hall, hbel⟩ := hrel
        by_cases hlt : i < 48
        · have k1 : (i : Int) < 48 := by omega
          have hil : i < l.length := by have := C1.out; omega
          have k2 : (i : Int) < (l.length : Int) := by omega
          obtain ⟨b, o, rfl, hb, h1⟩ := (HA.out.later hbel.out) i hil
          have x0 : wr.cell? ⟨w.heap.size, 0, none⟩ = some (.slice (some ⟨b, o, none⟩) l.length ca) := hK.out.cell 0
          rw [gK_get l i hil] at h1
          obtain ⟨r, p, hrp, hr, hp, e1, e2⟩ := row_of i hlt
          have hlen : Hid ((l.take i ++ List.replicate (l.length - i) 0).length = 48) := hide1 (by have := C1.out; simp; omega)
          have x1 := hG.out.cell (r * 16 + p) (by rw [hlen.out]; omega)
          have x2 := hG.out.froz (r * 16 + p)
          obtain ⟨s, hs⟩ : ∃ s, gK l i = s := ⟨_, rfl⟩
          rw [hs] at h1
          have HS := hide1 hs
          have HRP := hide1 hrp
          clear hs hrp
          by_cases c3 : 0 ≤ s
          · by_cases c4 : s ≤ 15
            · have q4 : decide (s < 0) = false := by simp; omega
              have q5 : decide (15 < s) = false := by simp; omega
              go_wp2
              go_roundw
              case rel =>
                have st := hG.out.set (r * 16 + p) (by rw [hlen.out]; omega) s
                rw [← HRP.out, fill_setZ l 0 s i hil (by rw [gK_get l i hil]; exact HS.out)] at st
                refine ⟨i + 1, by omega, by go_num, hK.out.far _ _ (by dsimp only; omega), by rw [HRP.out] at st ⊢; exact st, fun j hj => ?_, hbel.out.setCell (p := ⟨w.heap.size + 1, _, none⟩) (by dsimp only; omega) _⟩
                by_cases hj2 : j < i
                · exact hall.out j hj2
                · rw [show j = i by omega, HS.out]; exact ⟨c3, c4⟩
              case measure => simp [intOf]; omega
            · have q4 : decide (s < 0) = false := by simp; omega
              have q5 : decide (15 < s) = true := by simp; omega
              go_wp2
              go_returns
              exact ⟨.inl ⟨rfl, fun h => by have := h.in15.g i; rw [HS.out] at this; omega⟩, hbel.out⟩
          · have q4 : decide (s < 0) = true := by simp; omega
            go_wp2
            go_returns
            exact ⟨.inl ⟨rfl, fun h => by have := h.in15.g i; rw [HS.out] at this; omega⟩, hbel.out⟩
        · obtain rfl : i = 48 := by omega
          go_wp2
          go_returns
          refine ⟨.inr ⟨_, rfl, ⟨C1.out, C2.out.1, by have := C2.out; omega, fun i hi => by rw [gK_get l i hi]; exact hall.out i (by have := C1.out; omega)⟩, by omega, ?_⟩, hbel.out⟩
          have := hG.out
          rw [C1.out, Nat.sub_self, List.replicate_zero, List.append_nil, List.take_of_length_le (by rw [C1.out]; omega)] at this
          exact this
    · have c2' : ad < 0 ∨ (0 ≤ ad ∧ 100 ≤ ad) := by omega
      have C2 := hide1 (show ¬ OkK l ad from fun h => c2 ⟨h.2.1, by have := h.2.2.1; omega⟩)
      clear c1 c2
      rcases c2' with c | ⟨c, c'⟩
      · have q2 : decide (ad < 0) = true := by simp; omega
        go_wp2
        go_returns
        exact ⟨.inl ⟨rfl, C2.out⟩, HB.out _⟩
      · have q2 : decide (ad < 0) = false := by simp; omega
        have q3 : decide (100 ≤ ad) = true := by simp; omega
        go_wp2
        go_returns
        exact ⟨.inl ⟨rfl, C2.out⟩, HB.out _⟩
  · have q1 : ((l.length : Int) != 48) = true := by simp; omega
    have C1 := hide1 c1
    clear c1
    go_wp2
    go_returns
    exact ⟨.inl ⟨rfl, fun h => C1.out h.1⟩, HB.out _⟩
end Go.Proofs.Ythigmdocfjhdlaa
