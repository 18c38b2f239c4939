/- The contracts of the drawing functions: whatever bytes are drawn from, they answer, within their bounds, and write their own cursor alone. -/
import Derived.Test.YtbkhhkknhbddeaaProg
import Derived.Test.YtbkhhkknhbddeaaKitD
import Derived.Test.YtbkhhkknhbddeaaInfo
import Derived.Deep.RegionHeld3
import Derived.Deep.QuietTactic
import Derived.BigQuiet
import Derived.Handy
namespace Go.Proofs.Ytbkhhkknhbddeaa
open Go.RowKit

/-- The bytes to draw from: at most 2^20, in memory below block B. -/
structure Code (B : Nat) (w : World) (a : Option Addr) (len : Nat) : Prop where
  le : len ≤ 1048576
  cells : ∀ j, j < len → ∃ (b o v : Nat), a = some ⟨b, o, none⟩ ∧ b < B ∧ w.cell? ⟨b, o + j, none⟩ = some (.int .u8 (v : Int)) ∧ v ≤ 255
theorem Code.below {B B' : Nat} {w w' : World} {a : Option Addr} {len : Nat} (h : Code B w a len) (hb : Below B' w w') (hB : B ≤ B') : Code B w' a len :=
  ⟨h.le, fun j hj => by
    obtain ⟨b, o, v, h1, h2, h3, h4⟩ := h.cells j hj
    exact ⟨b, o, v, h1, h2, (hb.cell (p := ⟨b, o + j, none⟩) (Nat.lt_of_lt_of_le h2 hB)).trans h3, h4⟩⟩

/-- What a []byte that came in reads as: nothing, or bytes in memory. -/
def RowB (w : World) (a : Option Addr) (len : Nat) : Prop := ∀ j, j < len → ∃ (b o v : Nat), a = some ⟨b, o, none⟩ ∧ b < w.heap.size ∧ w.cell? ⟨b, o + j, none⟩ = some (.int .u8 (v : Int)) ∧ v ≤ 255
theorem rowB_of {w : World} {x : Addr} {len cap : Nat} {zs : List Int} (hl : len ≤ cap) (hz : zs.length = cap) (hc : ∀ i, i < zs.length → w.cell? (x.add i) = some (.int .u8 (zs.getD i 0))) (hw : ∀ n ∈ zs, 0 ≤ n ∧ n ≤ 255) : RowB w (some x) len := by
  intro j hj
  have h := hc j (by omega)
  obtain ⟨b, o, spot⟩ := x
  have h0 := hc 0 (by omega)
  have hspot : spot = none := by simpa [Addr.add] using World.cell?_spot h0
  subst hspot
  have hj2 : j < zs.length := by omega
  have hm : zs.getD j 0 ∈ zs := by rw [List.getD_eq_getElem?_getD, List.getElem?_eq_getElem hj2]; exact List.getElem_mem hj2
  have hb := hw _ hm
  rw [Addr.add_lit] at h
  refine ⟨b, o, (zs.getD j 0).toNat, rfl, World.block_lt_of_cell? w _ h, ?_, by omega⟩
  rw [h, Int.toNat_of_nonneg hb.1]
theorem RowB.code {w : World} {a : Option Addr} {len : Nat} (h : RowB w a len) (hl : len ≤ 1048576) : Code w.heap.size w a len := ⟨hl, h⟩

/-- The cursor in block g. -/
def Cur (B : Nat) (w : World) (a : Option Addr) (len cap g : Nat) : Prop :=
  B ≤ g ∧ ∃ (i : Nat) (h : Int), i ≤ len ∧ w.heap[g]? = some (.cells #[.slice a len cap, .int .i64 (i : Int), .int .i64 h] 77 (0, 0))

theorem grow_set {w w' : World} {g : Nat} (h : w.grownBy w' (some g)) (j : Nat) (u : Value) : w.grownBy (w'.setCell ⟨g, j, none⟩ u) (some g) :=
  ⟨h.os, h.tape, h.output, by have := h.size; simpa using this, fun k hk hne => by rw [Below.heap_setCell _ _ _ _ (fun e => hne (by rw [e]))]; exact h.block k hk hne⟩
theorem grow_drew {w w' : World} {r : Option Nat} (h : w.grownBy w' r) (n : Nat) : w.grownBy (w'.drewN n) r := ⟨h.os, h.tape, h.output, h.size, h.block⟩
theorem grow_new {w w' : World} {r : Option Nat} (h : Below w.heap.size w w') : w.grownBy w' r := ⟨h.os, h.tape, h.output, h.size, fun k hk _ => h.block k hk⟩
theorem grow_below {w w' : World} {g B : Nat} (h : w.grownBy w' (some g)) (hB : B ≤ g) (hs : B ≤ w.heap.size) : Below B w w' :=
  ⟨h.os, h.tape, h.output, h.size, fun k hk => h.block k (by omega) (fun e => by simp at e; omega)⟩

/-- What is left of a number under a mask. -/
theorem and_bd (v : Int) (m : Nat) (hm : m ≤ 4294967295) : ∃ x : Nat, x ≤ m ∧ bits .and .i64 v (m : Int) = (x : Int) := by
  have h2 : (BitVec.ofInt 64 (m : Int)).toNat = m := by
    rw [BitVec.ofInt_natCast, BitVec.toNat_ofNat]; exact Nat.mod_eq_of_lt (by omega)
  have hle : (BitVec.ofInt 64 v &&& BitVec.ofInt 64 (m : Int)).toNat ≤ m := by
    rw [BitVec.toNat_and, h2]; exact Nat.and_le_right
  refine ⟨_, hle, ?_⟩
  show IntKind.i64.wrap ((BitVec.ofInt 64 v &&& BitVec.ofInt 64 (m : Int)).toNat : Int) = _
  exact IntWalk.i64_in _ ⟨by omega, by omega⟩

set_option maxHeartbeats 400000 in
theorem byte_try (B : Nat) (w : World) (a : Option Addr) (len cap g : Nat) (hc : Code B w a len) (hB : B ≤ g) (i : Nat) (h : Int) (hi : i ≤ len) (hg : w.heap[g]? = some (.cells #[.slice a len cap, .int .i64 (i : Int), .int .i64 h] 77 (0, 0))) :
    Calls Try.prog 60 #[.pointer (some ⟨g, 0, none⟩)] w fun e w' => (∃ x : Nat, x ≤ 255 ∧ e = .returned (.int .i64 (x : Int))) ∧ Cur B w' a len cap g ∧ w.grownBy w' (some g) := by
  have x0 : w.cell? ⟨g, 0, none⟩ = some (.slice a len cap) := by rw [cell_of_row w g 0 _ _ _ hg]; rfl
  have x1 : w.cell? ⟨g, 1, none⟩ = some (.int .i64 (i : Int)) := by rw [cell_of_row w g 1 _ _ _ hg]; rfl
  have x2 : w.cell? ⟨g, 2, none⟩ = some (.int .i64 h) := by rw [cell_of_row w g 2 _ _ _ hg]; rfl
  have f1 : w.frozen? ⟨g, 1, none⟩ = false := by simp [World.frozen?, hg]
  have f2 : w.frozen? ⟨g, 2, none⟩ = false := by simp [World.frozen?, hg]
  have HC := hide1 hc
  have HG := hide1 hg
  clear hc hg
  go_enter Try.func60, Try.ntmps60
  go_wp2
  generalize wrap64 (wrap64 (h * 6364136223846793005) + 1442695040888963407) = h2
  obtain ⟨x, hx, ex⟩ := and_bd (bits BinOp.xor IntKind.i64 (h2 / 8589934592) (h2 / 35184372088832)) 255 (by omega)
  rw [show ((255 : Nat) : Int) = 255 from rfl] at ex
  go_quiet (fail)
  clear ex
  by_cases hlt : i < len
  · obtain ⟨b, o, v, rfl, hbB, hcell, hv⟩ := HC.out.cells i hlt
    have hne : ¬ b = g := by omega
    have k1 : (i : Int) < (len : Int) := by omega
    have k2 : (0 : Int) ≤ (i : Int) := by omega
    have hle := HC.out.le
    have r1 : IntKind.i64.wrap ((x : Int) + (v : Int)) = (x : Int) + (v : Int) := IntWalk.i64_in _ ⟨by omega, by omega⟩
    have r2 : IntKind.i64.wrap (v : Int) = (v : Int) := IntWalk.i64_in _ ⟨by omega, by omega⟩
    obtain ⟨y, hy, ey⟩ := and_bd ((x : Int) + (v : Int)) 255 (by omega)
    rw [show ((255 : Nat) : Int) = 255 from rfl] at ey
    go_wp2
    go_quiet (fail)
    go_wp2
    go_quiet (fail)
    go_wp2
    go_ret
    refine ⟨⟨y, hy, rfl⟩, ⟨hB, i + 1, h2, by omega, ?_⟩, ?_⟩
    · exact heap_setCell_same _ g 1 _ _ _ (heap_setCell_same w g 2 _ _ (.int .i64 h2) HG.out)
    · exact grow_set (grow_drew (grow_set (World.grownBy.refl _ _) 2 _) _) 1 _
  · have k1 : ¬ (i : Int) < (len : Int) := by omega
    have hle := HC.out.le
    go_wp2
    go_quiet (fail)
    go_wp2
    go_ret
    refine ⟨⟨x, hx, rfl⟩, ⟨hB, i, h2, hi, ?_⟩, ?_⟩
    · exact heap_setCell_same w g 2 _ _ (.int .i64 h2) HG.out
    · exact grow_drew (grow_drew (grow_set (World.grownBy.refl _ _) 2 _) _) _

/-- The bytes and the cursor, in a world. -/
structure Drw (B : Nat) (w : World) (a : Option Addr) (len cap g : Nat) : Prop where
  code : Code B w a len
  cur : Cur B w a len cap g
  base : B ≤ w.heap.size
/-- What is new lies behind; the cursor stays. -/
theorem Drw.keep {B B' : Nat} {w w' : World} {a : Option Addr} {len cap g : Nat} (h : Drw B w a len cap g) (hb : Below B' w w') (hB : B ≤ B') (hg : g < B') : Drw B w' a len cap g := by
  refine ⟨h.code.below hb hB, ?_, Nat.le_trans h.base hb.size⟩
  obtain ⟨hB, i, k, hi, hh⟩ := h.cur
  exact ⟨hB, i, k, hi, by rw [hb.block g hg]; exact hh⟩
theorem Drw.lt {B : Nat} {w : World} {a : Option Addr} {len cap g : Nat} (h : Drw B w a len cap g) : g < w.heap.size := by
  obtain ⟨_, _, _, _, hh⟩ := h.cur
  exact (Array.getElem?_eq_some_iff.1 hh).1
theorem Drw.later {B : Nat} {w w' : World} {a : Option Addr} {len cap g : Nat} (h : Drw B w a len cap g) (hb : Below w.heap.size w w') : Drw B w' a len cap g := h.keep hb h.base h.lt

theorem byte_any {B : Nat} {w : World} {a : Option Addr} {len cap g : Nat} (h : Drw B w a len cap g) :
    Calls Try.prog 60 #[.pointer (some ⟨g, 0, none⟩)] w fun e w' => ∃ x : Nat, e = .returned (.int .i64 (x : Int)) ∧ x ≤ 255 ∧ Drw B w' a len cap g ∧ w.grownBy w' (some g) := by
  obtain ⟨hB, i, k, hi, hg⟩ := h.cur
  refine (byte_try B w a len cap g h.code hB i k hi hg).mono ?_
  rintro e w' ⟨⟨x, hx, rfl⟩, hc, hb⟩
  exact ⟨x, rfl, hx, ⟨h.code.below (grow_below hb hB h.base) (Nat.le_refl _), hc, Nat.le_trans h.base hb.size⟩, hb⟩

set_option maxHeartbeats 400000 in
theorem below_any {B : Nat} {w : World} {a : Option Addr} {len cap g : Nat} (h : Drw B w a len cap g) (n : Int) (hn : n ≤ 4294967296) :
    Calls Try.prog 52 #[.pointer (some ⟨g, 0, none⟩), .int .i64 n] w fun e w' => ∃ x : Nat, e = .returned (.int .i64 (x : Int)) ∧ (0 < n → (x : Int) < n) ∧ (n ≤ 0 → x = 0) ∧ Drw B w' a len cap g ∧ w.grownBy w' (some g) := by
  by_cases c0 : n ≤ 0
  · go_enter Try.func52, Try.ntmps52
    go_wp2
    go_ret
    exact ⟨0, rfl, by omega, fun _ => rfl, h, World.grownBy.refl _ _⟩
  · by_cases c1 : n ≤ 256
    · have hz : (n == 0) = false := by simp; omega
      go_enter Try.func52, Try.ntmps52
      go_wp2_with (go_at_call 60; refine (byte_any h).mono ?_; rintro e w1 ⟨x, rfl, hx, h1, hb1⟩)
      go_ret
      have e : (((x % n.toNat : Nat)) : Int) = (x : Int) % n := by
        rw [Int.natCast_emod, Int.toNat_of_nonneg (by omega)]
      refine ⟨x % n.toNat, ?_, fun _ => ?_, by omega, h1, hb1⟩
      · show Ending.returned (.int .i64 ((x : Int) % n)) = _
        rw [e]
      · rw [e]; exact Int.emod_lt_of_pos _ (by omega)
    · go_enter Try.func52, Try.ntmps52
      go_wp2_with fail
      refine (byte_any h).mono ?_
      rintro e w1 ⟨x1, rfl, hx1, h1, hb1⟩
      go_wp2_with fail
      refine (byte_any h1).mono ?_
      rintro e w2 ⟨x2, rfl, hx2, h2, hb2⟩
      go_wp2_with fail
      refine (byte_any h2).mono ?_
      rintro e w3 ⟨x3, rfl, hx3, h3, hb3⟩
      go_wp2_with fail
      refine (byte_any h3).mono ?_
      rintro e w4 ⟨x4, rfl, hx4, h4, hb4⟩
      go_wp2
      go_ret
      have e : (((x1 * 16777216 + x2 * 65536 + x3 * 256 + x4) % n.toNat : Nat) : Int) = ((x1 : Int) * 16777216 + (x2 : Int) * 65536 + (x3 : Int) * 256 + (x4 : Int)) % n := by
        rw [Int.natCast_emod, Int.toNat_of_nonneg (by omega)]
        simp
      refine ⟨(x1 * 16777216 + x2 * 65536 + x3 * 256 + x4) % n.toNat, ?_, fun _ => ?_, by omega, h4, ((hb1.trans hb2).trans hb3).trans hb4⟩
      · rw [e]; rfl
      · rw [e]; exact Int.emod_lt_of_pos _ (by omega)

theorem bc_set (l : List UInt8) (i : Nat) (b : UInt8) : (bc l).set i (.int .u8 (b.toNat : Int)) = bc (l.set i b) := by
  unfold bc; rw [List.map_set]

end Go.Proofs.Ytbkhhkknhbddeaa
