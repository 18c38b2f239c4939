/- The contracts of the drawing functions: whatever bytes are drawn from, they answer, within their bounds, and write their own cursor alone. -/
import Derived.Test.YtgehdgmllilmgaaProg
import Derived.Test.YtgehdgmllilmgaaYA
import Derived.Deep.RegionHeld3
import Derived.Deep.QuietTactic
import Derived.BigQuiet
import Derived.Handy
namespace Go.Proofs.Ytgehdgmllilmgaa
open Go.RowKit

/-- The bytes to draw from: at most 2^20, in memory below block B. -/
structure Code (B : Nat) (w : World) (a : Option Addr) (len : Nat) : Prop where
  le : len ≤ 1048576
  cells : ∀ j, j < len → ∃ (b o v : Nat), a = some ⟨b, o, none⟩ ∧ b < B ∧ w.cell? ⟨b, o + j, none⟩ = some (.int .u8 (v : Int)) ∧ v ≤ 255
theorem Code.below {B B' : Nat} {w w' : World} {a : Option Addr} {len : Nat} (h : Code B w a len) (hb : Below B' w w') (hB : B ≤ B') : Code B w' a len :=
  ⟨h.le, fun j hj => by
    obtain ⟨b, o, v, h1, h2, h3, h4⟩ := h.cells j hj
    exact ⟨b, o, v, h1, h2, (hb.cell (p := ⟨b, o + j, none⟩) (Nat.lt_of_lt_of_le h2 hB)).trans h3, h4⟩⟩

/-- What a []byte that came in reads as: nothing, or bytes in memory. -/
def RowB (w : World) (a : Option Addr) (len : Nat) : Prop := ∀ j, j < len → ∃ (b o v : Nat), a = some ⟨b, o, none⟩ ∧ b < w.heap.size ∧ w.cell? ⟨b, o + j, none⟩ = some (.int .u8 (v : Int)) ∧ v ≤ 255
theorem rowB_of {w : World} {x : Addr} {len cap : Nat} {zs : List Int} (hl : len ≤ cap) (hz : zs.length = cap) (hc : ∀ i, i < zs.length → w.cell? (x.add i) = some (.int .u8 (zs.getD i 0))) (hw : ∀ n ∈ zs, 0 ≤ n ∧ n ≤ 255) : RowB w (some x) len := by
  intro j hj
  have h := hc j (by omega)
  obtain ⟨b, o, spot⟩ := x
  have h0 := hc 0 (by omega)
  have hspot : spot = none := by simpa [Addr.add] using World.cell?_spot h0
  subst hspot
  have hj2 : j < zs.length := by omega
  have hm : zs.getD j 0 ∈ zs := by rw [List.getD_eq_getElem?_getD, List.getElem?_eq_getElem hj2]; exact List.getElem_mem hj2
  have hb := hw _ hm
  rw [Addr.add_lit] at h
  refine ⟨b, o, (zs.getD j 0).toNat, rfl, World.block_lt_of_cell? w _ h, ?_, by omega⟩
  rw [h, Int.toNat_of_nonneg hb.1]
theorem RowB.code {w : World} {a : Option Addr} {len : Nat} (h : RowB w a len) (hl : len ≤ 1048576) : Code w.heap.size w a len := ⟨hl, h⟩

/-- The cursor in block g. -/
def Cur (B : Nat) (w : World) (a : Option Addr) (len cap g : Nat) : Prop :=
  B ≤ g ∧ ∃ (i : Nat) (h : Int), i ≤ len ∧ w.heap[g]? = some (.cells #[.slice a len cap, .int .i64 (i : Int), .int .i64 h] 106 (0, 0))

theorem grow_set {w w' : World} {g : Nat} (h : w.grownBy w' (some g)) (j : Nat) (u : Value) : w.grownBy (w'.setCell ⟨g, j, none⟩ u) (some g) :=
  ⟨h.os, h.tape, h.output, by have := h.size; simpa using this, fun k hk hne => by rw [Below.heap_setCell _ _ _ _ (fun e => hne (by rw [e]))]; exact h.block k hk hne⟩
theorem grow_drew {w w' : World} {r : Option Nat} (h : w.grownBy w' r) (n : Nat) : w.grownBy (w'.drewN n) r := ⟨h.os, h.tape, h.output, h.size, h.block⟩
theorem grow_new {w w' : World} {r : Option Nat} (h : Below w.heap.size w w') : w.grownBy w' r := ⟨h.os, h.tape, h.output, h.size, fun k hk _ => h.block k hk⟩
theorem grow_below {w w' : World} {g B : Nat} (h : w.grownBy w' (some g)) (hB : B ≤ g) (hs : B ≤ w.heap.size) : Below B w w' :=
  ⟨h.os, h.tape, h.output, h.size, fun k hk => h.block k (by omega) (fun e => by simp at e; omega)⟩

/-- What is left of a number under a mask. -/
theorem and_bd (v : Int) (m : Nat) (hm : m ≤ 4294967295) : ∃ x : Nat, x ≤ m ∧ bits .and .i64 v (m : Int) = (x : Int) := by
  have h2 : (BitVec.ofInt 64 (m : Int)).toNat = m := by
    rw [BitVec.ofInt_natCast, BitVec.toNat_ofNat]; exact Nat.mod_eq_of_lt (by omega)
  have hle : (BitVec.ofInt 64 v &&& BitVec.ofInt 64 (m : Int)).toNat ≤ m := by
    rw [BitVec.toNat_and, h2]; exact Nat.and_le_right
  refine ⟨_, hle, ?_⟩
  show IntKind.i64.wrap ((BitVec.ofInt 64 v &&& BitVec.ofInt 64 (m : Int)).toNat : Int) = _
  exact IntWalk.i64_in _ ⟨by omega, by omega⟩

set_option maxHeartbeats 400000 in
theorem byte_try (B : Nat) (w : World) (a : Option Addr) (len cap g : Nat) (hc : Code B w a len) (hB : B ≤ g) (i : Nat) (h : Int) (hi : i ≤ len) (hg : w.heap[g]? = some (.cells #[.slice a len cap, .int .i64 (i : Int), .int .i64 h] 106 (0, 0))) :
    Calls Try.prog 43 #[.pointer (some ⟨g, 0, none⟩)] w fun e w' => (∃ x : Nat, x ≤ 255 ∧ e = .returned (.int .i64 (x : Int))) ∧ Cur B w' a len cap g ∧ w.grownBy w' (some g) := by
  have x0 : w.cell? ⟨g, 0, none⟩ = some (.slice a len cap) := by rw [cell_of_row w g 0 _ _ _ hg]; rfl
  have x1 : w.cell? ⟨g, 1, none⟩ = some (.int .i64 (i : Int)) := by rw [cell_of_row w g 1 _ _ _ hg]; rfl
  have x2 : w.cell? ⟨g, 2, none⟩ = some (.int .i64 h) := by rw [cell_of_row w g 2 _ _ _ hg]; rfl
  have f1 : w.frozen? ⟨g, 1, none⟩ = false := by simp [World.frozen?, hg]
  have f2 : w.frozen? ⟨g, 2, none⟩ = false := by simp [World.frozen?, hg]
  have HC := hide1 hc
  have HG := hide1 hg
  clear hc hg
  go_enter Try.func43, Try.ntmps43
  go_wp2
  generalize wrap64 (wrap64 (h * 6364136223846793005) + 1442695040888963407) = h2
  obtain ⟨x, hx, ex⟩ := and_bd (bits BinOp.xor IntKind.i64 (h2 / 8589934592) (h2 / 35184372088832)) 255 (by omega)
  rw [show ((255 : Nat) : Int) = 255 from rfl] at ex
  go_quiet (fail)
  clear ex
  by_cases hlt : i < len
  · obtain ⟨b, o, v, rfl, hbB, hcell, hv⟩ := HC.out.cells i hlt
    have hne : ¬ b = g := by omega
    have k1 : (i : Int) < (len : Int) := by omega
    have k2 : (0 : Int) ≤ (i : Int) := by omega
    have hle := HC.out.le
    have r1 : IntKind.i64.wrap ((x : Int) + (v : Int)) = (x : Int) + (v : Int) := IntWalk.i64_in _ ⟨by omega, by omega⟩
    have r2 : IntKind.i64.wrap (v : Int) = (v : Int) := IntWalk.i64_in _ ⟨by omega, by omega⟩
    obtain ⟨y, hy, ey⟩ := and_bd ((x : Int) + (v : Int)) 255 (by omega)
    rw [show ((255 : Nat) : Int) = 255 from rfl] at ey
    go_wp2
    go_quiet (fail)
    go_wp2
    go_quiet (fail)
    go_wp2
    go_ret
    refine ⟨⟨y, hy, rfl⟩, ⟨hB, i + 1, h2, by omega, ?_⟩, ?_⟩
    · exact heap_setCell_same _ g 1 _ _ _ (heap_setCell_same w g 2 _ _ (.int .i64 h2) HG.out)
    · exact grow_set (grow_drew (grow_set (World.grownBy.refl _ _) 2 _) _) 1 _
  · have k1 : ¬ (i : Int) < (len : Int) := by omega
    have hle := HC.out.le
    go_wp2
    go_quiet (fail)
    go_wp2
    go_ret
    refine ⟨⟨x, hx, rfl⟩, ⟨hB, i, h2, hi, ?_⟩, ?_⟩
    · exact heap_setCell_same w g 2 _ _ (.int .i64 h2) HG.out
    · exact grow_drew (grow_drew (grow_set (World.grownBy.refl _ _) 2 _) _) _

/-- The bytes and the cursor, in a world. -/
structure Drw (B : Nat) (w : World) (a : Option Addr) (len cap g : Nat) : Prop where
  code : Code B w a len
  cur : Cur B w a len cap g
  base : B ≤ w.heap.size
/-- What is new lies behind; the cursor stays. -/
theorem Drw.keep {B B' : Nat} {w w' : World} {a : Option Addr} {len cap g : Nat} (h : Drw B w a len cap g) (hb : Below B' w w') (hB : B ≤ B') (hg : g < B') : Drw B w' a len cap g := by
  refine ⟨h.code.below hb hB, ?_, Nat.le_trans h.base hb.size⟩
  obtain ⟨hB, i, k, hi, hh⟩ := h.cur
  exact ⟨hB, i, k, hi, by rw [hb.block g hg]; exact hh⟩
theorem Drw.lt {B : Nat} {w : World} {a : Option Addr} {len cap g : Nat} (h : Drw B w a len cap g) : g < w.heap.size := by
  obtain ⟨_, _, _, _, hh⟩ := h.cur
  exact (Array.getElem?_eq_some_iff.1 hh).1
theorem Drw.later {B : Nat} {w w' : World} {a : Option Addr} {len cap g : Nat} (h : Drw B w a len cap g) (hb : Below w.heap.size w w') : Drw B w' a len cap g := h.keep hb h.base h.lt

theorem byte_any {B : Nat} {w : World} {a : Option Addr} {len cap g : Nat} (h : Drw B w a len cap g) :
    Calls Try.prog 43 #[.pointer (some ⟨g, 0, none⟩)] w fun e w' => ∃ x : Nat, e = .returned (.int .i64 (x : Int)) ∧ x ≤ 255 ∧ Drw B w' a len cap g ∧ w.grownBy w' (some g) := by
  obtain ⟨hB, i, k, hi, hg⟩ := h.cur
  refine (byte_try B w a len cap g h.code hB i k hi hg).mono ?_
  rintro e w' ⟨⟨x, hx, rfl⟩, hc, hb⟩
  exact ⟨x, rfl, hx, ⟨h.code.below (grow_below hb hB h.base) (Nat.le_refl _), hc, Nat.le_trans h.base hb.size⟩, hb⟩

set_option maxHeartbeats 400000 in
theorem below_any {B : Nat} {w : World} {a : Option Addr} {len cap g : Nat} (h : Drw B w a len cap g) (n : Int) (hn : n ≤ 4294967296) :
    Calls Try.prog 44 #[.pointer (some ⟨g, 0, none⟩), .int .i64 n] w fun e w' => ∃ x : Nat, e = .returned (.int .i64 (x : Int)) ∧ (0 < n → (x : Int) < n) ∧ (n ≤ 0 → x = 0) ∧ Drw B w' a len cap g ∧ w.grownBy w' (some g) := by
  by_cases c0 : n ≤ 0
  · go_enter Try.func44, Try.ntmps44
    go_wp2
    go_ret
    exact ⟨0, rfl, by omega, fun _ => rfl, h, World.grownBy.refl _ _⟩
  · by_cases c1 : n ≤ 256
    · have hz : (n == 0) = false := by simp; omega
      go_enter Try.func44, Try.ntmps44
      go_wp2_with (go_at_call 43; refine (byte_any h).mono ?_; rintro e w1 ⟨x, rfl, hx, h1, hb1⟩)
      go_ret
      have e : (((x % n.toNat : Nat)) : Int) = (x : Int) % n := by
        rw [Int.natCast_emod, Int.toNat_of_nonneg (by omega)]
      refine ⟨x % n.toNat, ?_, fun _ => ?_, by omega, h1, hb1⟩
      · show Ending.returned (.int .i64 ((x : Int) % n)) = _
        rw [e]
      · rw [e]; exact Int.emod_lt_of_pos _ (by omega)
    · go_enter Try.func44, Try.ntmps44
      go_wp2_with fail
      refine (byte_any h).mono ?_
      rintro e w1 ⟨x1, rfl, hx1, h1, hb1⟩
      go_wp2_with fail
      refine (byte_any h1).mono ?_
      rintro e w2 ⟨x2, rfl, hx2, h2, hb2⟩
      go_wp2_with fail
      refine (byte_any h2).mono ?_
      rintro e w3 ⟨x3, rfl, hx3, h3, hb3⟩
      go_wp2_with fail
      refine (byte_any h3).mono ?_
      rintro e w4 ⟨x4, rfl, hx4, h4, hb4⟩
      go_wp2
      go_ret
      have e : (((x1 * 16777216 + x2 * 65536 + x3 * 256 + x4) % n.toNat : Nat) : Int) = ((x1 : Int) * 16777216 + (x2 : Int) * 65536 + (x3 : Int) * 256 + (x4 : Int)) % n := by
        rw [Int.natCast_emod, Int.toNat_of_nonneg (by omega)]
        simp
      refine ⟨(x1 * 16777216 + x2 * 65536 + x3 * 256 + x4) % n.toNat, ?_, fun _ => ?_, by omega, h4, ((hb1.trans hb2).trans hb3).trans hb4⟩
      · rw [e]; rfl
      · rw [e]; exact Int.emod_lt_of_pos _ (by omega)

theorem once_any {B : Nat} {w : World} {a : Option Addr} {len cap g : Nat} (h : Drw B w a len cap g) (n : Int) (hn : n ≤ 4294967296) :
    Calls Try.prog 81 #[.pointer (some ⟨g, 0, none⟩), .int .i64 n] w fun e w' => ∃ b : Bool, e = .returned (.bool b) ∧ Drw B w' a len cap g ∧ w.grownBy w' (some g) := by
  go_enter Try.func81, Try.ntmps81
  go_wp2_with (go_at_call 44; refine (below_any h n hn).mono ?_; rintro e w1 ⟨x, rfl, _, _, h1, hb1⟩)
  go_ret
  exact ⟨_, rfl, h1, hb1⟩

theorem bc_set (l : List UInt8) (i : Nat) (b : UInt8) : (bc l).set i (.int .u8 (b.toNat : Int)) = bc (l.set i b) := by
  unfold bc; rw [List.map_set]

set_option maxHeartbeats 400000 in
theorem pickInt_any {B : Nat} {w : World} {a : Option Addr} {len cap g : Nat} (h : Drw B w a len cap g) (lg n c : Nat) (hn : 0 < n) (hn2 : n ≤ 1000) (hne : ¬ lg = g) (f : Nat → Int) (hc : ∀ j, j < n → w.cell? ⟨lg, j, none⟩ = some (.int .i64 (f j))) (hlg : lg < w.heap.size) :
    Calls Try.prog 71 #[.pointer (some ⟨g, 0, none⟩), .slice (some ⟨lg, 0, none⟩) n c] w fun e w' => ∃ j : Nat, e = .returned (.int .i64 (f j)) ∧ Drw B w' a len cap g ∧ w.grownBy w' (some g) := by
  have HC := hide1 hc
  clear hc
  go_enter Try.func71, Try.ntmps71
  go_wp2_with (go_at_call 44; refine (below_any h (n : Int) (by omega)).mono ?_; rintro e w1 ⟨x, rfl, hx, _, h1, hb1⟩; have hx' : x < n := (by have := hx (by omega); omega); have hxi : (x : Int) < (n : Int) := (by omega); have x1 : w1.cell? ⟨lg, x, none⟩ = some (.int .i64 (f x)) := (World.cell?_of_block (w := w) (hb1.block lg hlg (fun e => hne (by simpa using e)))).trans (HC.out x hx'); clear hx)
  go_ret
  exact ⟨x, rfl, h1, hb1⟩
end Go.Proofs.Ytgehdgmllilmgaa
namespace Go.Proofs.Ytgehdgmllilmgaa
open Go.RowKit

set_option maxRecDepth 100000 in
set_option maxHeartbeats 400000 in
theorem new_any (w : World) (a : Option Addr) (len cap : Nat) (hc : Code w.heap.size w a len) :
    Calls Try.prog 37 #[.slice a len cap] w fun e w' => ∃ g : Nat, e = .returned (.pointer (some ⟨g, 0, none⟩)) ∧ Drw w.heap.size w' a len cap g ∧ Below w.heap.size w w' := by
  have hle := hc.le
  have HC := hide1 hc
  clear hc
  go_enter Try.func37, Try.ntmps37
  go_wp2
  go_loop [3, 4] (fun hv iv => ∃ (i h : Nat), i ≤ len ∧ iv = .int .i64 (i : Int) ∧ hv = .int .i64 (h : Int) ∧ h ≤ 1073741823) (fun _ iv => len - (intOf iv).toNat)
  case atStart => exact ⟨0, 14301 + len, by omega, rfl, by go_num, by omega⟩
  case round =>
    obtain ⟨i, h, hi, rfl, rfl, hh⟩ := hrel
    by_cases hlt : i < len ∧ i < 4000
    · obtain ⟨h1, h2⟩ := hlt
      obtain ⟨b, o, v, rfl, hb, hcell, hv⟩ := HC.out.cells i h1
      have k1 : (i : Int) < (len : Int) := by omega
      obtain ⟨y, hy, ey⟩ := and_bd ((h : Int) * 131 + (v : Int) + 7) 1073741823 (by omega)
      rw [show ((1073741823 : Nat) : Int) = 1073741823 from rfl] at ey
      go_wp2
      go_round
      case rel => exact ⟨i + 1, y, by omega, by go_num, rfl, hy⟩
      case measure => simp [intOf]; omega
    · by_cases h1 : i < len
      all_goals
        go_wp2
        go_ret
        refine ⟨w.heap.size, rfl, ⟨HC.out.below ((Below.refl _ _).alloc (Nat.le_refl _) _) (Nat.le_refl _), ⟨Nat.le_refl _, 0, h, Nat.zero_le _, heap_alloc_new w _⟩, by rw [World.size_alloc]; omega⟩, (Below.refl _ _).alloc (Nat.le_refl _) _⟩

def numL : List Int := [-1, 0, 127, 128, 16383, 16384, 1000000000, 1000000001, 9223372036854775807, -9223372036854775808]
theorem numL_at (j : Nat) (h : j < 10) : (#[Value.int .i64 (-1), .int .i64 0, .int .i64 127, .int .i64 128, .int .i64 16383, .int .i64 16384, .int .i64 1000000000, .int .i64 1000000001, .int .i64 9223372036854775807, .int .i64 (-9223372036854775808)] : Array Value)[j]? = some (.int .i64 (numL.getD j 0)) := by
  match j, h with
  | 0, _ => rfl
  | 1, _ => rfl
  | 2, _ => rfl
  | 3, _ => rfl
  | 4, _ => rfl
  | 5, _ => rfl
  | 6, _ => rfl
  | 7, _ => rfl
  | 8, _ => rfl
  | 9, _ => rfl

end Go.Proofs.Ytgehdgmllilmgaa
namespace Go.Proofs.Ytgehdgmllilmgaa
open Go.RowKit

set_option maxHeartbeats 400000 in
theorem pick_any {B : Nat} {w : World} {a : Option Addr} {len cap g : Nat} (h : Drw B w a len cap g) (lg n c : Nat) (hn : 0 < n) (hn2 : n ≤ 1000) (hne : ¬ lg = g) (f : Nat → ByteArray) (hc : ∀ j, j < n → w.cell? ⟨lg, j, none⟩ = some (.string (f j))) (hlg : lg < w.heap.size) :
    Calls Try.prog 91 #[.pointer (some ⟨g, 0, none⟩), .slice (some ⟨lg, 0, none⟩) n c] w fun e w' => ∃ j : Nat, j < n ∧ e = .returned (.string (f j)) ∧ Drw B w' a len cap g ∧ w.grownBy w' (some g) := by
  have HC := hide1 hc
  clear hc
  go_enter Try.func91, Try.ntmps91
  go_wp2_with (go_at_call 44; refine (below_any h (n : Int) (by omega)).mono ?_; rintro e w1 ⟨x, rfl, hx, _, h1, hb1⟩; have hx' : x < n := (by have := hx (by omega); omega); have hxi : (x : Int) < (n : Int) := (by omega); have x1 : w1.cell? ⟨lg, x, none⟩ = some (.string (f x)) := (World.cell?_of_block (w := w) (hb1.block lg hlg (fun e => hne (by simpa using e)))).trans (HC.out x hx'); clear hx)
  go_ret
  exact ⟨x, hx', rfl, h1, hb1⟩

def keyL : List (List UInt8) := [[97], [98], [99], [100], [101], [102], [103], [104], [107, 49], [107, 50], [107, 51], [107, 101, 121]]
def valL : List (List UInt8) := [[], [118], [119], [120, 120], [121, 121, 121]]
theorem keyL_sizes : ∀ j : Fin 12, 1 ≤ (keyL.getD j.1 []).length ∧ (keyL.getD j.1 []).length ≤ 12 := by decide
theorem valL_sizes : ∀ j : Fin 5, (valL.getD j.1 []).length ≤ 20 := by decide

end Go.Proofs.Ytgehdgmllilmgaa
namespace Go.Proofs.Ytgehdgmllilmgaa
open Go.RowKit

theorem Try.infoIntP : (Try.prog.info? 3).map (fun i => (i.zero, i.size, i.bytes)) = some (some (.int .i64 0), 1, 8) := by kernel_rfl

/-- The cells of a row of numbers. -/
def icP (l : List Nat) : List Value := l.map fun n : Nat => Value.int .i64 (n : Int)
theorem icP_append (l m : List Nat) : icP (l ++ m) = icP l ++ icP m := by simp [icP]
theorem own_atP {w : World} {base n : Nat} {e : TypeId} {v : Value} {xs : List Value} (h : w.ownsRow base e 1 v n xs) (hn : 0 < n) : ∃ g cap, v = .slice (some ⟨g, 0, none⟩) n cap ∧ base ≤ g ∧ g < w.heap.size := by
  rcases h.2 with ⟨_, h0⟩ | ⟨g, cap, cur, hv, _⟩
  · omega
  · have := h.lt g (by rw [hv]; rfl)
    exact ⟨g, cap, hv, this.1, this.2⟩

set_option maxRecDepth 100000 in
set_option maxHeartbeats 1000000 in
theorem drawPl_any (w : World) (a : Option Addr) (len cap : Nat) (hc : Code w.heap.size w a len) :
    Calls Try.prog 20 #[.slice a len cap] w fun e w' => ∃ (xs : List Nat) (p c : Nat), xs.length = 12 ∧ (∀ y ∈ xs, y < 10000) ∧ e = .returned (.slice (some ⟨p, 0, none⟩) 12 c) ∧ w.heap.size ≤ p ∧ p < w'.heap.size ∧ (∀ j (h : j < xs.length), w'.cell? ⟨p, j, none⟩ = some (.int .i64 (xs[j] : Int))) ∧ Below w.heap.size w w' := by
  obtain ⟨i0, hi, hz0, hz1, hz2⟩ := info_parts Try.infoIntP
  go_enter Try.func20, Try.ntmps20
  go_wp2_with fail
  refine (new_any w a len cap hc).mono ?_
  rintro e w1 ⟨g, rfl, h1, hb1⟩
  have hBg := h1.cur.1
  go_wp2_with fail
  refine (byte_any h1).mono ?_
  rintro e w2 ⟨x, rfl, hx, h2, hb2⟩
  have hgl := h2.lt
  have hba := h2.base
  have hb12 := hide1 (hb1.trans (grow_below hb2 hBg h1.base))
  have H := hide1 h2
  clear h1 h2 hb1 hb2 hx hc
  go_wp2
  go_loopw [4, 5] (fun v iv wr => ∃ (i : Nat) (acc : List Nat), i ≤ 12 ∧ iv = .int .i64 (i : Int) ∧ Hid (acc.length = i) ∧ acc.length ≤ 12 ∧ wr.ownsRow w2.heap.size 3 1 v acc.length (icP acc) ∧ Hid (Drw w.heap.size wr a len cap g) ∧ w2.grownBy wr (some g) ∧ Hid (∀ y ∈ acc, y < 10000)) (fun _ iv _ => 12 - (intOf iv).toNat)
  case atStart => exact ⟨0, [], by omega, rfl, rfl, by simp, owns_empty w2 _, hide1 (H.out.later ((Below.refl _ _).alloc (Nat.le_refl _) _)), World.grownBy_alloc w2 _ _, fun y hy => by cases hy⟩
  case round =>
    obtain ⟨i, acc, hin, rfl, hl, hle, hown, hD, hgr, hall⟩ := hrel
    have hbs := hgr.size
    by_cases hlt : i < 12
    · have HO := hide1 hown
      have hlt2 : acc.length < 12 := by have := hl.out; omega
      clear hown
      go_wp2_with fail
      refine (below_any hD.out 10000 (by omega)).mono ?_
      rintro e w3 ⟨x, rfl, hx, _, hD1, hb1⟩
      have hx2 : x < 10000 := by have := hx (by omega); omega
      have hown1 : w3.ownsRow w2.heap.size 3 1 u4 acc.length (icP acc) := HO.out.kept hb1 (by
        cases hv : u4.ownBlock with
        | none => exact .inl rfl
        | some k => right; intro e; have := (HO.out.lt k hv).1; simp at e; omega)
      have hb1s : w2.heap.size ≤ w3.heap.size := Nat.le_trans hbs hb1.size
      have D1 := hide1 hD1
      clear hD1 hx
      go_wp2_with (at_builtin; (refine wpList_push1 rfl _ _ 33 rfl w2.heap.size 3 i0 (.int .i64 0) 8 Try.underlying33 hi hz0 hz1 hz2 rfl (by decide) _ acc.length (icP acc) rfl hown1 _ rfl rfl (by omega) hb1s ?_; intro v' w4 hown' hb'))
      go_roundw
      case rel =>
        refine ⟨i + 1, acc ++ [x], by omega, by go_num, ?_, by simp; omega, ?_, hide1 (D1.out.keep hb' hba hgl), ?_, ?_⟩
        · show (acc ++ [x]).length = i + 1; rw [List.length_append, hl.out]; rfl
        · rw [icP_append, List.length_append]; exact hown'
        · refine ⟨hb'.os.trans (hb1.os.trans hgr.os), hb'.tape.trans (hb1.tape.trans hgr.tape), hb'.output.trans (hb1.output.trans hgr.output), Nat.le_trans hb1s hb'.size, fun k hk hne => ?_⟩
          rw [hb'.block k hk, hb1.block k (by omega) hne, hgr.block k hk hne]
        · intro y hy
          rcases List.mem_append.1 hy with h | h
          · exact hall.out y h
          · simp at h; omega
      case measure => simp [intOf]; omega
    · have hl2 : acc.length = 12 := by have := hl.out; omega
      obtain ⟨p, c, rfl, hp1, hp2⟩ := own_atP hown (by omega)
      have ec : ∀ j (h : j < acc.length), wr.cell? ⟨p, j, none⟩ = some (.int .i64 (acc[j] : Int)) := by
        intro j hj
        rw [hown.cellAt j (by omega)]
        simp [icP, hj]
      have EC := hide1 ec
      have HL := hide1 hl2
      rw [hl2]
      clear ec
      go_wp2
      go_ret
      exact ⟨acc, p, c, HL.out, hall.out, rfl, Nat.le_trans hb12.out.size hp1, hp2, EC.out, hb12.out.trans (grow_below hgr hBg hba)⟩
end Go.Proofs.Ytgehdgmllilmgaa
