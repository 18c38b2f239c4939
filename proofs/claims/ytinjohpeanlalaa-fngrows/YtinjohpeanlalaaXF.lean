/- What the program's table says of bytes; no condition. -/
import Derived.Test.YtinjohpeanlalaaProg
import Derived.Test.YtinjohpeanlalaaXA
import Derived.Deep.RegionHeld3
import Derived.Deep.QuietTactic
import Derived.BigQuiet
import Derived.Handy
import Derived.Test.YtinjohpeanlalaaXE
namespace Go.Proofs.Ytinjohpeanlalaa

theorem Try.info5 : (Try.prog.info? 5).map (fun i => (i.zero, i.size, i.bytes)) = some (some (.int .u8 0), 1, 1) := by kernel_rfl
end Go.Proofs.Ytinjohpeanlalaa
namespace Go.Proofs.Ytinjohpeanlalaa
open Go.RowKit

/-- The bytes to draw from: at most 2^20, in memory below block B. -/
structure Code (B : Nat) (w : World) (a : Option Addr) (len : Nat) : Prop where
  le : len ≤ 1048576
  cells : ∀ j, j < len → ∃ (b o v : Nat), a = some ⟨b, o, none⟩ ∧ b < B ∧ w.cell? ⟨b, o + j, none⟩ = some (.int .u8 (v : Int)) ∧ v ≤ 255
theorem Code.below {B B' : Nat} {w w' : World} {a : Option Addr} {len : Nat} (h : Code B w a len) (hb : Below B' w w') (hB : B ≤ B') : Code B w' a len :=
  ⟨h.le, fun j hj => by
    obtain ⟨b, o, v, h1, h2, h3, h4⟩ := h.cells j hj
    exact ⟨b, o, v, h1, h2, (hb.cell (p := ⟨b, o + j, none⟩) (Nat.lt_of_lt_of_le h2 hB)).trans h3, h4⟩⟩

/-- What a []byte that came in reads as: nothing, or bytes in memory. -/
def RowB (w : World) (a : Option Addr) (len : Nat) : Prop := ∀ j, j < len → ∃ (b o v : Nat), a = some ⟨b, o, none⟩ ∧ b < w.heap.size ∧ w.cell? ⟨b, o + j, none⟩ = some (.int .u8 (v : Int)) ∧ v ≤ 255
theorem rowB_of {w : World} {x : Addr} {len cap : Nat} {zs : List Int} (hl : len ≤ cap) (hz : zs.length = cap) (hc : ∀ i, i < zs.length → w.cell? (x.add i) = some (.int .u8 (zs.getD i 0))) (hw : ∀ n ∈ zs, 0 ≤ n ∧ n ≤ 255) : RowB w (some x) len := by
  intro j hj
  have h := hc j (by omega)
  obtain ⟨b, o, spot⟩ := x
  have h0 := hc 0 (by omega)
  have hspot : spot = none := by simpa [Addr.add] using World.cell?_spot h0
  subst hspot
  have hj2 : j < zs.length := by omega
  have hm : zs.getD j 0 ∈ zs := by rw [List.getD_eq_getElem?_getD, List.getElem?_eq_getElem hj2]; exact List.getElem_mem hj2
  have hb := hw _ hm
  rw [Addr.add_lit] at h
  refine ⟨b, o, (zs.getD j 0).toNat, rfl, World.block_lt_of_cell? w _ h, ?_, by omega⟩
  rw [h, Int.toNat_of_nonneg hb.1]
theorem RowB.code {w : World} {a : Option Addr} {len : Nat} (h : RowB w a len) (hl : len ≤ 1048576) : Code w.heap.size w a len := ⟨hl, h⟩

/-- The cursor in block g. -/
def Cur (B : Nat) (w : World) (a : Option Addr) (len cap g : Nat) : Prop :=
  B ≤ g ∧ ∃ (i : Nat) (h : Int), i ≤ len ∧ w.heap[g]? = some (.cells #[.slice a len cap, .int .i64 (i : Int), .int .i64 h] 81 (0, 0))

theorem grow_set {w w' : World} {g : Nat} (h : w.grownBy w' (some g)) (j : Nat) (u : Value) : w.grownBy (w'.setCell ⟨g, j, none⟩ u) (some g) :=
  ⟨h.os, h.tape, h.output, by have := h.size; simpa using this, fun k hk hne => by rw [Below.heap_setCell _ _ _ _ (fun e => hne (by rw [e]))]; exact h.block k hk hne⟩
theorem grow_drew {w w' : World} {r : Option Nat} (h : w.grownBy w' r) (n : Nat) : w.grownBy (w'.drewN n) r := ⟨h.os, h.tape, h.output, h.size, h.block⟩
theorem grow_new {w w' : World} {r : Option Nat} (h : Below w.heap.size w w') : w.grownBy w' r := ⟨h.os, h.tape, h.output, h.size, fun k hk _ => h.block k hk⟩
theorem grow_below {w w' : World} {g B : Nat} (h : w.grownBy w' (some g)) (hB : B ≤ g) (hs : B ≤ w.heap.size) : Below B w w' :=
  ⟨h.os, h.tape, h.output, h.size, fun k hk => h.block k (by omega) (fun e => by simp at e; omega)⟩

/-- What is left of a number under a mask. -/
theorem and_bd (v : Int) (m : Nat) (hm : m ≤ 4294967295) : ∃ x : Nat, x ≤ m ∧ bits .and .i64 v (m : Int) = (x : Int) := by
  have h2 : (BitVec.ofInt 64 (m : Int)).toNat = m := by
    rw [BitVec.ofInt_natCast, BitVec.toNat_ofNat]; exact Nat.mod_eq_of_lt (by omega)
  have hle : (BitVec.ofInt 64 v &&& BitVec.ofInt 64 (m : Int)).toNat ≤ m := by
    rw [BitVec.toNat_and, h2]; exact Nat.and_le_right
  refine ⟨_, hle, ?_⟩
  show IntKind.i64.wrap ((BitVec.ofInt 64 v &&& BitVec.ofInt 64 (m : Int)).toNat : Int) = _
  exact IntWalk.i64_in _ ⟨by omega, by omega⟩

set_option maxHeartbeats 400000 in
theorem byte_try (B : Nat) (w : World) (a : Option Addr) (len cap g : Nat) (hc : Code B w a len) (hB : B ≤ g) (i : Nat) (h : Int) (hi : i ≤ len) (hg : w.heap[g]? = some (.cells #[.slice a len cap, .int .i64 (i : Int), .int .i64 h] 81 (0, 0))) :
    Calls Try.prog 51 #[.pointer (some ⟨g, 0, none⟩)] w fun e w' => (∃ x : Nat, x ≤ 255 ∧ e = .returned (.int .i64 (x : Int))) ∧ Cur B w' a len cap g ∧ w.grownBy w' (some g) := by
  have x0 : w.cell? ⟨g, 0, none⟩ = some (.slice a len cap) := by rw [cell_of_row w g 0 _ _ _ hg]; rfl
  have x1 : w.cell? ⟨g, 1, none⟩ = some (.int .i64 (i : Int)) := by rw [cell_of_row w g 1 _ _ _ hg]; rfl
  have x2 : w.cell? ⟨g, 2, none⟩ = some (.int .i64 h) := by rw [cell_of_row w g 2 _ _ _ hg]; rfl
  have f1 : w.frozen? ⟨g, 1, none⟩ = false := by simp [World.frozen?, hg]
  have f2 : w.frozen? ⟨g, 2, none⟩ = false := by simp [World.frozen?, hg]
  have HC := hide1 hc
  have HG := hide1 hg
  clear hc hg
  go_enter Try.func51, Try.ntmps51
  go_wp2
  generalize wrap64 (wrap64 (h * 6364136223846793005) + 1442695040888963407) = h2
  obtain ⟨x, hx, ex⟩ := and_bd (bits BinOp.xor IntKind.i64 (h2 / 8589934592) (h2 / 35184372088832)) 255 (by omega)
  rw [show ((255 : Nat) : Int) = 255 from rfl] at ex
  go_quiet (fail)
  clear ex
  by_cases hlt : i < len
  · obtain ⟨b, o, v, rfl, hbB, hcell, hv⟩ := HC.out.cells i hlt
    have hne : ¬ b = g := by omega
    have k1 : (i : Int) < (len : Int) := by omega
    have k2 : (0 : Int) ≤ (i : Int) := by omega
    have hle := HC.out.le
    have r1 : IntKind.i64.wrap ((x : Int) + (v : Int)) = (x : Int) + (v : Int) := IntWalk.i64_in _ ⟨by omega, by omega⟩
    have r2 : IntKind.i64.wrap (v : Int) = (v : Int) := IntWalk.i64_in _ ⟨by omega, by omega⟩
    obtain ⟨y, hy, ey⟩ := and_bd ((x : Int) + (v : Int)) 255 (by omega)
    rw [show ((255 : Nat) : Int) = 255 from rfl] at ey
    go_wp2
    go_quiet (fail)
    go_wp2
    go_quiet (fail)
    go_wp2
    go_ret
    refine ⟨⟨y, hy, rfl⟩, ⟨hB, i + 1, h2, by omega, ?_⟩, ?_⟩
    · exact heap_setCell_same _ g 1 _ _ _ (heap_setCell_same w g 2 _ _ (.int .i64 h2) HG.out)
    · exact grow_set (grow_drew (grow_set (World.grownBy.refl _ _) 2 _) _) 1 _
  · have k1 : ¬ (i : Int) < (len : Int) := by omega
    have hle := HC.out.le
    go_wp2
    go_quiet (fail)
    go_wp2
    go_ret
    refine ⟨⟨x, hx, rfl⟩, ⟨hB, i, h2, hi, ?_⟩, ?_⟩
    · exact heap_setCell_same w g 2 _ _ (.int .i64 h2) HG.out
    · exact grow_drew (grow_drew (grow_set (World.grownBy.refl _ _) 2 _) _) _

/-- The bytes and the cursor, in a world. -/
structure Drw (B : Nat) (w : World) (a : Option Addr) (len cap g : Nat) : Prop where
  code : Code B w a len
  cur : Cur B w a len cap g
  base : B ≤ w.heap.size
/-- What is new lies behind; the cursor stays. -/
theorem Drw.keep {B B' : Nat} {w w' : World} {a : Option Addr} {len cap g : Nat} (h : Drw B w a len cap g) (hb : Below B' w w') (hB : B ≤ B') (hg : g < B') : Drw B w' a len cap g := by
  refine ⟨h.code.below hb hB, ?_, Nat.le_trans h.base hb.size⟩
  obtain ⟨hB, i, k, hi, hh⟩ := h.cur
  exact ⟨hB, i, k, hi, by rw [hb.block g hg]; exact hh⟩
theorem Drw.lt {B : Nat} {w : World} {a : Option Addr} {len cap g : Nat} (h : Drw B w a len cap g) : g < w.heap.size := by
  obtain ⟨_, _, _, _, hh⟩ := h.cur
  exact (Array.getElem?_eq_some_iff.1 hh).1
theorem Drw.later {B : Nat} {w w' : World} {a : Option Addr} {len cap g : Nat} (h : Drw B w a len cap g) (hb : Below w.heap.size w w') : Drw B w' a len cap g := h.keep hb h.base h.lt

theorem byte_any {B : Nat} {w : World} {a : Option Addr} {len cap g : Nat} (h : Drw B w a len cap g) :
    Calls Try.prog 51 #[.pointer (some ⟨g, 0, none⟩)] w fun e w' => ∃ x : Nat, e = .returned (.int .i64 (x : Int)) ∧ x ≤ 255 ∧ Drw B w' a len cap g ∧ w.grownBy w' (some g) := by
  obtain ⟨hB, i, k, hi, hg⟩ := h.cur
  refine (byte_try B w a len cap g h.code hB i k hi hg).mono ?_
  rintro e w' ⟨⟨x, hx, rfl⟩, hc, hb⟩
  exact ⟨x, rfl, hx, ⟨h.code.below (grow_below hb hB h.base) (Nat.le_refl _), hc, Nat.le_trans h.base hb.size⟩, hb⟩

set_option maxHeartbeats 400000 in
theorem below_any {B : Nat} {w : World} {a : Option Addr} {len cap g : Nat} (h : Drw B w a len cap g) (n : Int) (hn : n ≤ 4294967296) :
    Calls Try.prog 32 #[.pointer (some ⟨g, 0, none⟩), .int .i64 n] w fun e w' => ∃ x : Nat, e = .returned (.int .i64 (x : Int)) ∧ (0 < n → (x : Int) < n) ∧ (n ≤ 0 → x = 0) ∧ Drw B w' a len cap g ∧ w.grownBy w' (some g) := by
  by_cases c0 : n ≤ 0
  · go_enter Try.func32, Try.ntmps32
    go_wp2
    go_ret
    exact ⟨0, rfl, by omega, fun _ => rfl, h, World.grownBy.refl _ _⟩
  · by_cases c1 : n ≤ 256
    · have hz : (n == 0) = false := by simp; omega
      go_enter Try.func32, Try.ntmps32
      go_wp2_with (go_at_call 51; refine (byte_any h).mono ?_; rintro e w1 ⟨x, rfl, hx, h1, hb1⟩)
      go_ret
      have e : (((x % n.toNat : Nat)) : Int) = (x : Int) % n := by
        rw [Int.natCast_emod, Int.toNat_of_nonneg (by omega)]
      refine ⟨x % n.toNat, ?_, fun _ => ?_, by omega, h1, hb1⟩
      · show Ending.returned (.int .i64 ((x : Int) % n)) = _
        rw [e]
      · rw [e]; exact Int.emod_lt_of_pos _ (by omega)
    · go_enter Try.func32, Try.ntmps32
      go_wp2_with fail
      refine (byte_any h).mono ?_
      rintro e w1 ⟨x1, rfl, hx1, h1, hb1⟩
      go_wp2_with fail
      refine (byte_any h1).mono ?_
      rintro e w2 ⟨x2, rfl, hx2, h2, hb2⟩
      go_wp2_with fail
      refine (byte_any h2).mono ?_
      rintro e w3 ⟨x3, rfl, hx3, h3, hb3⟩
      go_wp2_with fail
      refine (byte_any h3).mono ?_
      rintro e w4 ⟨x4, rfl, hx4, h4, hb4⟩
      go_wp2
      go_ret
      have e : (((x1 * 16777216 + x2 * 65536 + x3 * 256 + x4) % n.toNat : Nat) : Int) = ((x1 : Int) * 16777216 + (x2 : Int) * 65536 + (x3 : Int) * 256 + (x4 : Int)) % n := by
        rw [Int.natCast_emod, Int.toNat_of_nonneg (by omega)]
        simp
      refine ⟨(x1 * 16777216 + x2 * 65536 + x3 * 256 + x4) % n.toNat, ?_, fun _ => ?_, by omega, h4, ((hb1.trans hb2).trans hb3).trans hb4⟩
      · rw [e]; rfl
      · rw [e]; exact Int.emod_lt_of_pos _ (by omega)

theorem once_any {B : Nat} {w : World} {a : Option Addr} {len cap g : Nat} (h : Drw B w a len cap g) (n : Int) (hn : n ≤ 4294967296) :
    Calls Try.prog 57 #[.pointer (some ⟨g, 0, none⟩), .int .i64 n] w fun e w' => ∃ b : Bool, e = .returned (.bool b) ∧ Drw B w' a len cap g ∧ w.grownBy w' (some g) := by
  go_enter Try.func57, Try.ntmps57
  go_wp2_with (go_at_call 32; refine (below_any h n hn).mono ?_; rintro e w1 ⟨x, rfl, _, _, h1, hb1⟩)
  go_ret
  exact ⟨_, rfl, h1, hb1⟩

set_option maxHeartbeats 400000 in
theorem text_any {B : Nat} {w : World} {a : Option Addr} {len cap g : Nat} (h : Drw B w a len cap g) (n : Nat) (hn : n ≤ 5000) :
    Calls Try.prog 31 #[.pointer (some ⟨g, 0, none⟩), .int .i64 (n : Int)] w fun e w' => ∃ l : List UInt8, e = .returned (.string ⟨l.toArray⟩) ∧ l.length = n ∧ Drw B w' a len cap g ∧ w.grownBy w' (some g) := by
  obtain ⟨i0, hi, hz0, hz1, hz2⟩ := info_parts Try.info5
  have q1 : decide ((5000 : Int) < (n : Int)) = false := by simp; omega
  have hgl := h.lt
  have hba := h.base
  have H := hide1 h
  clear h
  go_enter Try.func31, Try.ntmps31
  go_wp2
  go_loopw [5, 6] (fun v iv wr => ∃ (i : Nat) (acc : List UInt8), i ≤ n ∧ iv = .int .i64 (i : Int) ∧ Hid (acc.length = i) ∧ acc.length ≤ 5000 ∧ wr.ownsRow w.heap.size 5 1 v acc.length (bc acc) ∧ Hid (Drw B wr a len cap g) ∧ w.grownBy wr (some g)) (fun _ iv _ => n - (intOf iv).toNat)
  case atStart => exact ⟨0, [], by omega, rfl, rfl, by simp, owns_empty w _, hide1 (H.out.later ((Below.refl _ _).alloc (Nat.le_refl _) _)), World.grownBy_alloc w _ _⟩
  case round =>
    obtain ⟨i, acc, hin, rfl, hl, hle, hown, hD, hgr⟩ := hrel
    have hbs := hgr.size
    by_cases hlt : i < n
    · have HO := hide1 hown
      have hlt2 : acc.length < 5000 := by have := hl.out; omega
      clear hown
      go_wp2_with fail
      refine (byte_any hD.out).mono ?_
      rintro e w1 ⟨x, rfl, hx, hD1, hb1⟩
      obtain ⟨b, hbe, hbn⟩ := byte_of x (by omega)
      have hown1 : w1.ownsRow w.heap.size 5 1 u5 acc.length (bc acc) := HO.out.kept hb1 (by
        cases hv : u5.ownBlock with
        | none => exact .inl rfl
        | some k => right; intro e; have := (HO.out.lt k hv).1; simp at e; omega)
      have hb1s : w.heap.size ≤ w1.heap.size := Nat.le_trans hbs hb1.size
      have D1 := hide1 hD1
      clear hD1
      go_wp2_with (at_builtin; (refine wpList_push rfl _ _ 22 rfl w.heap.size 5 i0 Try.underlying22 hi hz0 hz1 hz2 _ acc rfl hown1 _ b (by omega) rfl (by omega) hb1s ?_; intro v' w2 hown' hb'))
      go_roundw
      case rel =>
        refine ⟨i + 1, acc ++ [b], by omega, by go_num, ?_, by simp; omega, hown', hide1 (D1.out.keep hb' hba hgl), ?_⟩
        · show (acc ++ [b]).length = i + 1; rw [List.length_append, hl.out]; rfl
        · refine ⟨hb'.os.trans (hb1.os.trans hgr.os), hb'.tape.trans (hb1.tape.trans hgr.tape), hb'.output.trans (hb1.output.trans hgr.output), Nat.le_trans hb1s hb'.size, fun k hk hne => ?_⟩
          rw [hb'.block k hk, hb1.block k (by omega) hne, hgr.block k hk hne]
      case measure => simp [intOf]; omega
    · have hcv := conv_own 22 9 5 Try.underlying22 Try.underlying5 Try.underlying9 hown
      go_wp2
      go_ret
      exact ⟨acc, rfl, by have := hl.out; omega, hD.out, hgr⟩

theorem bc_set (l : List UInt8) (i : Nat) (b : UInt8) : (bc l).set i (.int .u8 (b.toNat : Int)) = bc (l.set i b) := by
  unfold bc; rw [List.map_set]

set_option maxHeartbeats 400000 in
theorem pickInt_any {B : Nat} {w : World} {a : Option Addr} {len cap g : Nat} (h : Drw B w a len cap g) (lg n c : Nat) (hn : 0 < n) (hn2 : n ≤ 1000) (hne : ¬ lg = g) (f : Nat → Int) (hc : ∀ j, j < n → w.cell? ⟨lg, j, none⟩ = some (.int .i64 (f j))) (hlg : lg < w.heap.size) :
    Calls Try.prog 58 #[.pointer (some ⟨g, 0, none⟩), .slice (some ⟨lg, 0, none⟩) n c] w fun e w' => ∃ j : Nat, e = .returned (.int .i64 (f j)) ∧ Drw B w' a len cap g ∧ w.grownBy w' (some g) := by
  have HC := hide1 hc
  clear hc
  go_enter Try.func58, Try.ntmps58
  go_wp2_with (go_at_call 32; refine (below_any h (n : Int) (by omega)).mono ?_; rintro e w1 ⟨x, rfl, hx, _, h1, hb1⟩; have hx' : x < n := (by have := hx (by omega); omega); have hxi : (x : Int) < (n : Int) := (by omega); have x1 : w1.cell? ⟨lg, x, none⟩ = some (.int .i64 (f x)) := (World.cell?_of_block (w := w) (hb1.block lg hlg (fun e => hne (by simpa using e)))).trans (HC.out x hx'); clear hx)
  go_ret
  exact ⟨x, rfl, h1, hb1⟩
end Go.Proofs.Ytinjohpeanlalaa
namespace Go.Proofs.Ytinjohpeanlalaa
open Go.RowKit

set_option maxRecDepth 100000 in
set_option maxHeartbeats 400000 in
theorem new_any (w : World) (a : Option Addr) (len cap : Nat) (hc : Code w.heap.size w a len) :
    Calls Try.prog 30 #[.slice a len cap] w fun e w' => ∃ g : Nat, e = .returned (.pointer (some ⟨g, 0, none⟩)) ∧ Drw w.heap.size w' a len cap g ∧ Below w.heap.size w w' := by
  have hle := hc.le
  have HC := hide1 hc
  clear hc
  go_enter Try.func30, Try.ntmps30
  go_wp2
  go_loop [3, 4] (fun hv iv => ∃ (i h : Nat), i ≤ len ∧ iv = .int .i64 (i : Int) ∧ hv = .int .i64 (h : Int) ∧ h ≤ 1073741823) (fun _ iv => len - (intOf iv).toNat)
  case atStart => exact ⟨0, 14301 + len, by omega, rfl, by go_num, by omega⟩
  case round =>
    obtain ⟨i, h, hi, rfl, rfl, hh⟩ := hrel
    by_cases hlt : i < len ∧ i < 4000
    · obtain ⟨h1, h2⟩ := hlt
      obtain ⟨b, o, v, rfl, hb, hcell, hv⟩ := HC.out.cells i h1
      have k1 : (i : Int) < (len : Int) := by omega
      obtain ⟨y, hy, ey⟩ := and_bd ((h : Int) * 131 + (v : Int) + 7) 1073741823 (by omega)
      rw [show ((1073741823 : Nat) : Int) = 1073741823 from rfl] at ey
      go_wp2
      go_round
      case rel => exact ⟨i + 1, y, by omega, by go_num, rfl, hy⟩
      case measure => simp [intOf]; omega
    · by_cases h1 : i < len
      all_goals
        go_wp2
        go_ret
        refine ⟨w.heap.size, rfl, ⟨HC.out.below ((Below.refl _ _).alloc (Nat.le_refl _) _) (Nat.le_refl _), ⟨Nat.le_refl _, 0, h, Nat.zero_le _, heap_alloc_new w _⟩, by rw [World.size_alloc]; omega⟩, (Below.refl _ _).alloc (Nat.le_refl _) _⟩

def numL : List Int := [-1, 0, 127, 128, 16383, 16384, 1000000000, 1000000001, 9223372036854775807, -9223372036854775808]
theorem numL_at (j : Nat) (h : j < 10) : (#[Value.int .i64 (-1), .int .i64 0, .int .i64 127, .int .i64 128, .int .i64 16383, .int .i64 16384, .int .i64 1000000000, .int .i64 1000000001, .int .i64 9223372036854775807, .int .i64 (-9223372036854775808)] : Array Value)[j]? = some (.int .i64 (numL.getD j 0)) := by
  match j, h with
  | 0, _ => rfl
  | 1, _ => rfl
  | 2, _ => rfl
  | 3, _ => rfl
  | 4, _ => rfl
  | 5, _ => rfl
  | 6, _ => rfl
  | 7, _ => rfl
  | 8, _ => rfl
  | 9, _ => rfl

end Go.Proofs.Ytinjohpeanlalaa
namespace Go.Proofs.Ytinjohpeanlalaa
open Go.RowKit

set_option maxHeartbeats 400000 in
theorem pick_any {B : Nat} {w : World} {a : Option Addr} {len cap g : Nat} (h : Drw B w a len cap g) (lg n c : Nat) (hn : 0 < n) (hn2 : n ≤ 1000) (hne : ¬ lg = g) (f : Nat → ByteArray) (hc : ∀ j, j < n → w.cell? ⟨lg, j, none⟩ = some (.string (f j))) (hlg : lg < w.heap.size) :
    Calls Try.prog 63 #[.pointer (some ⟨g, 0, none⟩), .slice (some ⟨lg, 0, none⟩) n c] w fun e w' => ∃ j : Nat, j < n ∧ e = .returned (.string (f j)) ∧ Drw B w' a len cap g ∧ w.grownBy w' (some g) := by
  have HC := hide1 hc
  clear hc
  go_enter Try.func63, Try.ntmps63
  go_wp2_with (go_at_call 32; refine (below_any h (n : Int) (by omega)).mono ?_; rintro e w1 ⟨x, rfl, hx, _, h1, hb1⟩; have hx' : x < n := (by have := hx (by omega); omega); have hxi : (x : Int) < (n : Int) := (by omega); have x1 : w1.cell? ⟨lg, x, none⟩ = some (.string (f x)) := (World.cell?_of_block (w := w) (hb1.block lg hlg (fun e => hne (by simpa using e)))).trans (HC.out x hx'); clear hx)
  go_ret
  exact ⟨x, hx', rfl, h1, hb1⟩

def keyL : List (List UInt8) := [[97], [98], [99], [100], [101], [102], [103], [104], [107, 49], [107, 50], [107, 51], [107, 101, 121]]
def valL : List (List UInt8) := [[], [118], [119], [120, 120], [121, 121, 121]]
theorem keyL_sizes : ∀ j : Fin 12, 1 ≤ (keyL.getD j.1 []).length ∧ (keyL.getD j.1 []).length ≤ 12 := by decide
theorem valL_sizes : ∀ j : Fin 5, (valL.getD j.1 []).length ≤ 20 := by decide

set_option maxHeartbeats 400000 in
theorem key_any {B : Nat} {w : World} {a : Option Addr} {len cap g : Nat} (h : Drw B w a len cap g) :
    Calls Try.prog 36 #[.pointer (some ⟨g, 0, none⟩)] w fun e w' => ∃ z : ByteArray, e = .returned (.string z) ∧ 1 ≤ z.size ∧ z.size ≤ 12 ∧ Drw B w' a len cap g ∧ w.grownBy w' (some g) := by
  have hlt := h.lt
  go_enter Try.func36, Try.ntmps36
  go_wp2_with fail
  refine (pick_any (h.later ((Below.refl _ _).alloc (Nat.le_refl _) _)) w.heap.size 12 12 (by omega) (by omega) (by omega) (fun j => ⟨(keyL.getD j []).toArray⟩) (fun j hj => ?_) (by rw [World.size_alloc]; omega)).mono ?_
  · rw [World.cell?_alloc_at _ _ _ _ rfl]
    match j, hj with
    | 0, _ => rfl
    | 1, _ => rfl
    | 2, _ => rfl
    | 3, _ => rfl
    | 4, _ => rfl
    | 5, _ => rfl
    | 6, _ => rfl
    | 7, _ => rfl
    | 8, _ => rfl
    | 9, _ => rfl
    | 10, _ => rfl
    | 11, _ => rfl
  · rintro e w2 ⟨j, hj, rfl, h2, hb2⟩
    have hsz := keyL_sizes ⟨j, hj⟩
    obtain ⟨z, hz⟩ : ∃ z : ByteArray, z = ⟨(keyL.getD j []).toArray⟩ := ⟨_, rfl⟩
    have hzs : 1 ≤ z.size ∧ z.size ≤ 12 := by rw [hz]; show 1 ≤ (keyL.getD j []).toArray.size ∧ _; rw [List.size_toArray]; exact hsz
    rw [← hz]
    clear hz hsz
    go_wp2
    go_ret
    exact ⟨z, rfl, hzs.1, hzs.2, h2, (World.grownBy_alloc w _ _).trans hb2⟩

end Go.Proofs.Ytinjohpeanlalaa
namespace Go.Proofs.Ytinjohpeanlalaa
open Go.RowKit

theorem big4_no (a : Option Addr) (len cap : Nat) (w : World) (h : len ≤ 1048576) : Calls Try.prog 8 #[.slice a len cap] w fun e w' => e = .returned (.bool false) ∧ w = w' := by
  have q : decide ((1048576 : Int) < (len : Int)) = false := decide_eq_false (by omega)
  go_enter Try.func8, Try.ntmps8
  go_wp2
  go_ret
  exact ⟨by first | rfl | (show Ending.returned (.bool (decide ((1048576 : Int) < (len : Int)))) = _; rw [q]), rfl⟩

theorem big4_yes (a : Option Addr) (len cap : Nat) (w : World) (h : ¬ len ≤ 1048576) : Calls Try.prog 8 #[.slice a len cap] w fun e w' => e = .returned (.bool true) ∧ w = w' := by
  have q : decide ((1048576 : Int) < (len : Int)) = true := decide_eq_true (by omega)
  go_enter Try.func8, Try.ntmps8
  go_wp2
  go_ret
  exact ⟨by first | rfl | (show Ending.returned (.bool (decide ((1048576 : Int) < (len : Int)))) = _; rw [q]), rfl⟩

def plL : List Int := [-1, 9, 10, 9223372036854775807, -9223372036854775808]
theorem plL_at (j : Nat) (h : j < 5) : (#[Value.int .i64 (-1), .int .i64 9, .int .i64 10, .int .i64 9223372036854775807, .int .i64 (-9223372036854775808)] : Array Value)[j]? = some (.int .i64 (plL.getD j 0)) := by
  match j, h with
  | 0, _ => rfl
  | 1, _ => rfl
  | 2, _ => rfl
  | 3, _ => rfl
  | 4, _ => rfl
theorem plL_in (j : Nat) : -9223372036854775808 ≤ plL.getD j 0 ∧ plL.getD j 0 ≤ 9223372036854775807 := by
  match j with
  | 0 => decide
  | 1 => decide
  | 2 => decide
  | 3 => decide
  | 4 => decide
  | k + 5 => exact ⟨by show (-9223372036854775808 : Int) ≤ 0; decide, by show (0 : Int) ≤ 9223372036854775807; decide⟩

set_option maxHeartbeats 400000 in
theorem place_any {B : Nat} {w : World} {a : Option Addr} {len cap g : Nat} (h : Drw B w a len cap g) :
    Calls Try.prog 33 #[.pointer (some ⟨g, 0, none⟩), .int .i64 9] w fun e w' => ∃ n : Int, e = .returned (.int .i64 n) ∧ (-9223372036854775808 ≤ n ∧ n ≤ 9223372036854775807) ∧ Drw B w' a len cap g ∧ w.grownBy w' (some g) := by
  go_enter Try.func33, Try.ntmps33
  go_wp2_with fail
  refine (once_any h 15 (by omega)).mono ?_
  rintro e w1 ⟨b, rfl, h1, hb1⟩
  cases b with
  | true =>
    go_wp2_with fail
    have hlt := h1.lt
    refine (pickInt_any (h1.later ((Below.refl _ _).alloc (Nat.le_refl _) _)) w1.heap.size 5 5 (by omega) (by omega) (by omega) (fun j => plL.getD j 0) (fun j hj => ?_) (by rw [World.size_alloc]; omega)).mono ?_
    · rw [World.cell?_alloc_at _ _ _ _ rfl]
      exact plL_at j hj
    · rintro e w2 ⟨j, rfl, h2, hb2⟩
      have hin := hide1 (plL_in j)
      generalize plL.getD j 0 = z at *
      go_wp2
      go_ret
      exact ⟨_, rfl, hin.out, h2, hb1.trans ((World.grownBy_alloc w1 _ _).trans hb2)⟩
  | false =>
    go_wp2_with (go_at_call 32; refine (below_any h1 9 (by omega)).mono ?_; rintro e w2 ⟨y, rfl, hy, _, h2, hb2⟩)
    go_ret
    exact ⟨_, rfl, ⟨by omega, by have := hy (by omega); omega⟩, h2, hb1.trans hb2⟩

set_option maxHeartbeats 400000 in
theorem drawHash_any (w : World) (a : Option Addr) (len cap : Nat) (hc : Code w.heap.size w a len) :
    Calls Try.prog 9 #[.slice a len cap] w fun e w' => ∃ (z : ByteArray) (n : Int), e = .returned (.tuple #[.string z, .int .i64 n]) ∧ z.size ≤ 9 ∧ (-9223372036854775808 ≤ n ∧ n ≤ 9223372036854775807) ∧ Below w.heap.size w w' := by
  go_enter Try.func9, Try.ntmps9
  go_wp2_with fail
  refine (new_any w a len cap hc).mono ?_
  rintro e w1 ⟨g, rfl, h1, hb1⟩
  have hBg := h1.cur.1
  go_wp2_with fail
  refine (below_any h1 9 (by omega)).mono ?_
  rintro e w2 ⟨x, rfl, hx, _, h2, hb2⟩
  have hx9 : x < 9 := by have := hx (by omega); omega
  clear hx
  go_wp2_with fail
  refine (text_any h2 x (by omega)).mono ?_
  rintro e w3 ⟨z, rfl, hz, h3, hb3⟩
  have HZ := hide1 (show ByteArray.size ⟨z.toArray⟩ ≤ 9 by show z.toArray.size ≤ 9; rw [List.size_toArray, hz]; omega)
  generalize (⟨z.toArray⟩ : ByteArray) = s at *
  clear hz
  go_wp2_with fail
  refine (place_any h3).mono ?_
  rintro e w4 ⟨n, rfl, hn, h4, hb4⟩
  have HN := hide1 hn
  clear hn
  go_wp2
  go_ret2
  exact ⟨s, n, rfl, HZ.out, HN.out, hb1.trans (grow_below (hb2.trans (hb3.trans hb4)) hBg h1.base)⟩
end Go.Proofs.Ytinjohpeanlalaa
