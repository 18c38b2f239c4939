/- The contracts of the drawing functions: whatever bytes are drawn from, they answer, within their bounds, and write their own cursor alone. -/
import Derived.Test.YtbkhhkknhbddeaaDoorProg
import Derived.Test.YtbkhhkknhbddeaaDoorKitD
import Derived.Test.YtbkhhkknhbddeaaDoorInfo
import Derived.Deep.RegionHeld3
import Derived.Deep.QuietTactic
import Derived.BigQuiet
import Derived.Handy
import Derived.Test.YtbkhhkknhbddeaaDoorImT
import Derived.Test.YtbkhhkknhbddeaaDoorKitC
import Derived.Lib.ItoaMem
import Derived.Lib.ItoaLen
import Derived.Test.YtbkhhkknhbddeaaDoorImM
import Derived.Laws.StructEq
import Derived.Test.YtbkhhkknhbddeaaDoorRdM
import Derived.Test.YtbkhhkknhbddeaaDoorKitB
import Derived.Deep.RegionWith
import Derived.Deep.DeepCutAuto
import Derived.Test.YtbkhhkknhbddeaaDoorMsU
import Derived.Test.YtbkhhkknhbddeaaDoorRdP
namespace Go.Proofs.YtbkhhkknhbddeaaDoor
open Go.RowKit

/-- The bytes to draw from: at most 2^20, in memory below block B. -/
structure Code (B : Nat) (w : World) (a : Option Addr) (len : Nat) : Prop where
  le : len ≤ 1048576
  cells : ∀ j, j < len → ∃ (b o v : Nat), a = some ⟨b, o, none⟩ ∧ b < B ∧ w.cell? ⟨b, o + j, none⟩ = some (.int .u8 (v : Int)) ∧ v ≤ 255
theorem Code.below {B B' : Nat} {w w' : World} {a : Option Addr} {len : Nat} (h : Code B w a len) (hb : Below B' w w') (hB : B ≤ B') : Code B w' a len :=
  ⟨h.le, fun j hj => by
    obtain ⟨b, o, v, h1, h2, h3, h4⟩ := h.cells j hj
    exact ⟨b, o, v, h1, h2, (hb.cell (p := ⟨b, o + j, none⟩) (Nat.lt_of_lt_of_le h2 hB)).trans h3, h4⟩⟩

/-- What a []byte that came in reads as: nothing, or bytes in memory. -/
def RowB (w : World) (a : Option Addr) (len : Nat) : Prop := ∀ j, j < len → ∃ (b o v : Nat), a = some ⟨b, o, none⟩ ∧ b < w.heap.size ∧ w.cell? ⟨b, o + j, none⟩ = some (.int .u8 (v : Int)) ∧ v ≤ 255
theorem rowB_of {w : World} {x : Addr} {len cap : Nat} {zs : List Int} (hl : len ≤ cap) (hz : zs.length = cap) (hc : ∀ i, i < zs.length → w.cell? (x.add i) = some (.int .u8 (zs.getD i 0))) (hw : ∀ n ∈ zs, 0 ≤ n ∧ n ≤ 255) : RowB w (some x) len := by
  intro j hj
  have h := hc j (by omega)
  obtain ⟨b, o, spot⟩ := x
  have h0 := hc 0 (by omega)
  have hspot : spot = none := by simpa [Addr.add] using World.cell?_spot h0
  subst hspot
  have hj2 : j < zs.length := by omega
  have hm : zs.getD j 0 ∈ zs := by rw [List.getD_eq_getElem?_getD, List.getElem?_eq_getElem hj2]; exact List.getElem_mem hj2
  have hb := hw _ hm
  rw [Addr.add_lit] at h
  refine ⟨b, o, (zs.getD j 0).toNat, rfl, World.block_lt_of_cell? w _ h, ?_, by omega⟩
  rw [h, Int.toNat_of_nonneg hb.1]
theorem RowB.code {w : World} {a : Option Addr} {len : Nat} (h : RowB w a len) (hl : len ≤ 1048576) : Code w.heap.size w a len := ⟨hl, h⟩

/-- The cursor in block g. -/
def Cur (B : Nat) (w : World) (a : Option Addr) (len cap g : Nat) : Prop :=
  B ≤ g ∧ ∃ (i : Nat) (h : Int), i ≤ len ∧ w.heap[g]? = some (.cells #[.slice a len cap, .int .i64 (i : Int), .int .i64 h] 74 (0, 0))

theorem grow_set {w w' : World} {g : Nat} (h : w.grownBy w' (some g)) (j : Nat) (u : Value) : w.grownBy (w'.setCell ⟨g, j, none⟩ u) (some g) :=
  ⟨h.os, h.tape, h.output, by have := h.size; simpa using this, fun k hk hne => by rw [Below.heap_setCell _ _ _ _ (fun e => hne (by rw [e]))]; exact h.block k hk hne⟩
theorem grow_drew {w w' : World} {r : Option Nat} (h : w.grownBy w' r) (n : Nat) : w.grownBy (w'.drewN n) r := ⟨h.os, h.tape, h.output, h.size, h.block⟩
theorem grow_new {w w' : World} {r : Option Nat} (h : Below w.heap.size w w') : w.grownBy w' r := ⟨h.os, h.tape, h.output, h.size, fun k hk _ => h.block k hk⟩
theorem grow_below {w w' : World} {g B : Nat} (h : w.grownBy w' (some g)) (hB : B ≤ g) (hs : B ≤ w.heap.size) : Below B w w' :=
  ⟨h.os, h.tape, h.output, h.size, fun k hk => h.block k (by omega) (fun e => by simp at e; omega)⟩

/-- What is left of a number under a mask. -/
theorem and_bd (v : Int) (m : Nat) (hm : m ≤ 4294967295) : ∃ x : Nat, x ≤ m ∧ bits .and .i64 v (m : Int) = (x : Int) := by
  have h2 : (BitVec.ofInt 64 (m : Int)).toNat = m := by
    rw [BitVec.ofInt_natCast, BitVec.toNat_ofNat]; exact Nat.mod_eq_of_lt (by omega)
  have hle : (BitVec.ofInt 64 v &&& BitVec.ofInt 64 (m : Int)).toNat ≤ m := by
    rw [BitVec.toNat_and, h2]; exact Nat.and_le_right
  refine ⟨_, hle, ?_⟩
  show IntKind.i64.wrap ((BitVec.ofInt 64 v &&& BitVec.ofInt 64 (m : Int)).toNat : Int) = _
  exact IntWalk.i64_in _ ⟨by omega, by omega⟩

set_option maxHeartbeats 400000 in
theorem byte_try (B : Nat) (w : World) (a : Option Addr) (len cap g : Nat) (hc : Code B w a len) (hB : B ≤ g) (i : Nat) (h : Int) (hi : i ≤ len) (hg : w.heap[g]? = some (.cells #[.slice a len cap, .int .i64 (i : Int), .int .i64 h] 74 (0, 0))) :
    Calls Tryd.prog 41 #[.pointer (some ⟨g, 0, none⟩)] w fun e w' => (∃ x : Nat, x ≤ 255 ∧ e = .returned (.int .i64 (x : Int))) ∧ Cur B w' a len cap g ∧ w.grownBy w' (some g) := by
  have x0 : w.cell? ⟨g, 0, none⟩ = some (.slice a len cap) := by rw [cell_of_row w g 0 _ _ _ hg]; rfl
  have x1 : w.cell? ⟨g, 1, none⟩ = some (.int .i64 (i : Int)) := by rw [cell_of_row w g 1 _ _ _ hg]; rfl
  have x2 : w.cell? ⟨g, 2, none⟩ = some (.int .i64 h) := by rw [cell_of_row w g 2 _ _ _ hg]; rfl
  have f1 : w.frozen? ⟨g, 1, none⟩ = false := by simp [World.frozen?, hg]
  have f2 : w.frozen? ⟨g, 2, none⟩ = false := by simp [World.frozen?, hg]
  have HC := hide1 hc
  have HG := hide1 hg
  clear hc hg
  go_enter Tryd.func41, Tryd.ntmps41
  go_wp2
  generalize wrap64 (wrap64 (h * 6364136223846793005) + 1442695040888963407) = h2
  obtain ⟨x, hx, ex⟩ := and_bd (bits BinOp.xor IntKind.i64 (h2 / 8589934592) (h2 / 35184372088832)) 255 (by omega)
  rw [show ((255 : Nat) : Int) = 255 from rfl] at ex
  go_quiet (fail)
  clear ex
  by_cases hlt : i < len
  · obtain ⟨b, o, v, rfl, hbB, hcell, hv⟩ := HC.out.cells i hlt
    have hne : ¬ b = g := by omega
    have k1 : (i : Int) < (len : Int) := by omega
    have k2 : (0 : Int) ≤ (i : Int) := by omega
    have hle := HC.out.le
    have r1 : IntKind.i64.wrap ((x : Int) + (v : Int)) = (x : Int) + (v : Int) := IntWalk.i64_in _ ⟨by omega, by omega⟩
    have r2 : IntKind.i64.wrap (v : Int) = (v : Int) := IntWalk.i64_in _ ⟨by omega, by omega⟩
    obtain ⟨y, hy, ey⟩ := and_bd ((x : Int) + (v : Int)) 255 (by omega)
    rw [show ((255 : Nat) : Int) = 255 from rfl] at ey
    go_wp2
    go_quiet (fail)
    go_wp2
    go_quiet (fail)
    go_wp2
    go_ret
    refine ⟨⟨y, hy, rfl⟩, ⟨hB, i + 1, h2, by omega, ?_⟩, ?_⟩
    · exact heap_setCell_same _ g 1 _ _ _ (heap_setCell_same w g 2 _ _ (.int .i64 h2) HG.out)
    · exact grow_set (grow_drew (grow_set (World.grownBy.refl _ _) 2 _) _) 1 _
  · have k1 : ¬ (i : Int) < (len : Int) := by omega
    have hle := HC.out.le
    go_wp2
    go_quiet (fail)
    go_wp2
    go_ret
    refine ⟨⟨x, hx, rfl⟩, ⟨hB, i, h2, hi, ?_⟩, ?_⟩
    · exact heap_setCell_same w g 2 _ _ (.int .i64 h2) HG.out
    · exact grow_drew (grow_drew (grow_set (World.grownBy.refl _ _) 2 _) _) _

/-- The bytes and the cursor, in a world. -/
structure Drw (B : Nat) (w : World) (a : Option Addr) (len cap g : Nat) : Prop where
  code : Code B w a len
  cur : Cur B w a len cap g
  base : B ≤ w.heap.size
/-- What is new lies behind; the cursor stays. -/
theorem Drw.keep {B B' : Nat} {w w' : World} {a : Option Addr} {len cap g : Nat} (h : Drw B w a len cap g) (hb : Below B' w w') (hB : B ≤ B') (hg : g < B') : Drw B w' a len cap g := by
  refine ⟨h.code.below hb hB, ?_, Nat.le_trans h.base hb.size⟩
  obtain ⟨hB, i, k, hi, hh⟩ := h.cur
  exact ⟨hB, i, k, hi, by rw [hb.block g hg]; exact hh⟩
theorem Drw.lt {B : Nat} {w : World} {a : Option Addr} {len cap g : Nat} (h : Drw B w a len cap g) : g < w.heap.size := by
  obtain ⟨_, _, _, _, hh⟩ := h.cur
  exact (Array.getElem?_eq_some_iff.1 hh).1
theorem Drw.later {B : Nat} {w w' : World} {a : Option Addr} {len cap g : Nat} (h : Drw B w a len cap g) (hb : Below w.heap.size w w') : Drw B w' a len cap g := h.keep hb h.base h.lt

theorem byte_any {B : Nat} {w : World} {a : Option Addr} {len cap g : Nat} (h : Drw B w a len cap g) :
    Calls Tryd.prog 41 #[.pointer (some ⟨g, 0, none⟩)] w fun e w' => ∃ x : Nat, e = .returned (.int .i64 (x : Int)) ∧ x ≤ 255 ∧ Drw B w' a len cap g ∧ w.grownBy w' (some g) := by
  obtain ⟨hB, i, k, hi, hg⟩ := h.cur
  refine (byte_try B w a len cap g h.code hB i k hi hg).mono ?_
  rintro e w' ⟨⟨x, hx, rfl⟩, hc, hb⟩
  exact ⟨x, rfl, hx, ⟨h.code.below (grow_below hb hB h.base) (Nat.le_refl _), hc, Nat.le_trans h.base hb.size⟩, hb⟩

set_option maxHeartbeats 400000 in
theorem below_any {B : Nat} {w : World} {a : Option Addr} {len cap g : Nat} (h : Drw B w a len cap g) (n : Int) (hn : n ≤ 4294967296) :
    Calls Tryd.prog 34 #[.pointer (some ⟨g, 0, none⟩), .int .i64 n] w fun e w' => ∃ x : Nat, e = .returned (.int .i64 (x : Int)) ∧ (0 < n → (x : Int) < n) ∧ (n ≤ 0 → x = 0) ∧ Drw B w' a len cap g ∧ w.grownBy w' (some g) := by
  by_cases c0 : n ≤ 0
  · go_enter Tryd.func34, Tryd.ntmps34
    go_wp2
    go_ret
    exact ⟨0, rfl, by omega, fun _ => rfl, h, World.grownBy.refl _ _⟩
  · by_cases c1 : n ≤ 256
    · have hz : (n == 0) = false := by simp; omega
      go_enter Tryd.func34, Tryd.ntmps34
      go_wp2_with (go_at_call 41; refine (byte_any h).mono ?_; rintro e w1 ⟨x, rfl, hx, h1, hb1⟩)
      go_ret
      have e : (((x % n.toNat : Nat)) : Int) = (x : Int) % n := by
        rw [Int.natCast_emod, Int.toNat_of_nonneg (by omega)]
      refine ⟨x % n.toNat, ?_, fun _ => ?_, by omega, h1, hb1⟩
      · show Ending.returned (.int .i64 ((x : Int) % n)) = _
        rw [e]
      · rw [e]; exact Int.emod_lt_of_pos _ (by omega)
    · go_enter Tryd.func34, Tryd.ntmps34
      go_wp2_with fail
      refine (byte_any h).mono ?_
      rintro e w1 ⟨x1, rfl, hx1, h1, hb1⟩
      go_wp2_with fail
      refine (byte_any h1).mono ?_
      rintro e w2 ⟨x2, rfl, hx2, h2, hb2⟩
      go_wp2_with fail
      refine (byte_any h2).mono ?_
      rintro e w3 ⟨x3, rfl, hx3, h3, hb3⟩
      go_wp2_with fail
      refine (byte_any h3).mono ?_
      rintro e w4 ⟨x4, rfl, hx4, h4, hb4⟩
      go_wp2
      go_ret
      have e : (((x1 * 16777216 + x2 * 65536 + x3 * 256 + x4) % n.toNat : Nat) : Int) = ((x1 : Int) * 16777216 + (x2 : Int) * 65536 + (x3 : Int) * 256 + (x4 : Int)) % n := by
        rw [Int.natCast_emod, Int.toNat_of_nonneg (by omega)]
        simp
      refine ⟨(x1 * 16777216 + x2 * 65536 + x3 * 256 + x4) % n.toNat, ?_, fun _ => ?_, by omega, h4, ((hb1.trans hb2).trans hb3).trans hb4⟩
      · rw [e]; rfl
      · rw [e]; exact Int.emod_lt_of_pos _ (by omega)

set_option maxHeartbeats 400000 in
theorem text_any {B : Nat} {w : World} {a : Option Addr} {len cap g : Nat} (h : Drw B w a len cap g) (n : Nat) (hn : n ≤ 5000) :
    Calls Tryd.prog 60 #[.pointer (some ⟨g, 0, none⟩), .int .i64 (n : Int)] w fun e w' => ∃ l : List UInt8, e = .returned (.string ⟨l.toArray⟩) ∧ l.length = n ∧ Drw B w' a len cap g ∧ w.grownBy w' (some g) := by
  obtain ⟨i0, hi, hz0, hz1, hz2⟩ := info_parts Tryd.info5
  have q1 : decide ((5000 : Int) < (n : Int)) = false := by simp; omega
  have hgl := h.lt
  have hba := h.base
  have H := hide1 h
  clear h
  go_enter Tryd.func60, Tryd.ntmps60
  go_wp2
  go_loopw [5, 6] (fun v iv wr => ∃ (i : Nat) (acc : List UInt8), i ≤ n ∧ iv = .int .i64 (i : Int) ∧ Hid (acc.length = i) ∧ acc.length ≤ 5000 ∧ wr.ownsRow w.heap.size 5 1 v acc.length (bc acc) ∧ Hid (Drw B wr a len cap g) ∧ w.grownBy wr (some g)) (fun _ iv _ => n - (intOf iv).toNat)
  case atStart => exact ⟨0, [], by omega, rfl, rfl, by simp, owns_empty w _, hide1 (H.out.later ((Below.refl _ _).alloc (Nat.le_refl _) _)), World.grownBy_alloc w _ _⟩
  case round =>
    obtain ⟨i, acc, hin, rfl, hl, hle, hown, hD, hgr⟩ := hrel
    have hbs := hgr.size
    by_cases hlt : i < n
    · have HO := hide1 hown
      have hlt2 : acc.length < 5000 := by have := hl.out; omega
      clear hown
      go_wp2_with fail
      refine (byte_any hD.out).mono ?_
      rintro e w1 ⟨x, rfl, hx, hD1, hb1⟩
      obtain ⟨b, hbe, hbn⟩ := byte_of x (by omega)
      have hown1 : w1.ownsRow w.heap.size 5 1 u5 acc.length (bc acc) := HO.out.kept hb1 (by
        cases hv : u5.ownBlock with
        | none => exact .inl rfl
        | some k => right; intro e; have := (HO.out.lt k hv).1; simp at e; omega)
      have hb1s : w.heap.size ≤ w1.heap.size := Nat.le_trans hbs hb1.size
      have D1 := hide1 hD1
      clear hD1
      go_wp2_with (at_builtin; (refine wpList_push rfl _ _ 22 rfl w.heap.size 5 i0 Tryd.underlying22 hi hz0 hz1 hz2 _ acc rfl hown1 _ b (by omega) rfl (by omega) hb1s ?_; intro v' w2 hown' hb'))
      go_roundw
      case rel =>
        refine ⟨i + 1, acc ++ [b], by omega, by go_num, ?_, by simp; omega, hown', hide1 (D1.out.keep hb' hba hgl), ?_⟩
        · show (acc ++ [b]).length = i + 1; rw [List.length_append, hl.out]; rfl
        · refine ⟨hb'.os.trans (hb1.os.trans hgr.os), hb'.tape.trans (hb1.tape.trans hgr.tape), hb'.output.trans (hb1.output.trans hgr.output), Nat.le_trans hb1s hb'.size, fun k hk hne => ?_⟩
          rw [hb'.block k hk, hb1.block k (by omega) hne, hgr.block k hk hne]
      case measure => simp [intOf]; omega
    · have hcv := conv_own 22 9 5 Tryd.underlying22 Tryd.underlying5 Tryd.underlying9 hown
      go_wp2
      go_ret
      exact ⟨acc, rfl, by have := hl.out; omega, hD.out, hgr⟩

theorem bc_set (l : List UInt8) (i : Nat) (b : UInt8) : (bc l).set i (.int .u8 (b.toNat : Int)) = bc (l.set i b) := by
  unfold bc; rw [List.map_set]

set_option maxHeartbeats 400000 in
theorem long_any (n : Nat) (b : UInt8) (w : World) (hn : n ≤ 1048576) :
    Calls Tryd.prog 71 #[.int .i64 (n : Int), .int .u8 (b.toNat : Int)] w fun e w' => ∃ l : List UInt8, e = .returned (.string ⟨l.toArray⟩) ∧ l.length = n ∧ Below w.heap.size w w' := by
  obtain ⟨i0, hi, hz0, hz1, hz2⟩ := info_parts Tryd.info5
  have hb8 := b.toNat_lt
  go_enter Tryd.func71, Tryd.ntmps71
  go_wp2_with (at_make; (refine wpList_make_full _ rfl _ _ 22 rfl w.heap.size 5 i0 (.int .u8 0) 1 Tryd.underlying22 hi hz0 hz1 _ _ _ _ n rfl rfl rfl rfl (by rw [hz2]; omega) (by unfold maxLen; omega) (Nat.le_refl _) ?_; intro w0 hown0 hg0))
  have hst : Hid (w0.ownsRow w.heap.size 5 1 (.slice (some ⟨w.heap.size, 0, none⟩) n n) n (bc (List.replicate n 0))) := by
    have e : (madeCells (Value.int .u8 0).cells (n * 1)).toList = bc (List.replicate n 0) := by
      show (madeCells #[Value.int .u8 0] (n * 1)).toList = _
      rw [toList_madeCells_one, Nat.mul_one]
      simp [bc]
    rw [← e]; exact hown0
  clear hown0
  go_loopw [6] (fun iv wr => ∃ (i : Nat) (l : List UInt8), i ≤ n ∧ iv = .int .i64 (i : Int) ∧ Hid (l.length = n) ∧ wr.ownsRow w.heap.size 5 1 (.slice (some ⟨w.heap.size, 0, none⟩) n n) n (bc l) ∧ Below w.heap.size w wr) (fun iv _ => n - (intOf iv).toNat)
  case atStart => exact ⟨0, List.replicate n 0, by omega, rfl, by show (List.replicate n 0).length = n; simp, hst.out, Below.grown (Below.refl _ _) hg0 (Nat.le_refl _) (by intro k hk; cases hk)⟩
  case round =>
    obtain ⟨i, l, hin, rfl, hl, hown, hbel⟩ := hrel
    by_cases hlt : i < n
    · have k1 : (i : Int) < (n : Int) := by omega
      have hli : i < l.length := by have := hl.out; omega
      have x1 : wr.cell? ⟨w.heap.size, i, none⟩ = some (.int .u8 (l[i].toNat : Int)) := (hown.cellAt i (by omega)).trans (by simp [bc, List.getElem?_eq_getElem hli])
      have x2 := hown.frozenAt i
      have st := hide1 (World.ownsRow.stored hown i (.int .u8 (b.toNat : Int)))
      clear hown
      generalize (l[i].toNat : Int) = old at x1
      go_wp2
      go_roundw
      case rel => exact ⟨i + 1, l.set i b, by omega, by go_num, by show (l.set i b).length = n; rw [List.length_set]; exact hl.out, by rw [← bc_set]; exact st.out.1, hbel.setCell (p := ⟨w.heap.size, i, none⟩) (Nat.le_refl _) _⟩
      case measure => simp [intOf]; omega
    · have hown2 : wr.ownsRow w.heap.size 5 1 (.slice (some ⟨w.heap.size, 0, none⟩) n n) n (bc l) := hown
      have hcv := conv_own 22 9 5 Tryd.underlying22 Tryd.underlying5 Tryd.underlying9 hown2
      go_wp2
      go_ret
      exact ⟨l, rfl, hl.out, hbel⟩

set_option maxHeartbeats 400000 in
theorem pickInt_any {B : Nat} {w : World} {a : Option Addr} {len cap g : Nat} (h : Drw B w a len cap g) (lg n c : Nat) (hn : 0 < n) (hn2 : n ≤ 1000) (hne : ¬ lg = g) (f : Nat → Int) (hc : ∀ j, j < n → w.cell? ⟨lg, j, none⟩ = some (.int .i64 (f j))) (hlg : lg < w.heap.size) :
    Calls Tryd.prog 51 #[.pointer (some ⟨g, 0, none⟩), .slice (some ⟨lg, 0, none⟩) n c] w fun e w' => ∃ j : Nat, e = .returned (.int .i64 (f j)) ∧ Drw B w' a len cap g ∧ w.grownBy w' (some g) := by
  have HC := hide1 hc
  clear hc
  go_enter Tryd.func51, Tryd.ntmps51
  go_wp2_with (go_at_call 34; refine (below_any h (n : Int) (by omega)).mono ?_; rintro e w1 ⟨x, rfl, hx, _, h1, hb1⟩; have hx' : x < n := (by have := hx (by omega); omega); have hxi : (x : Int) < (n : Int) := (by omega); have x1 : w1.cell? ⟨lg, x, none⟩ = some (.int .i64 (f x)) := (World.cell?_of_block (w := w) (hb1.block lg hlg (fun e => hne (by simpa using e)))).trans (HC.out x hx'); clear hx)
  go_ret
  exact ⟨x, rfl, h1, hb1⟩
end Go.Proofs.YtbkhhkknhbddeaaDoor
namespace Go.Proofs.YtbkhhkknhbddeaaDoor
open Go.RowKit

set_option maxRecDepth 100000 in
set_option maxHeartbeats 400000 in
theorem new_any (w : World) (a : Option Addr) (len cap : Nat) (hc : Code w.heap.size w a len) :
    Calls Tryd.prog 23 #[.slice a len cap] w fun e w' => ∃ g : Nat, e = .returned (.pointer (some ⟨g, 0, none⟩)) ∧ Drw w.heap.size w' a len cap g ∧ Below w.heap.size w w' := by
  have hle := hc.le
  have HC := hide1 hc
  clear hc
  go_enter Tryd.func23, Tryd.ntmps23
  go_wp2
  go_loop [3, 4] (fun hv iv => ∃ (i h : Nat), i ≤ len ∧ iv = .int .i64 (i : Int) ∧ hv = .int .i64 (h : Int) ∧ h ≤ 1073741823) (fun _ iv => len - (intOf iv).toNat)
  case atStart => exact ⟨0, 14301 + len, by omega, rfl, by go_num, by omega⟩
  case round =>
    obtain ⟨i, h, hi, rfl, rfl, hh⟩ := hrel
    by_cases hlt : i < len ∧ i < 4000
    · obtain ⟨h1, h2⟩ := hlt
      obtain ⟨b, o, v, rfl, hb, hcell, hv⟩ := HC.out.cells i h1
      have k1 : (i : Int) < (len : Int) := by omega
      obtain ⟨y, hy, ey⟩ := and_bd ((h : Int) * 131 + (v : Int) + 7) 1073741823 (by omega)
      rw [show ((1073741823 : Nat) : Int) = 1073741823 from rfl] at ey
      go_wp2
      go_round
      case rel => exact ⟨i + 1, y, by omega, by go_num, rfl, hy⟩
      case measure => simp [intOf]; omega
    · by_cases h1 : i < len
      all_goals
        go_wp2
        go_ret
        refine ⟨w.heap.size, rfl, ⟨HC.out.below ((Below.refl _ _).alloc (Nat.le_refl _) _) (Nat.le_refl _), ⟨Nat.le_refl _, 0, h, Nat.zero_le _, heap_alloc_new w _⟩, by rw [World.size_alloc]; omega⟩, (Below.refl _ _).alloc (Nat.le_refl _) _⟩

def numL : List Int := [-1, 0, 127, 128, 16383, 16384, 1000000000, 1000000001, 9223372036854775807, -9223372036854775808]
theorem numL_at (j : Nat) (h : j < 10) : (#[Value.int .i64 (-1), .int .i64 0, .int .i64 127, .int .i64 128, .int .i64 16383, .int .i64 16384, .int .i64 1000000000, .int .i64 1000000001, .int .i64 9223372036854775807, .int .i64 (-9223372036854775808)] : Array Value)[j]? = some (.int .i64 (numL.getD j 0)) := by
  match j, h with
  | 0, _ => rfl
  | 1, _ => rfl
  | 2, _ => rfl
  | 3, _ => rfl
  | 4, _ => rfl
  | 5, _ => rfl
  | 6, _ => rfl
  | 7, _ => rfl
  | 8, _ => rfl
  | 9, _ => rfl

end Go.Proofs.YtbkhhkknhbddeaaDoor
namespace Go.Proofs.YtbkhhkknhbddeaaDoor
open Go.RowKit

set_option maxHeartbeats 400000 in
theorem pick_any {B : Nat} {w : World} {a : Option Addr} {len cap g : Nat} (h : Drw B w a len cap g) (lg n c : Nat) (hn : 0 < n) (hn2 : n ≤ 1000) (hne : ¬ lg = g) (f : Nat → ByteArray) (hc : ∀ j, j < n → w.cell? ⟨lg, j, none⟩ = some (.string (f j))) (hlg : lg < w.heap.size) :
    Calls Tryd.prog 70 #[.pointer (some ⟨g, 0, none⟩), .slice (some ⟨lg, 0, none⟩) n c] w fun e w' => ∃ j : Nat, j < n ∧ e = .returned (.string (f j)) ∧ Drw B w' a len cap g ∧ w.grownBy w' (some g) := by
  have HC := hide1 hc
  clear hc
  go_enter Tryd.func70, Tryd.ntmps70
  go_wp2_with (go_at_call 34; refine (below_any h (n : Int) (by omega)).mono ?_; rintro e w1 ⟨x, rfl, hx, _, h1, hb1⟩; have hx' : x < n := (by have := hx (by omega); omega); have hxi : (x : Int) < (n : Int) := (by omega); have x1 : w1.cell? ⟨lg, x, none⟩ = some (.string (f x)) := (World.cell?_of_block (w := w) (hb1.block lg hlg (fun e => hne (by simpa using e)))).trans (HC.out x hx'); clear hx)
  go_ret
  exact ⟨x, hx', rfl, h1, hb1⟩

def keyL : List (List UInt8) := [[97], [98], [99], [100], [101], [102], [103], [104], [107, 49], [107, 50], [107, 51], [107, 101, 121]]
def valL : List (List UInt8) := [[], [118], [119], [120, 120], [121, 121, 121]]
theorem keyL_sizes : ∀ j : Fin 12, 1 ≤ (keyL.getD j.1 []).length ∧ (keyL.getD j.1 []).length ≤ 12 := by decide
theorem valL_sizes : ∀ j : Fin 5, (valL.getD j.1 []).length ≤ 20 := by decide

set_option maxHeartbeats 400000 in
theorem key_any {B : Nat} {w : World} {a : Option Addr} {len cap g : Nat} (h : Drw B w a len cap g) :
    Calls Tryd.prog 81 #[.pointer (some ⟨g, 0, none⟩)] w fun e w' => ∃ z : ByteArray, e = .returned (.string z) ∧ 1 ≤ z.size ∧ z.size ≤ 12 ∧ Drw B w' a len cap g ∧ w.grownBy w' (some g) := by
  have hlt := h.lt
  go_enter Tryd.func81, Tryd.ntmps81
  go_wp2_with fail
  refine (pick_any (h.later ((Below.refl _ _).alloc (Nat.le_refl _) _)) w.heap.size 12 12 (by omega) (by omega) (by omega) (fun j => ⟨(keyL.getD j []).toArray⟩) (fun j hj => ?_) (by rw [World.size_alloc]; omega)).mono ?_
  · rw [World.cell?_alloc_at _ _ _ _ rfl]
    match j, hj with
    | 0, _ => rfl
    | 1, _ => rfl
    | 2, _ => rfl
    | 3, _ => rfl
    | 4, _ => rfl
    | 5, _ => rfl
    | 6, _ => rfl
    | 7, _ => rfl
    | 8, _ => rfl
    | 9, _ => rfl
    | 10, _ => rfl
    | 11, _ => rfl
  · rintro e w2 ⟨j, hj, rfl, h2, hb2⟩
    have hsz := keyL_sizes ⟨j, hj⟩
    obtain ⟨z, hz⟩ : ∃ z : ByteArray, z = ⟨(keyL.getD j []).toArray⟩ := ⟨_, rfl⟩
    have hzs : 1 ≤ z.size ∧ z.size ≤ 12 := by rw [hz]; show 1 ≤ (keyL.getD j []).toArray.size ∧ _; rw [List.size_toArray]; exact hsz
    rw [← hz]
    clear hz hsz
    go_wp2
    go_ret
    exact ⟨z, rfl, hzs.1, hzs.2, h2, (World.grownBy_alloc w _ _).trans hb2⟩

set_option maxHeartbeats 400000 in
theorem val_any {B : Nat} {w : World} {a : Option Addr} {len cap g : Nat} (h : Drw B w a len cap g) :
    Calls Tryd.prog 82 #[.pointer (some ⟨g, 0, none⟩)] w fun e w' => ∃ z : ByteArray, e = .returned (.string z) ∧ z.size ≤ 20 ∧ Drw B w' a len cap g ∧ w.grownBy w' (some g) := by
  have hlt := h.lt
  go_enter Tryd.func82, Tryd.ntmps82
  go_wp2_with fail
  refine (pick_any (h.later ((Below.refl _ _).alloc (Nat.le_refl _) _)) w.heap.size 5 5 (by omega) (by omega) (by omega) (fun j => ⟨(valL.getD j []).toArray⟩) (fun j hj => ?_) (by rw [World.size_alloc]; omega)).mono ?_
  · rw [World.cell?_alloc_at _ _ _ _ rfl]
    match j, hj with
    | 0, _ => rfl
    | 1, _ => rfl
    | 2, _ => rfl
    | 3, _ => rfl
    | 4, _ => rfl
  · rintro e w2 ⟨j, hj, rfl, h2, hb2⟩
    have hsz := valL_sizes ⟨j, hj⟩
    obtain ⟨z, hz⟩ : ∃ z : ByteArray, z = ⟨(valL.getD j []).toArray⟩ := ⟨_, rfl⟩
    have hzs : z.size ≤ 20 := by rw [hz]; show (valL.getD j []).toArray.size ≤ 20; rw [List.size_toArray]; exact hsz
    rw [← hz]
    clear hz hsz
    go_wp2
    go_ret
    exact ⟨z, rfl, hzs, h2, (World.grownBy_alloc w _ _).trans hb2⟩
end Go.Proofs.YtbkhhkknhbddeaaDoor
namespace Go.Proofs.YtbkhhkknhbddeaaDoor
open Go.RowKit
set_option linter.unusedVariables false

theorem own_lower {w w' : World} {B base n size : Nat} {e : TypeId} {v : Value} {xs : List Value} (h : w.ownsRow base e size v n xs) (hB : Below B w w') (hl : ∀ g, v.ownBlock = some g → g < B) : w'.ownsRow base e size v n xs := by
  refine ⟨h.1, ?_⟩
  rcases h.2 with h2 | ⟨g, cap, cur, hv, hg, hh, r⟩
  · exact .inl h2
  · exact .inr ⟨g, cap, cur, hv, hg, by rw [hB.block g (hl g (by rw [hv]; rfl))]; exact hh, r⟩
set_option maxRecDepth 100000 in
set_option maxHeartbeats 4000000 in
theorem specPutItem_own (a : Option Addr) (l : List Im) (ca : Nat) (x : Im) (w : World) (hl : l.length ≤ 1048576) (hA : RdG imC 3 w a l) :
    Calls Tryd.prog 80 #[.slice a l.length ca, .agg #[.string x.k, .string x.v, .int .i64 x.n]] w fun e w' => (∃ b c, e = .returned (.slice b (putI l x).length c) ∧ w'.ownsRow w.heap.size 51 3 (.slice b (putI l x).length c) (putI l x).length (rowG imC (putI l x))) ∧ Below w.heap.size w w' := by
  have HA := hide1 hA
  have F0 := hide1 (And.intro (Blk.new w 51 #[.string x.k, .string x.v, .int .i64 x.n]) ((Below.refl w.heap.size w).alloc (Nat.le_refl _) (.cells #[.string x.k, .string x.v, .int .i64 x.n] 51)))
  clear hA
  go_enter Tryd.func80, Tryd.ntmps80
  go_upto_region 1 with fail
  generalize (w.alloc (.cells #[.string x.k, .string x.v, .int .i64 x.n] 51)) = u at F0 ⊢
  obtain ⟨X, hX⟩ : ∃ G, G = w.heap.size := ⟨_, rfl⟩
  have KX := hide1 F0.out.1
  rw [← hX] at KX ⊢
  have lX : X < u.heap.size := KX.out.lt
  have E0 := hide1 F0.out.2
  clear F0 hX
  have EL : Hid (Below u.heap.size u (u.alloc (.cells #[] 51))) := (Below.refl u.heap.size u).alloc (Nat.le_refl _) (.cells #[] 51)
  have KE := hide1 (Blk.new u 51 #[])
  go_upto_region 2 with (at_builtin; (refine wpList_copyG encIm rowIm rfl (.tmp 9) (.tmp 10) rfl u.heap.size u.heap.size rfl KE.out (Nat.le_refl _) a l.length ca l rfl rfl ((HA.out.later E0.out).later EL.out) (by omega) ?_; intro sb sc w1 ho1 hb1 hg1; have E1 : Hid (Below u.heap.size u w1) := EL.out.trans hb1; have R1 := hide1 ho1; clear ho1 hb1 hg1))
  have FG := hide1 (And.intro (Blk.new w1 51 #[]) ((Below.refl w1.heap.size w1).alloc (Nat.le_refl _) (.cells #[] 51)))
  clear EL
  go_upto_region 3 with fail
  generalize (w1.alloc (.cells #[] 51)) = w2 at FG ⊢
  obtain ⟨g, hg⟩ : ∃ g, g = w1.heap.size := ⟨_, rfl⟩
  have KG := hide1 FG.out.1
  rw [← hg] at KG ⊢
  have E2 := hide1 (E1.out.trans (FG.out.2.mono E1.out.size))
  have R2 := hide1 (own_base (own_kept R1.out FG.out.2) E0.out.size)
  have lw1 : w1.heap.size ≤ w2.heap.size := FG.out.2.size
  have lu1 : u.heap.size ≤ w1.heap.size := E1.out.size
  have O2 := hide1 (show w2.ownsRow w1.heap.size 51 3 (.slice (some ⟨g, 0, none⟩) 0 0) 0 (rowG imC ([] : List Im)) from own_none KG.out (by omega))
  have R1b := hide1 (show ∀ g, (Value.slice sb l.length sc).ownBlock = some g → g < w1.heap.size from fun g hg => (R1.out.lt g hg).2)
  clear hg KG FG E1 R1
  go_wp2
  go_loopw [7, 6] (fun iv ov wr => ∃ i : Nat, i ≤ l.length ∧ iv = .int .i64 (i : Int) ∧ ∃ (L : List Im) (ob : Option Addr) (oc : Nat), ov = .slice ob L.length oc ∧ L.length ≤ i ∧ Hid (L = (l.take i).filter (fun y => tLt y.k x.k)) ∧ Hid (oldTo l x i) ∧ Hid (wr.ownsRow w1.heap.size 51 3 (.slice ob L.length oc) L.length (rowG imC L)) ∧ Hid (Below w1.heap.size w2 wr)) (fun iv _ _ => l.length - (intOf iv).toNat)
  case atStart => exact ⟨0, Nat.zero_le _, rfl, [], _, _, rfl, Nat.le_refl _, hide1 (by simp), hide1 (fun j _ h => by omega), O2, hide1 (Below.refl _ _)⟩
  case round =>
    obtain ⟨i, hi, rfl, L, ob, oc, rfl, hLi, HL, HO, OW, BB⟩ := hrel
    have BU := hide1 (show Below u.heap.size u wr from E2.out.trans (BB.out.mono lu1))
    have BW := hide1 (E0.out.trans (BU.out.mono E0.out.size))
    have l1r : w1.heap.size ≤ wr.heap.size := Nat.le_trans lw1 BB.out.size
    have y0 : wr.cell? ⟨X, 0, none⟩ = some (.string x.k) := (BU.out.cell (p := ⟨X, 0, none⟩) lX).trans (KX.out.cell 0)
    have y1 : wr.cell? ⟨X, 1, none⟩ = some (.string x.v) := (BU.out.cell (p := ⟨X, 1, none⟩) lX).trans (KX.out.cell 1)
    have y2 : wr.cell? ⟨X, 2, none⟩ = some (.int .i64 x.n) := (BU.out.cell (p := ⟨X, 2, none⟩) lX).trans (KX.out.cell 2)
    by_cases hlt : i < l.length
    · have k1 : (i : Int) < (l.length : Int) := by omega
      obtain ⟨b, o, rfl, hb, hc⟩ := HA.out i hlt
      have X0 := hide1 (show w.cell? ⟨b, o + i * 3, none⟩ = some (.string l[i].k) from hc 0 (by omega))
      have X1 := hide1 (show w.cell? ⟨b, o + i * 3 + 1, none⟩ = some (.string l[i].v) from hc 1 (by omega))
      have X2 := hide1 (show w.cell? ⟨b, o + i * 3 + 2, none⟩ = some (.int .i64 l[i].n) from hc 2 (by omega))
      have FN := hide1 (filt_next (p := fun y => tLt y.k x.k) hlt)
      have NA := hide1 (fun h => newI_at (x := x) hlt h)
      have NX := hide1 (fun h => oldTo_next HO.out hlt h)
      generalize l[i] = s at *
      clear hc
      have x0 : wr.cell? ⟨b, o + i * 3, none⟩ = some (.string s.k) := (BW.out.cell (p := ⟨b, o + i * 3, none⟩) hb).trans X0.out
      have x1 : wr.cell? ⟨b, o + i * 3 + 1, none⟩ = some (.string s.v) := (BW.out.cell (p := ⟨b, o + i * 3 + 1, none⟩) hb).trans X1.out
      have x2 : wr.cell? ⟨b, o + i * 3 + 2, none⟩ = some (.int .i64 s.n) := (BW.out.cell (p := ⟨b, o + i * 3 + 2, none⟩) hb).trans X2.out
      cases ct : tLt s.k x.k with
      | true =>
        have qt : Op.bytesLess s.k.toList x.k.toList = true := ct
        have hne : ¬ s.k = x.k := tLt_ne ct
        have HL2 := hide1 (show L ++ [s] = (l.take (i + 1)).filter (fun y => tLt y.k x.k) by rw [FN.out, if_pos ct, HL.out])
        have NX2 := hide1 (NX.out (fun h => hne h.1))
        obtain ⟨q, q'⟩ := text_ne hne
        clear ct hne FN NA NX HL HO
        go_wp2_with fail
        go_quiet (fail)
        have D3 := hide1 (below_drewN (Below.refl wr.heap.size wr) nq)
        go_upto_region 7 with fail
        generalize wr.drewN nq = v3 at D3 ⊢
        have OW3 := hide1 (own_kept OW.out D3.out)
        have B3 := hide1 (BB.out.trans (D3.out.mono l1r))
        have BU3 := hide1 (show Below u.heap.size u v3 from E2.out.trans (B3.out.mono lu1))
        have BW3 := hide1 (E0.out.trans (BU3.out.mono E0.out.size))
        clear x0 x1 x2 y0 y1 y2
        have x0 : v3.cell? ⟨b, o + i * 3, none⟩ = some (.string s.k) := (BW3.out.cell (p := ⟨b, o + i * 3, none⟩) hb).trans X0.out
        have x1 : v3.cell? ⟨b, o + i * 3 + 1, none⟩ = some (.string s.v) := (BW3.out.cell (p := ⟨b, o + i * 3 + 1, none⟩) hb).trans X1.out
        have x2 : v3.cell? ⟨b, o + i * 3 + 2, none⟩ = some (.int .i64 s.n) := (BW3.out.cell (p := ⟨b, o + i * 3 + 2, none⟩) hb).trans X2.out
        have FL := hide1 (And.intro (Blk.new v3 51 #[.string s.k, .string s.v, .int .i64 s.n]) ((Below.refl v3.heap.size v3).alloc (Nat.le_refl _) (.cells #[.string s.k, .string s.v, .int .i64 s.n] 51)))
        have l1w : w1.heap.size ≤ v3.heap.size := Nat.le_trans lw1 B3.out.size
        go_upto_region 8 with (at_builtin; (refine wpList_appA encIm rowIm rfl (.tmp 27) (.tmp 32) rfl w1.heap.size _ L.length L rfl (own_kept OW3.out FL.out.2) (some ⟨v3.heap.size, 0, none⟩) 1 1 [s] rfl rfl (rd_one encIm FL.out.1) (by omega) (by have := FL.out.2.size; omega) ?_; intro b4 c4 w4 ho4 hg4 hp4; have OW4 := hide1 ho4; have G4 : Hid (Below w1.heap.size v3 w4) := (FL.out.2.mono l1w).trans (gbelow hg4 (fun q hq => (OW3.out.lt q hq).1) (by have := FL.out.2.size; omega)); clear ho4 hg4 hp4))
        have B4 := hide1 (B3.out.trans G4.out)
        have BU4 := hide1 (show Below u.heap.size u w4 from E2.out.trans (B4.out.mono lu1))
        have BW4 := hide1 (E0.out.trans (BU4.out.mono E0.out.size))
        clear x0 x1 x2
        have x0 : w4.cell? ⟨b, o + i * 3, none⟩ = some (.string s.k) := (BW4.out.cell (p := ⟨b, o + i * 3, none⟩) hb).trans X0.out
        have x1 : w4.cell? ⟨b, o + i * 3 + 1, none⟩ = some (.string s.v) := (BW4.out.cell (p := ⟨b, o + i * 3 + 1, none⟩) hb).trans X1.out
        have x2 : w4.cell? ⟨b, o + i * 3 + 2, none⟩ = some (.int .i64 s.n) := (BW4.out.cell (p := ⟨b, o + i * 3 + 2, none⟩) hb).trans X2.out
        have y0 : w4.cell? ⟨X, 0, none⟩ = some (.string x.k) := (BU4.out.cell (p := ⟨X, 0, none⟩) lX).trans (KX.out.cell 0)
        have y1 : w4.cell? ⟨X, 1, none⟩ = some (.string x.v) := (BU4.out.cell (p := ⟨X, 1, none⟩) lX).trans (KX.out.cell 1)
        have y2 : w4.cell? ⟨X, 2, none⟩ = some (.int .i64 x.n) := (BU4.out.cell (p := ⟨X, 2, none⟩) lX).trans (KX.out.cell 2)
        go_quiet (fail)
        go_wp2
        go_roundw
        case rel =>
          have e1 : (L ++ [s]).length = L.length + 1 := by simp
          refine ⟨i + 1, by omega, by go_num, L ++ [s], b4, c4, by rw [e1], by rw [e1]; omega, HL2, NX2, ?_, hide1 (below_drewN B4.out _)⟩
          rw [e1]
          exact hide1 (own_kept OW4.out (below_drewN (Below.refl w4.heap.size w4) _))
        case measure => simp [intOf]; omega
      | false =>
        have qt : Op.bytesLess s.k.toList x.k.toList = false := ct
        have HL2 := hide1 (show L = (l.take (i + 1)).filter (fun y => tLt y.k x.k) by rw [FN.out, if_neg (by rw [ct]; simp), List.append_nil, HL.out])
        clear ct FN HL HO
        go_wp2_with fail
        go_quiet (fail)
        have D3 := hide1 (below_drewN (Below.refl wr.heap.size wr) nq)
        go_upto_region 8 with fail
        generalize wr.drewN nq = v3 at D3 ⊢
        have OW3 := hide1 (own_kept OW.out D3.out)
        have B3 := hide1 (BB.out.trans (D3.out.mono l1r))
        have BU3 := hide1 (show Below u.heap.size u v3 from E2.out.trans (B3.out.mono lu1))
        have BW3 := hide1 (E0.out.trans (BU3.out.mono E0.out.size))
        clear x0 x1 x2 y0 y1 y2
        have x0 : v3.cell? ⟨b, o + i * 3, none⟩ = some (.string s.k) := (BW3.out.cell (p := ⟨b, o + i * 3, none⟩) hb).trans X0.out
        have x1 : v3.cell? ⟨b, o + i * 3 + 1, none⟩ = some (.string s.v) := (BW3.out.cell (p := ⟨b, o + i * 3 + 1, none⟩) hb).trans X1.out
        have x2 : v3.cell? ⟨b, o + i * 3 + 2, none⟩ = some (.int .i64 s.n) := (BW3.out.cell (p := ⟨b, o + i * 3 + 2, none⟩) hb).trans X2.out
        have y0 : v3.cell? ⟨X, 0, none⟩ = some (.string x.k) := (BU3.out.cell (p := ⟨X, 0, none⟩) lX).trans (KX.out.cell 0)
        have y1 : v3.cell? ⟨X, 1, none⟩ = some (.string x.v) := (BU3.out.cell (p := ⟨X, 1, none⟩) lX).trans (KX.out.cell 1)
        have y2 : v3.cell? ⟨X, 2, none⟩ = some (.int .i64 x.n) := (BU3.out.cell (p := ⟨X, 2, none⟩) lX).trans (KX.out.cell 2)
        by_cases ce : s.k = x.k
        · by_cases cn : x.n ≤ s.n
          · have RES := hide1 (put_new (NA.out ⟨ce, cn⟩))
            obtain ⟨q, q'⟩ := text_eq ce
            have qn : decide (x.n ≤ s.n) = true := decide_eq_true cn
            clear NA NX ce
            go_quiet (fail)
            go_wp2
            go_ret
            exact ⟨⟨sb, sc, by rw [RES.out]; rfl, by rw [RES.out]; exact own_lower R2.out (below_drewN B3.out _) R1b.out⟩, below_drewN BW3.out _⟩
          · have NX2 := hide1 (NX.out (fun h => cn h.2))
            obtain ⟨q, q'⟩ := text_eq ce
            have qn : decide (x.n ≤ s.n) = false := decide_eq_false cn
            clear NA NX ce
            go_quiet (fail)
            go_wp2
            go_roundw
            case rel => exact ⟨i + 1, by omega, by go_num, L, ob, oc, rfl, by omega, HL2, NX2, hide1 (own_kept OW3.out (below_drewN (Below.refl v3.heap.size v3) _)), hide1 (below_drewN B3.out _)⟩
            case measure => simp [intOf]; omega
        · have NX2 := hide1 (NX.out (fun h => ce h.1))
          obtain ⟨q, q'⟩ := text_ne ce
          clear NA NX ce
          go_quiet (fail)
          go_wp2
          go_roundw
          case rel => exact ⟨i + 1, by omega, by go_num, L, ob, oc, rfl, by omega, HL2, NX2, hide1 (own_kept OW3.out (below_drewN (Below.refl v3.heap.size v3) _)), hide1 (below_drewN B3.out _)⟩
          case measure => simp [intOf]; omega
    · obtain rfl : i = l.length := by omega
      have k1 : ¬ ((l.length : Int) < (l.length : Int)) := by omega
      have HN := hide1 (oldTo_all HO.out)
      have HL2 := hide1 (show L = l.filter (fun y => tLt y.k x.k) by rw [HL.out, List.take_length])
      clear HL HO
      go_upto_region 10 with fail
      have FL := hide1 (And.intro (Blk.new wr 51 #[.string x.k, .string x.v, .int .i64 x.n]) ((Below.refl wr.heap.size wr).alloc (Nat.le_refl _) (.cells #[.string x.k, .string x.v, .int .i64 x.n] 51)))
      have l1w : w1.heap.size ≤ wr.heap.size := Nat.le_trans lw1 BB.out.size
      go_upto_region 11 with (at_builtin; (refine wpList_appA encIm rowIm rfl (.tmp 53) (.tmp 55) rfl w1.heap.size _ L.length L rfl (own_kept OW.out FL.out.2) (some ⟨wr.heap.size, 0, none⟩) 1 1 [x] rfl rfl (rd_one encIm FL.out.1) (by omega) (by have := FL.out.2.size; omega) ?_; intro b4 c4 w4 ho4 hg4 hp4; have OW4 := hide1 ho4; have G4 : Hid (Below w1.heap.size wr w4) := (FL.out.2.mono l1w).trans (gbelow hg4 (fun q hq => (OW.out.lt q hq).1) (by have := FL.out.2.size; omega)); clear ho4 hg4 hp4))
      have B4 := hide1 (BB.out.trans G4.out)
      clear y0 y1 y2
      go_wp2
      go_loopw [8, 6] (fun iv ov wr => ∃ i : Nat, i ≤ l.length ∧ iv = .int .i64 (i : Int) ∧ ∃ (T : List Im) (ob : Option Addr) (oc : Nat), ov = .slice ob T.length oc ∧ T.length ≤ L.length + 1 + i ∧ Hid (T = L ++ x :: (l.take i).filter (fun y => tLt x.k y.k)) ∧ Hid (wr.ownsRow w1.heap.size 51 3 (.slice ob T.length oc) T.length (rowG imC T)) ∧ Hid (Below w1.heap.size w2 wr)) (fun iv _ _ => l.length - (intOf iv).toNat)
      case atStart =>
        have e1 : (L ++ [x]).length = L.length + 1 := by simp
        refine ⟨0, Nat.zero_le _, rfl, L ++ [x], b4, c4, by rw [e1], by rw [e1]; omega, hide1 (by simp), ?_, B4⟩
        rw [e1]
        exact OW4
      case round =>
        clear OW BB BU BW
        obtain ⟨i, hi, rfl, T, ob, oc, rfl, hTi, HT, OW, BB⟩ := hrel
        have BU := hide1 (show Below u.heap.size u wr from E2.out.trans (BB.out.mono lu1))
        have BW := hide1 (E0.out.trans (BU.out.mono E0.out.size))
        have l1r : w1.heap.size ≤ wr.heap.size := Nat.le_trans lw1 BB.out.size
        by_cases hlt : i < l.length
        · have k1 : (i : Int) < (l.length : Int) := by omega
          obtain ⟨b, o, rfl, hb, hc⟩ := HA.out i hlt
          have X0 := hide1 (show w.cell? ⟨b, o + i * 3, none⟩ = some (.string l[i].k) from hc 0 (by omega))
          have X1 := hide1 (show w.cell? ⟨b, o + i * 3 + 1, none⟩ = some (.string l[i].v) from hc 1 (by omega))
          have X2 := hide1 (show w.cell? ⟨b, o + i * 3 + 2, none⟩ = some (.int .i64 l[i].n) from hc 2 (by omega))
          have FN := hide1 (filt_next (p := fun y => tLt x.k y.k) hlt)
          generalize l[i] = s at *
          clear hc
          have x0 : wr.cell? ⟨b, o + i * 3, none⟩ = some (.string s.k) := (BW.out.cell (p := ⟨b, o + i * 3, none⟩) hb).trans X0.out
          have x1 : wr.cell? ⟨b, o + i * 3 + 1, none⟩ = some (.string s.v) := (BW.out.cell (p := ⟨b, o + i * 3 + 1, none⟩) hb).trans X1.out
          have x2 : wr.cell? ⟨b, o + i * 3 + 2, none⟩ = some (.int .i64 s.n) := (BW.out.cell (p := ⟨b, o + i * 3 + 2, none⟩) hb).trans X2.out
          have y0 : wr.cell? ⟨X, 0, none⟩ = some (.string x.k) := (BU.out.cell (p := ⟨X, 0, none⟩) lX).trans (KX.out.cell 0)
          have y1 : wr.cell? ⟨X, 1, none⟩ = some (.string x.v) := (BU.out.cell (p := ⟨X, 1, none⟩) lX).trans (KX.out.cell 1)
          have y2 : wr.cell? ⟨X, 2, none⟩ = some (.int .i64 x.n) := (BU.out.cell (p := ⟨X, 2, none⟩) lX).trans (KX.out.cell 2)
          cases ct : tLt x.k s.k with
          | true =>
            have qt : Op.bytesLess s.k.toList x.k.toList = false := tLt_asym ct
            obtain ⟨q, q'⟩ := text_ne (tLt_ne ct).symm
            have HT2 := hide1 (show T ++ [s] = L ++ x :: (l.take (i + 1)).filter (fun y => tLt x.k y.k) by rw [FN.out, if_pos ct, HT.out]; simp)
            clear ct FN HT
            go_wp2_with fail
            go_quiet (fail)
            have D5 := hide1 (below_drewN (Below.refl wr.heap.size wr) nq)
            go_upto_region 15 with fail
            generalize wr.drewN nq = v5 at D5 ⊢
            have OW5 := hide1 (own_kept OW.out D5.out)
            have B5 := hide1 (BB.out.trans (D5.out.mono l1r))
            have BU5 := hide1 (show Below u.heap.size u v5 from E2.out.trans (B5.out.mono lu1))
            have BW5 := hide1 (E0.out.trans (BU5.out.mono E0.out.size))
            clear x0 x1 x2 y0 y1 y2
            have x0 : v5.cell? ⟨b, o + i * 3, none⟩ = some (.string s.k) := (BW5.out.cell (p := ⟨b, o + i * 3, none⟩) hb).trans X0.out
            have x1 : v5.cell? ⟨b, o + i * 3 + 1, none⟩ = some (.string s.v) := (BW5.out.cell (p := ⟨b, o + i * 3 + 1, none⟩) hb).trans X1.out
            have x2 : v5.cell? ⟨b, o + i * 3 + 2, none⟩ = some (.int .i64 s.n) := (BW5.out.cell (p := ⟨b, o + i * 3 + 2, none⟩) hb).trans X2.out
            have FL := hide1 (And.intro (Blk.new v5 51 #[.string s.k, .string s.v, .int .i64 s.n]) ((Below.refl v5.heap.size v5).alloc (Nat.le_refl _) (.cells #[.string s.k, .string s.v, .int .i64 s.n] 51)))
            have l1w : w1.heap.size ≤ v5.heap.size := Nat.le_trans lw1 B5.out.size
            go_wp2_with (at_builtin; (refine wpList_appA encIm rowIm rfl (.tmp 71) (.tmp 76) rfl w1.heap.size _ T.length T rfl (own_kept OW5.out FL.out.2) (some ⟨v5.heap.size, 0, none⟩) 1 1 [s] rfl rfl (rd_one encIm FL.out.1) (by omega) (by have := FL.out.2.size; omega) ?_; intro b6 c6 w6 ho6 hg6 hp6; have OW6 := hide1 ho6; have G6 : Hid (Below w1.heap.size v5 w6) := (FL.out.2.mono l1w).trans (gbelow hg6 (fun q hq => (OW5.out.lt q hq).1) (by have := FL.out.2.size; omega)); clear ho6 hg6 hp6))
            have B6 := hide1 (B5.out.trans G6.out)
            go_roundw
            case rel =>
              have e1 : (T ++ [s]).length = T.length + 1 := by simp
              refine ⟨i + 1, by omega, by go_num, T ++ [s], b6, c6, by rw [e1], by rw [e1]; omega, HT2, ?_, B6⟩
              rw [e1]
              exact OW6
            case measure => simp [intOf]; omega
          | false =>
            have HT2 := hide1 (show T = L ++ x :: (l.take (i + 1)).filter (fun y => tLt x.k y.k) by rw [FN.out, if_neg (by rw [ct]; simp), List.append_nil, HT.out])
            cases ct2 : tLt s.k x.k with
            | true =>
                have qt : Op.bytesLess s.k.toList x.k.toList = true := ct2
                clear ct ct2 FN HT
                go_wp2_with fail
                go_quiet (fail)
                go_wp2
                go_roundw
                case rel => exact ⟨i + 1, by omega, by go_num, T, ob, oc, rfl, by omega, HT2, hide1 (own_kept OW.out (below_drewN (Below.refl wr.heap.size wr) _)), hide1 (below_drewN BB.out _)⟩
                case measure => simp [intOf]; omega
            | false =>
                have qt : Op.bytesLess s.k.toList x.k.toList = false := ct2
                obtain ⟨q, q'⟩ := text_eq (tLt_tri ct2 ct)
                clear ct ct2 FN HT
                go_wp2_with fail
                go_quiet (fail)
                go_wp2
                go_roundw
                case rel => exact ⟨i + 1, by omega, by go_num, T, ob, oc, rfl, by omega, HT2, hide1 (own_kept OW.out (below_drewN (Below.refl wr.heap.size wr) _)), hide1 (below_drewN BB.out _)⟩
                case measure => simp [intOf]; omega
        · obtain rfl : i = l.length := by omega
          have k1 : ¬ ((l.length : Int) < (l.length : Int)) := by omega
          have HT2 := hide1 (show T = insI l x by rw [HT.out, HL2.out, List.take_length]; rfl)
          have C1 := hide1 (specItemsOk_any a l ca wr (by omega) (HA.out.later BW.out))
          have C2 := hide1 (fun w' (hb : Below wr.heap.size wr w') => specItemsOk_any ob T oc w' (by omega) ((rdG_of_own encIm.len OW.out rfl).later hb))
          have SM := hide1 (own_lower R2.out BB.out R1b.out)
          have OT := hide1 (rdG_of_own encIm.len OW.out rfl)
          clear HT HL2
          by_cases c1 : okIms l
          · rw [decide_eq_true c1] at C1
            by_cases c2 : okIms T
            · rw [decide_eq_true c2] at C2
              have RES := hide1 (show putI l x = T by rw [HT2.out]; exact put_ok HN.out ⟨c1, by rw [← HT2.out]; exact c2⟩)
              go_wp2_with (first | (have := Q1.out; go_at_call 30; refine (C2.out _ Q1.out).mono ?_; rintro e w8 ⟨rfl, hb8⟩; have Q2 := hide1 (Q1.out.trans (hb8.mono Q1.out.size)); clear hb8) | (go_at_call 30; refine C1.out.mono ?_; rintro e w7 ⟨rfl, hb7⟩; have Q1 := hide1 hb7; clear hb7))
              go_ret
              exact ⟨⟨ob, oc, by rw [RES.out]; rfl, by rw [RES.out]; exact own_base (own_kept OW.out Q2.out) (Nat.le_trans E0.out.size lu1)⟩, BW.out.trans (Q2.out.mono BW.out.size)⟩
            · rw [decide_eq_false c2] at C2
              have RES := hide1 (show putI l x = l from put_bad (fun h => c2 (by rw [HT2.out]; exact h.2)))
              go_wp2_with (first | (have := Q1.out; go_at_call 30; refine (C2.out _ Q1.out).mono ?_; rintro e w8 ⟨rfl, hb8⟩; have Q2 := hide1 (Q1.out.trans (hb8.mono Q1.out.size)); clear hb8) | (go_at_call 30; refine C1.out.mono ?_; rintro e w7 ⟨rfl, hb7⟩; have Q1 := hide1 hb7; clear hb7))
              go_ret
              exact ⟨⟨sb, sc, by rw [RES.out]; rfl, by rw [RES.out]; exact own_kept SM.out Q2.out⟩, BW.out.trans (Q2.out.mono BW.out.size)⟩
          · rw [decide_eq_false c1] at C1
            have RES := hide1 (show putI l x = l from put_bad (fun h => c1 h.1))
            go_wp2_with (go_at_call 30; refine C1.out.mono ?_; rintro e w7 ⟨rfl, hb7⟩; have Q1 := hide1 hb7; clear hb7)
            go_ret
            exact ⟨⟨sb, sc, by rw [RES.out]; rfl, by rw [RES.out]; exact own_kept SM.out Q1.out⟩, BW.out.trans (Q1.out.mono BW.out.size)⟩
end Go.Proofs.YtbkhhkknhbddeaaDoor
namespace Go.Proofs.YtbkhhkknhbddeaaDoor
open Go.RowKit
set_option linter.unusedVariables false

theorem codeI {B B' : Nat} {w : World} {a : Option Addr} {len : Nat} (h : Code B w a len) (hB : B ≤ B') : Code B' w a len :=
  ⟨h.le, fun j hj => by obtain ⟨b, o, v, h1, h2, h3, h4⟩ := h.cells j hj; exact ⟨b, o, v, h1, by omega, h3, h4⟩⟩
theorem resI2 {P : Program} {fn : Func} {p u : Tmp} {ty : TypeId} (h : fn.results = #[.tmp u, .cell p ty]) (tmps : Array Value) (w : World) (g : Nat) (t : TypeId) (cs : Array Value) (fr : Nat × Nat) (d : TypeDesc)
    (hp : tmps.getD p undef = .pointer (some ⟨g, 0, none⟩)) (hg : w.heap[g]? = some (.cells cs t fr))
    (hu : P.underlying ty = some d) (hd : (match d with | .struct _ | .array _ _ => true | _ => false) = true) (hi : (P.info? ty).map (·.size) = some cs.size) :
    (results fn tmps).run P w = .ok (.tuple #[tmps.getD u undef, .agg cs]) w := by
  have hp' : tmps[p]?.getD undef = .pointer (some ⟨g, 0, none⟩) := by simpa using hp
  simp [results, h, hp', asAddr, run_loadVar_row w g t ty cs fr d hg hu hd hi]
set_option maxRecDepth 100000 in
set_option maxHeartbeats 1000000 in
theorem itemD_any {B : Nat} {w : World} {a : Option Addr} {len cap g : Nat} (h : Drw B w a len cap g) :
    Calls Tryd.prog 69 #[.pointer (some ⟨g, 0, none⟩)] w fun r w' => ∃ x : Im, r = .returned (.agg #[.string x.k, .string x.v, .int .i64 x.n]) ∧ okIm x ∧ Drw B w' a len cap g ∧ w.grownBy w' (some g) := by
  have hglt := h.lt
  have F0 := hide1 (And.intro (Blk.new w 51 #[.string ⟨#[]⟩, .string ⟨#[]⟩, .int .i64 0]) ((Below.refl w.heap.size w).alloc (Nat.le_refl _) (.cells #[.string ⟨#[]⟩, .string ⟨#[]⟩, .int .i64 0] 51)))
  have D0 := hide1 (h.later F0.out.2)
  clear h
  go_enter Tryd.func69, Tryd.ntmps69
  go_wp2_with fail
  generalize (w.alloc (.cells #[.string ⟨#[]⟩, .string ⟨#[]⟩, .int .i64 0] 51)) = u at F0 D0 ⊢
  obtain ⟨RB, hRB⟩ : ∃ G, G = w.heap.size := ⟨_, rfl⟩
  have KR := hide1 F0.out.1
  rw [← hRB] at KR ⊢
  have hRg : RB ≠ g := by omega
  have hRw : w.heap.size ≤ RB := by omega
  refine (key_any D0.out).mono ?_
  rintro e w1 ⟨ky, rfl, hk1, hk2, d1, g1⟩
  have D1 := hide1 d1
  have G1 := hide1 (show w.grownBy w1 (some g) from gtrans (gnew F0.out.2) g1)
  have K1 := hide1 (gblk g1 KR.out (by intro e; injection e; omega))
  have HK := hide1 (And.intro hk1 hk2)
  clear d1 g1 D0 KR F0 hk1 hk2 hRB
  go_wp2_with fail
  refine (val_any D1.out).mono ?_
  rintro e w2 ⟨vy, rfl, hv1, d2, g2⟩
  have D2 := hide1 d2
  have G2 := hide1 (gtrans G1.out g2)
  have K2 := hide1 (gblk g2 K1.out (by intro e; injection e; omega))
  have HV := hide1 hv1
  clear d2 g2 D1 G1 K1 hv1
  go_wp2_with fail
  refine (below_any D2.out 30 (by omega)).mono ?_
  rintro e w3 ⟨z, rfl, hz, _, d3, g3⟩
  have hz2 : z < 30 := by have := hz (by omega); omega
  have D3 := hide1 d3
  have G3 := hide1 (gtrans G2.out g3)
  have K3 := hide1 (gblk g3 K2.out (by intro e; injection e; omega))
  clear d3 g3 D2 G2 K2 hz
  have r0 : w3.cell? ⟨RB, 0, none⟩ = some (.string ⟨#[]⟩) := K3.out.cell 0
  have r1 : w3.cell? ⟨RB, 1, none⟩ = some (.string ⟨#[]⟩) := K3.out.cell 1
  have r2 : w3.cell? ⟨RB, 2, none⟩ = some (.int .i64 0) := K3.out.cell 2
  have rf : ∀ j, w3.frozen? ⟨RB, j, none⟩ = false := fun j => K3.out.froz j
  have lRw : RB < w3.heap.size := K3.out.lt
  go_wp2
  refine bodyPost_ret (results_cell_row Tryd.results69 _ _ RB 51 #[.string ky, .string vy, .int .i64 (1001 + (z : Int))] (0, 0) _ rfl (Blk.set (Blk.set (Blk.set K3.out 0 _) 1 _) 2 _) Tryd.underlying51 rfl (by kernel_rfl)) rfl ?_
  have hg9 : ∀ (p q r : Value), w3.grownBy (((w3.setCell ⟨RB, 0, none⟩ p).setCell ⟨RB, 1, none⟩ q).setCell ⟨RB, 2, none⟩ r) (some RB) := fun p q r => gset (gset (gset (World.grownBy.refl _ _) 0 p) 1 q) 2 r
  have hb9 : ∀ (p q r : Value), Below w.heap.size w3 (((w3.setCell ⟨RB, 0, none⟩ p).setCell ⟨RB, 1, none⟩ q).setCell ⟨RB, 2, none⟩ r) := fun p q r => gbelow (hg9 p q r) (fun k hk => by injection hk with hk; omega) (by omega)
  refine ⟨⟨ky, vy, 1001 + (z : Int)⟩, rfl, ⟨HK.out, HV.out, by show (1 : Int) ≤ 1001 + (z : Int); omega, by show 1001 + (z : Int) ≤ 1000000000; omega⟩, D3.out.keep (hb9 _ _ _) (by have := D3.out.cur.1; omega) (by omega), ?_⟩
  have g1 := G3.out
  exact ⟨(hb9 _ _ _).os.trans g1.os, (hb9 _ _ _).tape.trans g1.tape, (hb9 _ _ _).output.trans g1.output, Nat.le_trans g1.size (hb9 _ _ _).size, fun k hk hne => ((hb9 _ _ _).block k (by omega)).trans (g1.block k hk hne)⟩
theorem RdG.moveI {α : Type} {enc : α → List Value} {k : Nat} {w w' : World} {a : Option Addr} {l : List α} {r : Option Nat} (h : RdG enc k w a l) (hb : w.grownBy w' r) (hn : ∀ b o, a = some ⟨b, o, none⟩ → 0 < l.length → r ≠ some b) : RdG enc k w' a l := by
  intro i hi
  obtain ⟨b, o, ha, hg, hc⟩ := h i hi
  refine ⟨b, o, ha, Nat.lt_of_lt_of_le hg hb.size, fun j hj => ?_⟩
  rw [← hc j hj]
  exact World.cell?_of_block (hb.block b hg (fun e => hn b o ha (by omega) e.symm))
theorem putI_len (l : List Im) (x : Im) : (putI l x).length ≤ l.length + 1 := by
  unfold putI
  split
  · omega
  · split
    · exact ins_len
    · omega
/-- A row that lies from here on. -/
def From (m : Nat) (a : Option Addr) (n : Nat) : Prop := ∀ q o, a = some ⟨q, o, none⟩ → 0 < n → m ≤ q
set_option maxRecDepth 100000 in
set_option maxHeartbeats 1000000 in
theorem itemsD_any {B : Nat} {w : World} {a : Option Addr} {len cap g : Nat} (h : Drw B w a len cap g) :
    Calls Tryd.prog 68 #[.pointer (some ⟨g, 0, none⟩)] w fun r w' => ∃ (l : List Im) (b : Option Addr) (c : Nat), r = .returned (.slice b l.length c) ∧ okIms l ∧ l.length ≤ 5 ∧ RdG imC 3 w' b l ∧ From w.heap.size b l.length ∧ Drw B w' a len cap g ∧ w.grownBy w' (some g) := by
  have hglt := h.lt
  have hcur := h.cur.1
  have FL := hide1 ((Below.refl w.heap.size w).alloc (Nat.le_refl _) (.cells #[] 51))
  have D0 := hide1 (h.later FL.out)
  clear h
  go_enter Tryd.func68, Tryd.ntmps68
  go_upto_region 2 with fail
  generalize (w.alloc (.cells #[] 51)) = u at FL D0 ⊢
  have lwu : w.heap.size ≤ u.heap.size := FL.out.size
  go_wp2
  go_loopw [4, 3] (fun iv ov wr => ∃ i : Nat, i ≤ 5 ∧ iv = .int .i64 (i : Int) ∧ ∃ (l : List Im) (b : Option Addr) (c : Nat), ov = .slice b l.length c ∧ Hid (okIms l) ∧ l.length ≤ i ∧ Hid (RdG imC 3 wr b l) ∧ Hid (From w.heap.size b l.length) ∧ Hid (Drw B wr a len cap g) ∧ Hid (w.grownBy wr (some g))) (fun iv _ _ => 6 - (intOf iv).toNat)
  case atStart => exact ⟨0, by omega, rfl, [], _, _, rfl, hide1 ⟨by simp, by unfold ascI; simp, by simp⟩, Nat.le_refl _, hide1 (RdG.nil _ _), hide1 (fun q o e h => by simp at h), D0, hide1 (gnew FL.out)⟩
  case round =>
    obtain ⟨i, hi, rfl, l, b, c, rfl, HO, hli, HR, HF, DD, GG⟩ := hrel
    go_wp2_with fail
    refine (below_any DD.out 6 (by omega)).mono ?_
    rintro e w1 ⟨z, rfl, hz, _, d1, g1⟩
    have hz2 : z < 6 := by have := hz (by omega); omega
    have D1 := hide1 d1
    have G1 := hide1 (gtrans GG.out g1)
    have R1 := hide1 (HR.out.moveI g1 (fun q o e hn x => by injection x with x; have := HF.out q o e hn; omega))
    clear d1 g1 DD GG HR hz
    by_cases hlt : i < z
    · have k1 : (i : Int) < (z : Int) := by omega
      go_wp2_with fail
      refine (itemD_any D1.out).mono ?_
      rintro e w2 ⟨x, rfl, hx, d2, g2⟩
      have D2 := hide1 d2
      have G2 := hide1 (gtrans G1.out g2)
      have R2 := hide1 (R1.out.moveI g2 (fun q o e hn x => by injection x with x; have := HF.out q o e hn; omega))
      have PR := hide1 (put_right HO.out hx (by omega))
      have CP := hide1 (specPutItem_any b l c x w2 (by omega) R2.out)
      have PL := hide1 (putI_len l x)
      clear d2 g2 D1 G1 R1 hx
      generalize putI l x = l' at *
      go_wp2_with fail
      refine CP.out.mono ?_
      rintro e w3 ⟨⟨b3, c3, rfl, hr3, hn3⟩, hb3⟩
      have R3 := hide1 hr3
      have N3 := hide1 (show From w.heap.size b3 l'.length from fun q o e h => Nat.le_trans G2.out.size (hn3 q o e h))
      have D3 := hide1 (D2.out.later hb3)
      have G3 := hide1 (gtrans G2.out (gnew hb3))
      clear hr3 hn3 hb3 CP
      go_wp2
      go_roundw
      case rel => exact ⟨i + 1, by omega, by go_num, l', b3, c3, rfl, hide1 PR.out.1, by have := PL.out; omega, R3, N3, D3, G3⟩
      case measure => simp [intOf]; omega
    · have k1 : ¬ ((i : Int) < (z : Int)) := by omega
      go_wp2
      go_ret
      exact ⟨l, b, c, rfl, HO.out, by omega, R1.out, HF.out, D1.out, G1.out⟩
end Go.Proofs.YtbkhhkknhbddeaaDoor
namespace Go.Proofs.YtbkhhkknhbddeaaDoor
open Go.RowKit
set_option linter.unusedVariables false

set_option maxRecDepth 100000 in
set_option maxHeartbeats 1000000 in
theorem itemsD_own {B : Nat} {w : World} {a : Option Addr} {len cap g : Nat} (h : Drw B w a len cap g) :
    Calls Tryd.prog 68 #[.pointer (some ⟨g, 0, none⟩)] w fun r w' => ∃ (l : List Im) (b : Option Addr) (c : Nat), r = .returned (.slice b l.length c) ∧ okIms l ∧ l.length ≤ 5 ∧ w'.ownsRow w.heap.size 51 3 (.slice b l.length c) l.length (rowG imC l) ∧ Drw B w' a len cap g ∧ w.grownBy w' (some g) := by
  have hglt := h.lt
  have hcur := h.cur.1
  have FL := hide1 ((Below.refl w.heap.size w).alloc (Nat.le_refl _) (.cells #[] 51))
  have D0 := hide1 (h.later FL.out)
  have KE := hide1 (Blk.new w 51 #[])
  clear h
  go_enter Tryd.func68, Tryd.ntmps68
  go_upto_region 2 with fail
  generalize (w.alloc (.cells #[] 51)) = u at FL D0 KE ⊢
  have lwu : w.heap.size ≤ u.heap.size := FL.out.size
  go_wp2
  go_loopw [4, 3] (fun iv ov wr => ∃ i : Nat, i ≤ 5 ∧ iv = .int .i64 (i : Int) ∧ ∃ (l : List Im) (b : Option Addr) (c : Nat), ov = .slice b l.length c ∧ Hid (okIms l) ∧ l.length ≤ i ∧ Hid (wr.ownsRow w.heap.size 51 3 (.slice b l.length c) l.length (rowG imC l)) ∧ Hid (Drw B wr a len cap g) ∧ Hid (w.grownBy wr (some g))) (fun iv _ _ => 6 - (intOf iv).toNat)
  case atStart => exact ⟨0, by omega, rfl, [], _, _, rfl, hide1 ⟨by simp, by unfold ascI; simp, by simp⟩, Nat.le_refl _, hide1 (own_none KE.out (Nat.le_refl _)), D0, hide1 (gnew FL.out)⟩
  case round =>
    obtain ⟨i, hi, rfl, l, b, c, rfl, HO, hli, HR, DD, GG⟩ := hrel
    go_wp2_with fail
    refine (below_any DD.out 6 (by omega)).mono ?_
    rintro e w1 ⟨z, rfl, hz, _, d1, g1⟩
    have hz2 : z < 6 := by have := hz (by omega); omega
    have D1 := hide1 d1
    have G1 := hide1 (gtrans GG.out g1)
    have R1 := hide1 (gown g1 HR.out (fun k hk x => by injection x with x; have := (HR.out.lt k hk).1; omega))
    clear d1 g1 DD GG HR hz
    by_cases hlt : i < z
    · have k1 : (i : Int) < (z : Int) := by omega
      go_wp2_with fail
      refine (itemD_any D1.out).mono ?_
      rintro e w2 ⟨x, rfl, hx, d2, g2⟩
      have D2 := hide1 d2
      have G2 := hide1 (gtrans G1.out g2)
      have R2 := hide1 (gown g2 R1.out (fun k hk x => by injection x with x; have := (R1.out.lt k hk).1; omega))
      have PR := hide1 (put_right HO.out hx (by omega))
      have CP := hide1 (specPutItem_own b l c x w2 (by omega) (rdG_of_own encIm.len R2.out rfl))
      have PL := hide1 (putI_len l x)
      clear d2 g2 D1 G1 R1 hx
      generalize putI l x = l' at *
      go_wp2_with fail
      refine CP.out.mono ?_
      rintro e w3 ⟨⟨b3, c3, rfl, ho3⟩, hb3⟩
      have R3 := hide1 (own_base ho3 G2.out.size)
      have D3 := hide1 (D2.out.later hb3)
      have G3 := hide1 (gtrans G2.out (gnew hb3))
      clear ho3 hb3 CP
      go_wp2
      go_roundw
      case rel => exact ⟨i + 1, by omega, by go_num, l', b3, c3, rfl, hide1 PR.out.1, by have := PL.out; omega, R3, D3, G3⟩
      case measure => simp [intOf]; omega
    · have k1 : ¬ ((i : Int) < (z : Int)) := by omega
      go_wp2
      go_ret
      exact ⟨l, b, c, rfl, HO.out, by omega, R1.out, D1.out, G1.out⟩
/-- Texts that a drawn item may have. -/
def SzI (l : List Im) : Prop := ∀ x ∈ l, x.k.size ≤ 100 ∧ x.v.size ≤ 100
theorem SzI.ok {l : List Im} (h : okIms l) : SzI l := fun x hx => by
  have := h.1 x hx
  exact ⟨by have := this.1.2; omega, by have := this.2.1; omega⟩
set_option maxRecDepth 100000 in
set_option maxHeartbeats 1000000 in
theorem pickT_any {B : Nat} {w : World} {a : Option Addr} {len cap g : Nat} (h : Drw B w a len cap g) (lg : Nat) (s0 s1 : ByteArray) (hc0 : w.cell? ⟨lg, 0, none⟩ = some (.string s0)) (hc1 : w.cell? ⟨lg, 1, none⟩ = some (.string s1)) (hne : lg ≠ g) :
    Calls Tryd.prog 70 #[.pointer (some ⟨g, 0, none⟩), .slice (some ⟨lg, 0, none⟩) 2 2] w fun e w' => ∃ s, e = .returned (.string s) ∧ (s = s0 ∨ s = s1) ∧ Drw B w' a len cap g ∧ w.grownBy w' (some g) := by
  have CB := hide1 (below_any h 2 (by omega))
  have l0 : lg < w.heap.size := World.block_lt_of_cell? w _ hc0
  have HC := hide1 (fun w' (hg : w.grownBy w' (some g)) => (show w'.cell? ⟨lg, 0, none⟩ = some (.string s0) ∧ w'.cell? ⟨lg, 1, none⟩ = some (.string s1) from by
    have hb := hg.block lg l0 (fun e => hne (by injection e))
    constructor
    · rw [← hc0]; unfold World.cell?; simp only [hb]
    · rw [← hc1]; unfold World.cell?; simp only [hb]))
  clear h hc0 hc1
  go_enter Tryd.func70, Tryd.ntmps70
  go_wp2_with fail
  refine CB.out.mono ?_
  rintro e w1 ⟨z, rfl, hz, _, d1, g1⟩
  have hz2 : z < 2 := by have := hz (by omega); omega
  obtain ⟨x0, x1⟩ := HC.out w1 g1
  have D1 := hide1 d1
  have G1 := hide1 g1
  clear hz d1 g1
  by_cases c : z = 0
  · subst c
    go_wp2
    go_ret
    exact ⟨s0, rfl, .inl rfl, D1.out, G1.out⟩
  · obtain rfl : z = 1 := by omega
    go_wp2
    go_ret
    exact ⟨s1, rfl, .inr rfl, D1.out, G1.out⟩
end Go.Proofs.YtbkhhkknhbddeaaDoor
namespace Go.Proofs.YtbkhhkknhbddeaaDoor
open Go.RowKit
set_option maxRecDepth 100000

theorem figure_dec (x : Nat) (h : x < 10) (y : Int) (hy : y = (x : Int)) (w : World) : Calls Tryd.prog 83 #[.int .i64 y] w fun e w' => e = .returned (.int .u8 (48 + (x : Int))) ∧ w = w' := by
  subst hy
  go_enter Tryd.func83, Tryd.ntmps83
  go_wp2
  go_ret
  exact ⟨rfl, rfl⟩

/-- What is left to be written (m) and what is written (acc) of the figures of u. -/
def DecAt (u m : Nat) (acc : List UInt8) : Prop := if 0 < m then Lib.decDigits m ++ acc = Lib.decDigits u else acc = Lib.decDigits u
theorem DecAt.start (u : Nat) (h : 0 < u) : DecAt u u [] := by unfold DecAt; rw [if_pos h]; simp
theorem DecAt.step {u m : Nat} {acc : List UInt8} (h : DecAt u m acc) (hm : 0 < m) : DecAt u (m / 10) (UInt8.ofNat (48 + m % 10) :: acc) := by
  unfold DecAt at h ⊢
  rw [if_pos hm] at h
  rw [← h]
  by_cases c : m < 10
  · rw [if_neg (by omega), Lib.decDigits_one c, show m % 10 = m by omega]; rfl
  · rw [if_pos (by omega)]
    conv => rhs; rw [Lib.decDigits, dif_neg c]
    simp
theorem DecAt.stop {u m : Nat} {acc : List UInt8} (h : DecAt u m acc) (hm : ¬ 0 < m) : acc = Lib.decDigits u := by
  unfold DecAt at h; rw [if_neg hm] at h; exact h
theorem DecAt.len {u m : Nat} {acc : List UInt8} (h : DecAt u m acc) : acc.length ≤ (Lib.decDigits u).length := by
  unfold DecAt at h; split at h
  · rw [← h]; simp
  · rw [h]; exact Nat.le_refl _
theorem dec_len (u : Nat) (hu : u ≤ 9223372036854775808) : (Lib.decDigits u).length ≤ 21 := by
  by_cases c : u = 0
  · subst c; rw [Lib.decDigits_one (by omega)]; decide
  · have := Lib.itoa_length_le (-(u : Int)) (by omega) (by omega)
    rw [Lib.itoa_neg u (by omega)] at this
    simp at this
    omega

set_option maxHeartbeats 400000 in
theorem specDecimal_pos (u : Nat) (w : World) (h0 : 0 < u) (h1 : u ≤ 9223372036854775807) :
    Calls Tryd.prog 72 #[.int .i64 (u : Int)] w fun e w' => e = .returned (.string ⟨(Lib.itoa (u : Int)).toArray⟩) ∧ Below w.heap.size w w' := by
  rw [Lib.itoa_nonneg]
  have q1 : ((u : Int) == 0) = false := by simp; omega
  have q2 : decide ((u : Int) < 0) = false := by simp
  have hdl := dec_len u (by omega)
  have HS := hide1 (DecAt.start u h0)
  go_enter Tryd.func72, Tryd.ntmps72
  go_wp2
  go_loopw [0, 4] (fun nv zv wr => ∃ (m : Nat) (acc : List UInt8) (z : ByteArray), nv = .int .i64 (m : Int) ∧ m ≤ 9223372036854775807 ∧ Hid (DecAt u m acc) ∧ zv = .string z ∧ Hid (z = ⟨acc.toArray⟩) ∧ z.size ≤ 21 ∧ Below w.heap.size w wr) (fun nv _ _ => (intOf nv).toNat)
  case atStart => exact ⟨u, [], ⟨#[]⟩, rfl, h1, HS, rfl, rfl, by decide, Below.refl _ _⟩
  case round =>
    obtain ⟨m, acc, z, rfl, hm, hd, rfl, hz, hzs, hbel⟩ := hrel
    have hbs := hbel.size
    by_cases hlt : 0 < m
    · obtain ⟨b, hbe, hbn⟩ := byte_of (48 + m % 10) (by omega)
      have q3 : ((m : Int) != 0) = true := by simp; omega
      have hcv := conv_one (P := Tryd.prog) wr 22 9 5 Tryd.underlying22 Tryd.underlying5 Tryd.underlying9 b (48 + (m : Int) % 10) (by omega)
      have hb1 : ({ data := #[b] } : ByteArray).size = 1 := rfl
      obtain ⟨y, hy⟩ : ∃ y : ByteArray, y = { data := #[b] } := ⟨_, rfl⟩
      rw [← hy] at hcv hb1
      have Y := hide1 hy
      clear hy hbn
      go_wp2_with (go_at_call 83; refine (figure_dec (m % 10) (by omega) _ (by omega) _).mono ?_; rintro e w1 ⟨rfl, rfl⟩)
      go_roundw
      case rel =>
        have hg := hd.out.step hlt
        have e : y ++ z = ⟨(b :: acc).toArray⟩ := by
          rw [Y.out, hz.out]
          apply ByteArray.ext
          simp [ByteArray.data_append]
        refine ⟨m / 10, b :: acc, y ++ z, by go_num, by omega, by rw [hbe.out]; exact hg, rfl, e, ?_, hbel.alloc hbs _⟩
        rw [e]
        have := hg.len
        show (b :: acc).toArray.size ≤ 21
        simp at this ⊢
        omega
      case measure => simp [intOf]; omega
    · have q3 : ((m : Int) != 0) = false := by simp; omega
      go_wp2
      go_ret
      refine ⟨?_, hbel⟩
      show Ending.returned (.string z) = _
      rw [hz.out, hd.out.stop hlt]

set_option maxHeartbeats 800000 in
theorem specDecimal_neg (u : Nat) (w : World) (h0 : 0 < u) (h1 : u ≤ 9223372036854775808) :
    Calls Tryd.prog 72 #[.int .i64 (-(u : Int))] w fun e w' => e = .returned (.string ⟨(Lib.itoa (-(u : Int))).toArray⟩) ∧ Below w.heap.size w w' := by
  rw [Lib.itoa_neg u (by omega)]
  have q1 : (-(u : Int) == 0) = false := by simp; omega
  have q2 : decide (-(u : Int) < 0) = true := by simp; omega
  have hdl := dec_len u (by omega)
  have HS := hide1 (DecAt.start u h0)
  go_enter Tryd.func72, Tryd.ntmps72
  go_wp2
  go_loopw [0, 4] (fun nv zv wr => ∃ (m : Nat) (acc : List UInt8) (z : ByteArray), nv = .int .i64 (-(m : Int)) ∧ m ≤ 9223372036854775808 ∧ Hid (DecAt u m acc) ∧ zv = .string z ∧ Hid (z = ⟨acc.toArray⟩) ∧ z.size ≤ 21 ∧ Below w.heap.size w wr) (fun nv _ _ => (-(intOf nv)).toNat)
  case atStart => exact ⟨u, [], ⟨#[]⟩, rfl, h1, HS, rfl, rfl, by decide, Below.refl _ _⟩
  case round =>
    obtain ⟨m, acc, z, rfl, hm, hd, rfl, hz, hzs, hbel⟩ := hrel
    have hbs := hbel.size
    by_cases hlt : 0 < m
    · obtain ⟨b, hbe, hbn⟩ := byte_of (48 + m % 10) (by omega)
      have q3 : (-(m : Int) != 0) = true := by simp; omega
      have r1 : (-(m : Int)).tmod 10 = -((m : Int) % 10) := by rw [Int.neg_tmod, Int.tmod_eq_emod_of_nonneg (by omega)]
      have r2 : (-(m : Int)).tdiv 10 = -((m : Int) / 10) := by rw [Int.neg_tdiv, Int.tdiv_eq_ediv_of_nonneg (by omega)]
      have hcv := conv_one (P := Tryd.prog) wr 22 9 5 Tryd.underlying22 Tryd.underlying5 Tryd.underlying9 b (48 + (m : Int) % 10) (by omega)
      have hb1 : ({ data := #[b] } : ByteArray).size = 1 := rfl
      obtain ⟨y, hy⟩ : ∃ y : ByteArray, y = { data := #[b] } := ⟨_, rfl⟩
      rw [← hy] at hcv hb1
      have Y := hide1 hy
      clear hy hbn
      by_cases c0 : 0 < m % 10
      · go_wp2_with (go_at_call 83; refine (figure_dec (m % 10) (by omega) _ (by omega) _).mono ?_; rintro e w1 ⟨rfl, rfl⟩)
        go_roundw
        case rel =>
          have hg := hd.out.step hlt
          have e : y ++ z = ⟨(b :: acc).toArray⟩ := by
            rw [Y.out, hz.out]
            apply ByteArray.ext
            simp [ByteArray.data_append]
          refine ⟨m / 10, b :: acc, y ++ z, by go_num, by omega, by rw [hbe.out]; exact hg, rfl, e, ?_, hbel.alloc hbs _⟩
          rw [e]
          have := hg.len
          show (b :: acc).toArray.size ≤ 21
          simp at this ⊢
          omega
        case measure => simp [intOf]; omega
      · go_wp2_with (go_at_call 83; refine (figure_dec (m % 10) (by omega) _ (by omega) _).mono ?_; rintro e w1 ⟨rfl, rfl⟩)
        go_roundw
        case rel =>
          have hg := hd.out.step hlt
          have e : y ++ z = ⟨(b :: acc).toArray⟩ := by
            rw [Y.out, hz.out]
            apply ByteArray.ext
            simp [ByteArray.data_append]
          refine ⟨m / 10, b :: acc, y ++ z, by go_num, by omega, by rw [hbe.out]; exact hg, rfl, e, ?_, hbel.alloc hbs _⟩
          rw [e]
          have := hg.len
          show (b :: acc).toArray.size ≤ 21
          simp at this ⊢
          omega
        case measure => simp [intOf]; omega
    · have q3 : (-(m : Int) != 0) = false := by simp; omega
      go_wp2
      go_ret
      refine ⟨?_, hbel⟩
      show Ending.returned (.string (⟨#[45]⟩ ++ z)) = _
      rw [hz.out, hd.out.stop hlt]
      congr 2

theorem specDecimal_any (n : Int) (w : World) (h0 : -9223372036854775808 ≤ n) (h1 : n ≤ 9223372036854775807) :
    Calls Tryd.prog 72 #[.int .i64 n] w fun e w' => e = .returned (.string ⟨(Lib.itoa n).toArray⟩) ∧ Below w.heap.size w w' := by
  by_cases hp : 0 < n
  · obtain ⟨u, rfl⟩ : ∃ u : Nat, n = (u : Int) := ⟨n.toNat, by omega⟩
    exact specDecimal_pos u w (by omega) (by omega)
  · by_cases hz : n = 0
    · subst hz
      have e : Lib.itoa 0 = [48] := by
        have := Lib.itoa_nonneg 0
        rw [Lib.decDigits_one (by omega)] at this
        exact this
      rw [e]
      go_enter Tryd.func72, Tryd.ntmps72
      go_wp2
      go_ret
      exact ⟨rfl, Below.refl _ _⟩
    · obtain ⟨u, rfl⟩ : ∃ u : Nat, n = -(u : Int) := ⟨n.natAbs, by omega⟩
      exact specDecimal_neg u w (by omega) (by omega)
end Go.Proofs.YtbkhhkknhbddeaaDoor
namespace Go.Proofs.YtbkhhkknhbddeaaDoor
open Go.RowKit
set_option linter.unusedVariables false

theorem set0_row {l : List Im} (h : 0 < l.length) (x : Im) (hk : x.k = l[0].k) (hv : x.v = l[0].v) : setL (rowG imC l) 2 [.int .i64 x.n] = rowG imC (l.set 0 x) := by
  cases l with
  | nil => simp at h
  | cons y l =>
    obtain ⟨k, v, n⟩ := x
    dsimp only at hk hv
    simp only [List.getElem_cons_zero] at hk hv
    subst hk hv
    rfl
theorem set0_key {l : List Im} (h : 0 < l.length) (x : Im) (hn : x.n = l[0].n) (hv : x.v = l[0].v) : setL (rowG imC l) 0 [.string x.k] = rowG imC (l.set 0 x) := by
  cases l with
  | nil => simp at h
  | cons y l =>
    obtain ⟨k, v, n⟩ := x
    dsimp only at hn hv
    simp only [List.getElem_cons_zero] at hn hv
    subst hn hv
    rfl
theorem SzI.set {l : List Im} (h : SzI l) (x : Im) (hx : x.k.size ≤ 100 ∧ x.v.size ≤ 100) (i : Nat) : SzI (l.set i x) := fun y hy => by
  rcases List.mem_or_eq_of_mem_set hy with h1 | rfl
  · exact h y h1
  · exact hx
theorem SzI.snoc {l : List Im} (h : SzI l) (x : Im) (hx : x.k.size ≤ 100 ∧ x.v.size ≤ 100) : SzI (l ++ [x]) := fun y hy => by
  rcases List.mem_append.1 hy with h1 | h1
  · exact h y h1
  · rw [List.mem_singleton.1 h1]; exact hx
theorem gtop {w w' w'' : World} {r : Option Nat} (h : w.grownBy w' r) (hb : Below w.heap.size w' w'') : w.grownBy w'' r :=
  ⟨hb.os.trans h.os, hb.tape.trans h.tape, hb.output.trans h.output, Nat.le_trans h.size hb.size, fun k hk hne => (hb.block k hk).trans (h.block k hk hne)⟩
theorem own_form {w : World} {base n ca : Nat} {b : Option Addr} {e : TypeId} {k : Nat} {xs : List Value} (h : w.ownsRow base e k (.slice b n ca) n xs) (hn : 0 < n) : ∃ q, b = some ⟨q, 0, none⟩ ∧ base ≤ q ∧ q < w.heap.size := by
  rcases h.2 with ⟨_, h2⟩ | ⟨q, cap, cur, hv, hg, hh, r⟩
  · omega
  · injection hv with h1 h2 h3
    exact ⟨q, h1, hg, (Array.getElem?_eq_some_iff.1 hh).1⟩
set_option maxRecDepth 100000 in
set_option maxHeartbeats 4000000 in
theorem anyItems_any {B : Nat} {w : World} {a : Option Addr} {len cap g : Nat} (h : Drw B w a len cap g) :
    Calls Tryd.prog 52 #[.pointer (some ⟨g, 0, none⟩)] w fun r w' => ∃ (l : List Im) (b : Option Addr) (c : Nat), r = .returned (.slice b l.length c) ∧ SzI l ∧ l.length ≤ 20 ∧ w'.ownsRow w.heap.size 51 3 (.slice b l.length c) l.length (rowG imC l) ∧ Drw B w' a len cap g ∧ w.grownBy w' (some g) := by
  have hglt := h.lt
  have hBg := h.cur.1
  have hBw : B ≤ w.heap.size := h.base
  have D0 := hide1 h
  clear h
  go_enter Tryd.func52, Tryd.ntmps52
  go_wp2_with fail
  refine (itemsD_own D0.out).mono ?_
  rintro e w1 ⟨l, b, c, rfl, hok, hl5, ho1, d1, g1⟩
  have D1 := hide1 d1
  have G1 := hide1 g1
  have O1 := hide1 ho1
  have HS := hide1 (SzI.ok hok)
  clear hok ho1 d1 g1 D0
  go_wp2_with fail
  refine (below_any D1.out 16 (by omega)).mono ?_
  rintro e w2 ⟨z, rfl, hz, _, d2, g2⟩
  have hz2 : z < 16 := by have := hz (by omega); omega
  have D2 := hide1 d2
  have G2 := hide1 (gtrans G1.out g2)
  have O2 := hide1 (gown g2 O1.out (fun k hk x => by injection x with x; have := (O1.out.lt k hk).1; omega))
  have lw2 : w.heap.size ≤ w2.heap.size := G2.out.size
  clear d2 g2 D1 G1 O1 hz
  by_cases z0 : z = 0
  · subst z0
    go_wp2_with fail
    refine (itemD_any D2.out).mono ?_
    rintro e w3 ⟨x, rfl, hx, d3, g3⟩
    have D3 := hide1 d3
    have G3 := hide1 (gtrans G2.out g3)
    have O3 := hide1 (gown g3 O2.out (fun k hk x => by injection x with x; have := (O2.out.lt k hk).1; omega))
    have HX := hide1 (show x.k.size ≤ 100 ∧ x.v.size ≤ 100 from ⟨by have := hx.1.2; omega, by have := hx.2.1; omega⟩)
    have lw3 : w.heap.size ≤ w3.heap.size := G3.out.size
    clear d3 g3 D2 G2 O2 hx
    have FL := hide1 (And.intro (Blk.new w3 51 #[.string x.k, .string x.v, .int .i64 x.n]) ((Below.refl w3.heap.size w3).alloc (Nat.le_refl _) (.cells #[.string x.k, .string x.v, .int .i64 x.n] 51)))
    have O4 := hide1 (own_kept O3.out FL.out.2)
    have D4 := hide1 (D3.out.later FL.out.2)
    have G4 := hide1 (gtrans G3.out (gnew FL.out.2))
    have L4 := hide1 (Nat.le_trans lw3 FL.out.2.size)
    go_wp2_with (at_builtin; (refine wpList_appA encIm rowIm rfl (.tmp 11) (.tmp 14) rfl w.heap.size _ l.length l rfl O4.out (some ⟨w3.heap.size, 0, none⟩) 1 1 [x] rfl rfl (rd_one encIm FL.out.1) (by omega) L4.out ?_; intro b6 c6 w6 ho6 hg6 hp6; have B6 := hide1 (gbelow hg6 (fun q e => (O4.out.lt q e).1) L4.out); have O6 := hide1 ho6; have D6 := hide1 (D4.out.keep B6.out hBw hglt); have G6 := hide1 (gtop G4.out B6.out); clear ho6 hg6 hp6))
    go_ret
    refine ⟨l ++ [x], b6, c6, by rw [List.length_append]; rfl, HS.out.snoc x HX.out, by rw [List.length_append]; show l.length + 1 ≤ 20; omega, ?_, D6.out, G6.out⟩
    rw [show (l ++ [x]).length = l.length + 1 by rw [List.length_append]; rfl]
    exact O6.out
  by_cases z1 : z = 1
  · subst z1
    by_cases hl0 : 0 < l.length
    · have k1 : (0 : Int) < (l.length : Int) := by omega
      obtain ⟨q, rfl, hq1, hq2⟩ := own_form O2.out hl0
      have FP := hide1 (And.intro (Blk.new w2 3 #[.int .i64 0, .int .i64 (-1), .int .i64 1000000000, .int .i64 1000000001]) ((Below.refl w2.heap.size w2).alloc (Nat.le_refl _) (.cells #[.int .i64 0, .int .i64 (-1), .int .i64 1000000000, .int .i64 1000000001] 3)))
      have hne : ¬ w2.heap.size = g := by omega
      have D3 := hide1 (D2.out.later FP.out.2)
      have O3 := hide1 (own_kept O2.out FP.out.2)
      have G3 := hide1 (gtrans G2.out (gnew FP.out.2))
      have lp : w2.heap.size < (w2.alloc (.cells #[.int .i64 0, .int .i64 (-1), .int .i64 1000000000, .int .i64 1000000001] 3)).heap.size := FP.out.1.lt
      have CP := hide1 (pickInt_any D3.out w2.heap.size 4 4 (by omega) (by omega) hne (fun j => [0, -1, 1000000000, 1000000001].getD j 0) (fun j hj => by
        match j, hj with
        | 0, _ => exact FP.out.1.cell 0
        | 1, _ => exact FP.out.1.cell 1
        | 2, _ => exact FP.out.1.cell 2
        | 3, _ => exact FP.out.1.cell 3) lp)
      clear D2 O2 G2 lp
      go_wp2_with fail
      refine CP.out.mono ?_
      rintro e w4 ⟨j, rfl, d4, g4⟩
      have o4 := gown g4 O3.out (fun k hk x => by injection x with x; have := (O3.out.lt k hk).1; omega)
      have D4 := hide1 d4
      have G4 := hide1 (gtrans G3.out g4)
      generalize ([0, -1, 1000000000, 1000000001] : List Int).getD j 0 = y at *
      obtain ⟨u2, y2⟩ := own_some o4 2 (by omega)
      have f2 := o4.frozenAt 2
      have O4 := hide1 o4
      have lq4 : q < w4.heap.size := Nat.lt_of_lt_of_le hq2 (Nat.le_trans FP.out.2.size g4.size)
      clear o4 d4 g4 CP FP O3 D3 G3
      have RW := hide1 (set0_row hl0 ⟨l[0].k, l[0].v, y⟩ rfl rfl)
      have SZ := hide1 (HS.out.set ⟨l[0].k, l[0].v, y⟩ (HS.out l[0] (List.getElem_mem hl0)) 0)
      have BB := hide1 ((Below.refl w.heap.size w4).setCell (p := ⟨q, 2, none⟩) hq1 (.int .i64 y))
      go_wp2
      go_ret
      refine ⟨l.set 0 ⟨l[0].k, l[0].v, y⟩, some ⟨q, 0, none⟩, c, by rw [List.length_set]; rfl, SZ.out, by rw [List.length_set]; omega, ?_, D4.out.keep BB.out hBw hglt, gtop G4.out BB.out⟩
      rw [List.length_set, ← RW.out]
      exact own_putG [.int .i64 y] 2 O4.out
    · have k1 : ¬ ((0 : Int) < (l.length : Int)) := by omega
      go_wp2
      go_ret
      exact ⟨l, b, c, rfl, HS.out, by omega, O2.out, D2.out, G2.out⟩
  by_cases z2 : z = 2
  · subst z2
    by_cases hl0 : 0 < l.length
    · have k1 : (0 : Int) < (l.length : Int) := by omega
      obtain ⟨q, rfl, hq1, hq2⟩ := own_form O2.out hl0
      have CL := hide1 (long_any 13 65 w2 (by omega))
      rw [show (((65 : UInt8).toNat : Nat) : Int) = 65 from rfl, show ((13 : Nat) : Int) = 13 from rfl] at CL
      go_wp2_with fail
      refine CL.out.mono ?_
      rintro e w3 ⟨T, rfl, hT, hb3⟩
      have D3 := hide1 (D2.out.later hb3)
      have O3 := hide1 (own_kept O2.out hb3)
      have G3 := hide1 (gtrans G2.out (gnew hb3))
      have lw3 : w2.heap.size ≤ w3.heap.size := hb3.size
      have hTs : (⟨T.toArray⟩ : ByteArray).size = 13 := by show T.toArray.size = 13; simp [hT]
      generalize (⟨T.toArray⟩ : ByteArray) = Tx at *
      clear hb3 D2 O2 G2 CL hT
      have FP := hide1 (And.intro (Blk.new w3 9 #[.string ⟨#[]⟩, .string Tx]) ((Below.refl w3.heap.size w3).alloc (Nat.le_refl _) (.cells #[.string ⟨#[]⟩, .string Tx] 9)))
      have D4 := hide1 (D3.out.later FP.out.2)
      have O4 := hide1 (own_kept O3.out FP.out.2)
      have G4 := hide1 (gtrans G3.out (gnew FP.out.2))
      have CP := hide1 (pickT_any D4.out w3.heap.size ⟨#[]⟩ Tx (FP.out.1.cell 0) (FP.out.1.cell 1) (by omega))
      have lq4 := hide1 FP.out.2.size
      clear D3 O3 G3 FP
      go_wp2_with fail
      refine CP.out.mono ?_
      rintro e w5 ⟨sx, rfl, hsx, d5, g5⟩
      have hsz : sx.size ≤ 100 := by rcases hsx with rfl | rfl
                                     · exact Nat.zero_le _
                                     · omega
      have o5 := gown g5 O4.out (fun k hk x => by injection x with x; have := (O4.out.lt k hk).1; omega)
      have D5 := hide1 d5
      have G5 := hide1 (gtrans G4.out g5)
      obtain ⟨u0, y0⟩ := own_some o5 0 (by omega)
      have f0 := o5.frozenAt 0
      have O5 := hide1 o5
      clear o5 d5 g5 CP O4 D4 G4 hsx
      have RW := hide1 (set0_key hl0 ⟨sx, l[0].v, l[0].n⟩ rfl rfl)
      have SZ := hide1 (HS.out.set ⟨sx, l[0].v, l[0].n⟩ ⟨hsz, (HS.out l[0] (List.getElem_mem hl0)).2⟩ 0)
      have BB := hide1 ((Below.refl w.heap.size w5).setCell (p := ⟨q, 0, none⟩) hq1 (.string sx))
      go_wp2
      go_ret
      refine ⟨l.set 0 ⟨sx, l[0].v, l[0].n⟩, some ⟨q, 0, none⟩, c, by rw [List.length_set]; rfl, SZ.out, by rw [List.length_set]; omega, ?_, D5.out.keep BB.out hBw hglt, gtop G5.out BB.out⟩
      rw [List.length_set, ← RW.out]
      exact own_putG [.string sx] 0 O5.out
    · have k1 : ¬ ((0 : Int) < (l.length : Int)) := by omega
      go_wp2
      go_ret
      exact ⟨l, b, c, rfl, HS.out, by omega, O2.out, D2.out, G2.out⟩
  by_cases z3 : z = 3
  · subst z3
    have FE := hide1 (And.intro (Blk.new w2 51 #[]) ((Below.refl w2.heap.size w2).alloc (Nat.le_refl _) (.cells #[] 51)))
    go_upto_region 13 with fail
    generalize (w2.alloc (.cells #[] 51)) = v at FE ⊢
    have OV := hide1 (show v.ownsRow w.heap.size 51 3 (.slice (some ⟨w2.heap.size, 0, none⟩) 0 0) 0 (rowG imC ([] : List Im)) from own_none FE.out.1 lw2)
    have DV := hide1 (D2.out.later FE.out.2)
    have GV := hide1 (gtrans G2.out (gnew FE.out.2))
    clear FE D2 G2 O2 HS hl5
    go_wp2
    go_loopw [3, 4] (fun ov iv wr => ∃ (i : Nat) (L : List Im) (b : Option Addr) (c : Nat), i ≤ 13 ∧ iv = .int .i64 (i : Int) ∧ ov = .slice b L.length c ∧ L.length ≤ i ∧ Hid (SzI L) ∧ Hid (wr.ownsRow w.heap.size 51 3 (.slice b L.length c) L.length (rowG imC L)) ∧ Hid (Drw B wr a len cap g) ∧ Hid (w.grownBy wr (some g))) (fun _ iv _ => 14 - (intOf iv).toNat)
    case atStart => exact ⟨0, [], _, _, by omega, rfl, rfl, Nat.le_refl _, hide1 (fun x hx => by simp at hx), OV, DV, GV⟩
    case round =>
      obtain ⟨i, L, b, c, hi, rfl, rfl, hLi, HS, OW, DD, GG⟩ := hrel
      go_wp2_with fail
      refine (below_any DD.out 2 (by omega)).mono ?_
      rintro e w3 ⟨y, rfl, hy, _, d3, g3⟩
      have hy2 : y < 2 := by have := hy (by omega); omega
      have D3 := hide1 d3
      have G3 := hide1 (gtrans GG.out g3)
      have O3 := hide1 (gown g3 OW.out (fun k hk x => by injection x with x; have := (OW.out.lt k hk).1; omega))
      clear d3 g3 DD GG OW hy
      by_cases hlt : i < 12 + y
      · have k1 : (i : Int) < 12 + (y : Int) := by omega
        have CD := hide1 (fun v => specDecimal_any (10 + (i : Int)) v (by omega) (by omega))
        obtain ⟨Tx, hTx⟩ : ∃ T : ByteArray, T = ⟨(Lib.itoa (10 + (i : Int))).toArray⟩ := ⟨_, rfl⟩
        have hTs : Tx.size ≤ 21 := by rw [hTx]; show (Lib.itoa (10 + (i : Int))).toArray.size ≤ 21; rw [List.size_toArray]; exact Lib.itoa_length_le _ (by omega) (by omega)
        rw [← hTx] at CD
        clear hTx
        go_wp2_with fail
        refine (CD.out _).mono ?_
        rintro e w4 ⟨rfl, hb4⟩
        have D4 := hide1 (D3.out.later hb4)
        have O4 := hide1 (own_kept O3.out hb4)
        have G4 := hide1 (gtrans G3.out (gnew hb4))
        have lw4 : w.heap.size ≤ w4.heap.size := G4.out.size
        clear hb4 D3 O3 G3 CD
        have FL := hide1 (And.intro (Blk.new w4 51 #[.string (⟨#[109]⟩ ++ Tx), .string ⟨#[]⟩, .int .i64 5]) ((Below.refl w4.heap.size w4).alloc (Nat.le_refl _) (.cells #[.string (⟨#[109]⟩ ++ Tx), .string ⟨#[]⟩, .int .i64 5] 51)))
        have O5 := hide1 (own_kept O4.out FL.out.2)
        have D5 := hide1 (D4.out.later FL.out.2)
        have G5 := hide1 (gtrans G4.out (gnew FL.out.2))
        have L5 := hide1 (Nat.le_trans lw4 FL.out.2.size)
        have SZ := hide1 (HS.out.snoc ⟨⟨#[109]⟩ ++ Tx, ⟨#[]⟩, 5⟩ ⟨by show (⟨#[109]⟩ ++ Tx).size ≤ 100; rw [ByteArray.size_append]; have : (⟨#[109]⟩ : ByteArray).size = 1 := rfl; omega, Nat.zero_le _⟩)
        go_wp2_with (at_builtin; (refine wpList_appA encIm rowIm rfl (.tmp 49) (.tmp 55) rfl w.heap.size _ L.length L rfl O5.out (some ⟨w4.heap.size, 0, none⟩) 1 1 [⟨⟨#[109]⟩ ++ Tx, ⟨#[]⟩, 5⟩] rfl rfl (rd_one encIm FL.out.1) (by omega) L5.out ?_; intro b6 c6 w6 ho6 hg6 hp6; have B6 := hide1 (gbelow hg6 (fun q e => (O5.out.lt q e).1) L5.out); have O6 := hide1 ho6; have D6 := hide1 (D5.out.keep B6.out hBw hglt); have G6 := hide1 (gtop G5.out B6.out); clear ho6 hg6 hp6))
        go_roundw
        case rel =>
          have e1 : (L ++ [(⟨⟨#[109]⟩ ++ Tx, ⟨#[]⟩, 5⟩ : Im)]).length = L.length + 1 := by rw [List.length_append]; rfl
          refine ⟨i + 1, L ++ [⟨⟨#[109]⟩ ++ Tx, ⟨#[]⟩, 5⟩], b6, c6, by omega, by go_num, by rw [e1], by rw [e1]; omega, SZ, hide1 ?_, D6, G6⟩
          rw [e1]
          exact O6.out
        case measure => simp [intOf]; omega
      · have k1 : ¬ ((i : Int) < 12 + (y : Int)) := by omega
        go_wp2
        go_ret
        exact ⟨L, b, c, rfl, HS.out, by omega, O3.out, D3.out, G3.out⟩
  have n0 : ((z : Int) == 0) = false := by rw [beq_eq_false_iff_ne]; omega
  have n1 : ((z : Int) == 1) = false := by rw [beq_eq_false_iff_ne]; omega
  have n2 : ((z : Int) == 2) = false := by rw [beq_eq_false_iff_ne]; omega
  have n3 : ((z : Int) == 3) = false := by rw [beq_eq_false_iff_ne]; omega
  go_wp2
  go_ret
  exact ⟨l, b, c, rfl, HS.out, by omega, O2.out, D2.out, G2.out⟩
end Go.Proofs.YtbkhhkknhbddeaaDoor
namespace Go.Proofs.YtbkhhkknhbddeaaDoor
open Go.RowKit
set_option linter.unusedVariables false

theorem bigI_no (a : Option Addr) (len cap : Nat) (w : World) (h : len ≤ 1048576) : Calls Tryd.prog 6 #[.slice a len cap] w fun e w' => e = .returned (.bool false) ∧ w = w' := by
  have q : decide ((1048576 : Int) < (len : Int)) = false := decide_eq_false (by omega)
  go_enter Tryd.func6, Tryd.ntmps6
  go_wp2
  go_ret
  exact ⟨by first | rfl | (show Ending.returned (.bool (decide ((1048576 : Int) < (len : Int)))) = _; rw [q]), rfl⟩
theorem bigI_yes (a : Option Addr) (len cap : Nat) (w : World) (h : ¬ len ≤ 1048576) : Calls Tryd.prog 6 #[.slice a len cap] w fun e w' => e = .returned (.bool true) ∧ w = w' := by
  have q : decide ((1048576 : Int) < (len : Int)) = true := decide_eq_true (by omega)
  go_enter Tryd.func6, Tryd.ntmps6
  go_wp2
  go_ret
  exact ⟨by first | rfl | (show Ending.returned (.bool (decide ((1048576 : Int) < (len : Int)))) = _; rw [q]), rfl⟩
end Go.Proofs.YtbkhhkknhbddeaaDoor
namespace Go.Proofs.YtbkhhkknhbddeaaDoor
open Go.RowKit
set_option linter.unusedVariables false

theorem okIm_z {x : Im} (h : okIm x) : x.k.size ≤ 1048576 ∧ x.v.size ≤ 1048576 := by have h1 := h.1.2; have h2 := h.2.1; omega
theorem okIms_z {l : List Im} (h : okIms l) : ∀ x ∈ l, x.k.size ≤ 1048576 ∧ x.v.size ≤ 1048576 := fun x hx => okIm_z (h.1 x hx)
theorem fieldsIm : Tryd.prog.underlying 51 = some (.struct (Tryd.prog.fieldsOf 51)) := by kernel_rfl
theorem heldIm : Tryd.prog.stoodInHeld 51 = false := by kernel_rfl
theorem listIm : (Tryd.prog.fieldsOf 51).toList.map (fun f => (f.name, f.type, f.offset)) = [("Key", 9, 0), ("Val", 9, 1), ("Ver", 3, 2)] := by kernel_rfl
theorem guardIm : Tryd.prog.eqGuardType Tryd.prog.depth 51 = false := by kernel_rfl
theorem part_oneI (w : World) (t : TypeId) (d : TypeDesc) (hd : Tryd.prog.underlying t = some d) (hn : (match d with | .struct _ | .array _ _ => true | _ => false) = false) (xs : Array Value) (i : Nat) (v : Value) (h : xs[i]? = some v) : (part t xs i).run Tryd.prog w = .ok v w := by
  unfold part isAgg
  cases d <;> simp_all [run_underlying hd]
def eqSI (d : Nat) (xs ys : Array Value) : List (String × TypeId × Nat) → Sem Bool
  | [] => pure true
  | f :: fs =>
    if f.1 ≠ "_" then do
      let a ← part f.2.1 xs f.2.2
      let b ← part f.2.1 ys f.2.2
      let r ← Op.equalIn d f.2.1 a b
      if (!r) = true then pure false else eqSI d xs ys fs
    else eqSI d xs ys fs
theorem eqSI_of (d : Nat) (xs ys : Array Value) : ∀ fs : List Field, Op.eqFields d xs ys fs = eqSI d xs ys (fs.map (fun f => (f.name, f.type, f.offset)))
  | [] => rfl
  | f :: fs => by rw [List.map_cons, Op.eqFields, eqSI, eqSI_of d xs ys fs]
theorem eqImV (d : Nat) (k v : ByteArray) (n : Int) (w : World) : (Op.equalIn (d + 2) 51 (.agg #[.string k, .string v, .int .i64 n]) (.agg #[.string k, .string v, .int .i64 n])).run Tryd.prog w = .ok true w := by
  rw [run_equalIn_struct w (d + 1) 51 _ _ fieldsIm heldIm, eqSI_of, listIm]
  have pi := fun (xs : Array Value) i v h => part_oneI w 3 _ Tryd.underlying3 rfl xs i v h
  have ps := fun (xs : Array Value) i v h => part_oneI w 9 _ Tryd.underlying9 rfl xs i v h
  have ei := fun x y => run_equalIn_int w d 3 .i64 .i64 x y Tryd.underlying3
  have es := fun x y => run_equalIn_string w d 9 x y Tryd.underlying9
  have ne : ∀ s, s ∈ ["Key", "Val", "Ver"] → s ≠ "_" := by decide
  simp only [eqSI, ne "Key" (by simp), ne "Val" (by simp), ne "Ver" (by simp), ne_eq, not_false_eq_true, if_true, Sem.run_bind]
  rw [ps _ 0 (.string k) rfl, Result.andThen_ok, ps _ 0 (.string k) rfl, Result.andThen_ok, es, Result.andThen_ok]
  rw [show (k.toList == k.toList) = true by simp, if_neg (by simp), Sem.run_bind, ps _ 1 (.string v) rfl, Result.andThen_ok, Sem.run_bind, ps _ 1 (.string v) rfl, Result.andThen_ok, Sem.run_bind, es, Result.andThen_ok]
  rw [show (v.toList == v.toList) = true by simp, if_neg (by simp), Sem.run_bind, pi _ 2 (.int .i64 n) rfl, Result.andThen_ok, Sem.run_bind, pi _ 2 (.int .i64 n) rfl, Result.andThen_ok, Sem.run_bind, ei, Result.andThen_ok]
  rw [show (n == n) = true by simp, if_neg (by simp)]
  rfl
set_option maxRecDepth 100000 in
set_option maxHeartbeats 1000000 in
theorem sameIm_same (a b : Option Addr) (l : List Im) (ca cb : Nat) (w : World) (hl : l.length ≤ 1048576) (ha : RdG imC 3 w a l) (hb : RdG imC 3 w b l) :
    Calls Tryd.prog 12 #[.slice a l.length ca, .slice b l.length cb] w fun e w' => e = .returned (.bool true) ∧ Below w.heap.size w w' := by
  have HA := hide1 ha
  have HB := hide1 hb
  clear ha hb
  have q0 : ((l.length : Int) != (l.length : Int)) = false := by simp
  go_enter Tryd.func12, Tryd.ntmps12
  go_wp2
  go_loopw [5] (fun iv wr => ∃ i : Nat, i ≤ l.length ∧ iv = .int .i64 (i : Int) ∧ Below w.heap.size w wr) (fun iv _ => l.length - (intOf iv).toNat)
  case atStart => exact ⟨0, by omega, rfl, Below.refl _ _⟩
  case round =>
    obtain ⟨i, hi, rfl, hbel⟩ := hrel
    by_cases hlt : i < l.length
    · have k1 : (i : Int) < (l.length : Int) := by omega
      obtain ⟨b1, o1, rfl, hg1, h1⟩ := HA.out i hlt
      obtain ⟨b2, o2, rfl, hg2, h2⟩ := HB.out i hlt
      have x0 : wr.cell? ⟨b1, o1 + i * 3, none⟩ = some (.string l[i].k) := (hbel.cell (p := ⟨b1, o1 + i * 3, none⟩) hg1).trans (h1 0 (by omega))
      have x1 : wr.cell? ⟨b1, o1 + i * 3 + 1, none⟩ = some (.string l[i].v) := (hbel.cell (p := ⟨b1, o1 + i * 3 + 1, none⟩) hg1).trans (h1 1 (by omega))
      have x2 : wr.cell? ⟨b1, o1 + i * 3 + 2, none⟩ = some (.int .i64 l[i].n) := (hbel.cell (p := ⟨b1, o1 + i * 3 + 2, none⟩) hg1).trans (h1 2 (by omega))
      have y0 : wr.cell? ⟨b2, o2 + i * 3, none⟩ = some (.string l[i].k) := (hbel.cell (p := ⟨b2, o2 + i * 3, none⟩) hg2).trans (h2 0 (by omega))
      have y1 : wr.cell? ⟨b2, o2 + i * 3 + 1, none⟩ = some (.string l[i].v) := (hbel.cell (p := ⟨b2, o2 + i * 3 + 1, none⟩) hg2).trans (h2 1 (by omega))
      have y2 : wr.cell? ⟨b2, o2 + i * 3 + 2, none⟩ = some (.int .i64 l[i].n) := (hbel.cell (p := ⟨b2, o2 + i * 3 + 2, none⟩) hg2).trans (h2 2 (by omega))
      clear h1 h2
      generalize l[i] = s at *
      have hqv : ∀ w, (Op.equalIn 10000 51 (.agg #[.string s.k, .string s.v, .int .i64 s.n]) (.agg #[.string s.k, .string s.v, .int .i64 s.n])).run Tryd.prog w = .ok true w := fun w => eqImV 9998 s.k s.v s.n w
      have hgd := guardIm
      go_wp2_with fail
      go_quiet (fail)
      go_wp2
      go_roundw
      case rel => exact ⟨i + 1, by omega, by go_num, below_drewN hbel _⟩
      case measure => simp [intOf]; omega
    · go_wp2
      go_ret
      exact ⟨rfl, hbel⟩
end Go.Proofs.YtbkhhkknhbddeaaDoor
namespace Go.Proofs.YtbkhhkknhbddeaaDoor
open Go.RowKit

theorem Tryd.infoIntP : (Tryd.prog.info? 3).map (fun i => (i.zero, i.size, i.bytes)) = some (some (.int .i64 0), 1, 8) := by kernel_rfl

/-- The cells of a row of numbers. -/
def icP (l : List Nat) : List Value := l.map fun n : Nat => Value.int .i64 (n : Int)
theorem icP_append (l m : List Nat) : icP (l ++ m) = icP l ++ icP m := by simp [icP]
theorem own_atP {w : World} {base n : Nat} {e : TypeId} {v : Value} {xs : List Value} (h : w.ownsRow base e 1 v n xs) (hn : 0 < n) : ∃ g cap, v = .slice (some ⟨g, 0, none⟩) n cap ∧ base ≤ g ∧ g < w.heap.size := by
  rcases h.2 with ⟨_, h0⟩ | ⟨g, cap, cur, hv, _⟩
  · omega
  · have := h.lt g (by rw [hv]; rfl)
    exact ⟨g, cap, hv, this.1, this.2⟩

set_option maxRecDepth 100000 in
set_option maxHeartbeats 1000000 in
theorem drawPl_any (w : World) (a : Option Addr) (len cap : Nat) (hc : Code w.heap.size w a len) :
    Calls Tryd.prog 15 #[.slice a len cap] w fun e w' => ∃ (xs : List Nat) (p c : Nat), xs.length = 12 ∧ (∀ y ∈ xs, y < 10000) ∧ e = .returned (.slice (some ⟨p, 0, none⟩) 12 c) ∧ w.heap.size ≤ p ∧ p < w'.heap.size ∧ (∀ j (h : j < xs.length), w'.cell? ⟨p, j, none⟩ = some (.int .i64 (xs[j] : Int))) ∧ Below w.heap.size w w' := by
  obtain ⟨i0, hi, hz0, hz1, hz2⟩ := info_parts Tryd.infoIntP
  go_enter Tryd.func15, Tryd.ntmps15
  go_wp2_with fail
  refine (new_any w a len cap hc).mono ?_
  rintro e w1 ⟨g, rfl, h1, hb1⟩
  have hBg := h1.cur.1
  go_wp2_with fail
  refine (byte_any h1).mono ?_
  rintro e w2 ⟨x, rfl, hx, h2, hb2⟩
  have hgl := h2.lt
  have hba := h2.base
  have hb12 := hide1 (hb1.trans (grow_below hb2 hBg h1.base))
  have H := hide1 h2
  clear h1 h2 hb1 hb2 hx hc
  go_wp2
  go_loopw [4, 5] (fun v iv wr => ∃ (i : Nat) (acc : List Nat), i ≤ 12 ∧ iv = .int .i64 (i : Int) ∧ Hid (acc.length = i) ∧ acc.length ≤ 12 ∧ wr.ownsRow w2.heap.size 3 1 v acc.length (icP acc) ∧ Hid (Drw w.heap.size wr a len cap g) ∧ w2.grownBy wr (some g) ∧ Hid (∀ y ∈ acc, y < 10000)) (fun _ iv _ => 12 - (intOf iv).toNat)
  case atStart => exact ⟨0, [], by omega, rfl, rfl, by simp, owns_empty w2 _, hide1 (H.out.later ((Below.refl _ _).alloc (Nat.le_refl _) _)), World.grownBy_alloc w2 _ _, fun y hy => by cases hy⟩
  case round =>
    obtain ⟨i, acc, hin, rfl, hl, hle, hown, hD, hgr, hall⟩ := hrel
    have hbs := hgr.size
    by_cases hlt : i < 12
    · have HO := hide1 hown
      have hlt2 : acc.length < 12 := by have := hl.out; omega
      clear hown
      go_wp2_with fail
      refine (below_any hD.out 10000 (by omega)).mono ?_
      rintro e w3 ⟨x, rfl, hx, _, hD1, hb1⟩
      have hx2 : x < 10000 := by have := hx (by omega); omega
      have hown1 : w3.ownsRow w2.heap.size 3 1 u4 acc.length (icP acc) := HO.out.kept hb1 (by
        cases hv : u4.ownBlock with
        | none => exact .inl rfl
        | some k => right; intro e; have := (HO.out.lt k hv).1; simp at e; omega)
      have hb1s : w2.heap.size ≤ w3.heap.size := Nat.le_trans hbs hb1.size
      have D1 := hide1 hD1
      clear hD1 hx
      go_wp2_with (at_builtin; (refine wpList_push1 rfl _ _ 35 rfl w2.heap.size 3 i0 (.int .i64 0) 8 Tryd.underlying35 hi hz0 hz1 hz2 rfl (by decide) _ acc.length (icP acc) rfl hown1 _ rfl rfl (by omega) hb1s ?_; intro v' w4 hown' hb'))
      go_roundw
      case rel =>
        refine ⟨i + 1, acc ++ [x], by omega, by go_num, ?_, by simp; omega, ?_, hide1 (D1.out.keep hb' hba hgl), ?_, ?_⟩
        · show (acc ++ [x]).length = i + 1; rw [List.length_append, hl.out]; rfl
        · rw [icP_append, List.length_append]; exact hown'
        · refine ⟨hb'.os.trans (hb1.os.trans hgr.os), hb'.tape.trans (hb1.tape.trans hgr.tape), hb'.output.trans (hb1.output.trans hgr.output), Nat.le_trans hb1s hb'.size, fun k hk hne => ?_⟩
          rw [hb'.block k hk, hb1.block k (by omega) hne, hgr.block k hk hne]
        · intro y hy
          rcases List.mem_append.1 hy with h | h
          · exact hall.out y h
          · simp at h; omega
      case measure => simp [intOf]; omega
    · have hl2 : acc.length = 12 := by have := hl.out; omega
      obtain ⟨p, c, rfl, hp1, hp2⟩ := own_atP hown (by omega)
      have ec : ∀ j (h : j < acc.length), wr.cell? ⟨p, j, none⟩ = some (.int .i64 (acc[j] : Int)) := by
        intro j hj
        rw [hown.cellAt j (by omega)]
        simp [icP, hj]
      have EC := hide1 ec
      have HL := hide1 hl2
      rw [hl2]
      clear ec
      go_wp2
      go_ret
      exact ⟨acc, p, c, HL.out, hall.out, rfl, Nat.le_trans hb12.out.size hp1, hp2, EC.out, hb12.out.trans (grow_below hgr hBg hba)⟩
end Go.Proofs.YtbkhhkknhbddeaaDoor
namespace Go.Proofs.YtbkhhkknhbddeaaDoor
open Go.RowKit
set_option linter.unusedVariables false

/-- A message in new memory: its fields, its row. -/
def MsgD (w w' : World) (r : Ending) : Prop := ∃ (k f o e n : Int) (l : List Im) (b : Option Addr) (c : Nat), r = .returned (.agg #[.int .i64 k, .int .i64 f, .int .i64 o, .int .i64 e, .int .i64 n, .slice b l.length c]) ∧ SzI l ∧ l.length ≤ 20 ∧ w'.ownsRow w.heap.size 51 3 (.slice b l.length c) l.length (rowG imC l)
set_option maxRecDepth 100000 in
set_option maxHeartbeats 4000000 in
theorem msgD_any {B : Nat} {w : World} {a : Option Addr} {len cap g : Nat} (h : Drw B w a len cap g) :
    Calls Tryd.prog 50 #[.pointer (some ⟨g, 0, none⟩)] w fun r w' => MsgD w w' r ∧ Drw B w' a len cap g ∧ w.grownBy w' (some g) := by
  have hglt := h.lt
  have hBw : B ≤ w.heap.size := h.base
  have F0 := hide1 (And.intro (Blk.new w 26 #[.int .i64 0, .int .i64 0, .int .i64 0, .int .i64 0, .int .i64 0, .slice none 0 0]) ((Below.refl w.heap.size w).alloc (Nat.le_refl _) (.cells #[.int .i64 0, .int .i64 0, .int .i64 0, .int .i64 0, .int .i64 0, .slice none 0 0] 26)))
  have DH := hide1 h
  clear h
  go_enter Tryd.func50, Tryd.ntmps50
  go_upto_region 1 with fail
  generalize (w.alloc (.cells #[.int .i64 0, .int .i64 0, .int .i64 0, .int .i64 0, .int .i64 0, .slice none 0 0] 26)) = u at F0 ⊢
  obtain ⟨RB, hRB⟩ : ∃ X, X = w.heap.size := ⟨_, rfl⟩
  have KR := hide1 F0.out.1
  rw [← hRB] at KR ⊢
  have hRg : RB ≠ g := by omega
  have lRB : w.heap.size ≤ RB := by omega
  have DD := hide1 (DH.out.later F0.out.2)
  have GG := hide1 (show w.grownBy u (some g) from gnew F0.out.2)
  clear F0 hRB DH
  go_wp2_with fail
  refine (below_any DD.out 8 (by omega)).mono ?_
  rintro e9 w1 ⟨x1, rfl, hx1, _, dd, gg⟩
  have KR2 := hide1 (gblk gg KR.out (fun e => hRg (by injection e with e; exact e.symm)))
  have GG2 := hide1 (gtrans GG.out gg)
  have DD2 := hide1 dd
  clear KR GG DD dd gg
  have KR := KR2
  have GG := GG2
  have DD := DD2
  clear KR2 GG2 DD2
  have hy1 : x1 < 8 := by have := hx1 (by omega); omega
  clear hx1
  go_wp2_with fail
  refine (below_any DD.out 4 (by omega)).mono ?_
  rintro e9 w2 ⟨x2, rfl, hx2, _, dd, gg⟩
  have KR2 := hide1 (gblk gg KR.out (fun e => hRg (by injection e with e; exact e.symm)))
  have GG2 := hide1 (gtrans GG.out gg)
  have DD2 := hide1 dd
  clear KR GG DD dd gg
  have KR := KR2
  have GG := GG2
  have DD := DD2
  clear KR2 GG2 DD2
  have hy2 : x2 < 4 := by have := hx2 (by omega); omega
  clear hx2
  go_wp2_with fail
  refine (below_any DD.out 4 (by omega)).mono ?_
  rintro e9 w3 ⟨x3, rfl, hx3, _, dd, gg⟩
  have KR2 := hide1 (gblk gg KR.out (fun e => hRg (by injection e with e; exact e.symm)))
  have GG2 := hide1 (gtrans GG.out gg)
  have DD2 := hide1 dd
  clear KR GG DD dd gg
  have KR := KR2
  have GG := GG2
  have DD := DD2
  clear KR2 GG2 DD2
  have hy3 : x3 < 4 := by have := hx3 (by omega); omega
  clear hx3
  go_wp2_with fail
  refine (below_any DD.out 4 (by omega)).mono ?_
  rintro e9 w4 ⟨x4, rfl, hx4, _, dd, gg⟩
  have KR2 := hide1 (gblk gg KR.out (fun e => hRg (by injection e with e; exact e.symm)))
  have GG2 := hide1 (gtrans GG.out gg)
  have DD2 := hide1 dd
  clear KR GG DD dd gg
  have KR := KR2
  have GG := GG2
  have DD := DD2
  clear KR2 GG2 DD2
  have hy4 : x4 < 4 := by have := hx4 (by omega); omega
  clear hx4
  go_wp2_with fail
  refine (below_any DD.out 6 (by omega)).mono ?_
  rintro e9 w5 ⟨x5, rfl, hx5, _, dd, gg⟩
  have KR2 := hide1 (gblk gg KR.out (fun e => hRg (by injection e with e; exact e.symm)))
  have GG2 := hide1 (gtrans GG.out gg)
  have DD2 := hide1 dd
  clear KR GG DD dd gg
  have KR := KR2
  have GG := GG2
  have DD := DD2
  clear KR2 GG2 DD2
  have hy5 : x5 < 6 := by have := hx5 (by omega); omega
  clear hx5
  have FM := hide1 (And.intro (Blk.new w5 26 #[.int .i64 (1 + (x1 : Int)), .int .i64 (1 + (x2 : Int)), .int .i64 (1 + (x3 : Int)), .int .i64 (1 + (x4 : Int)), .int .i64 (x5 : Int), .slice none 0 0]) ((Below.refl w5.heap.size w5).alloc (Nat.le_refl _) (.cells #[.int .i64 (1 + (x1 : Int)), .int .i64 (1 + (x2 : Int)), .int .i64 (1 + (x3 : Int)), .int .i64 (1 + (x4 : Int)), .int .i64 (x5 : Int), .slice none 0 0] 26)))
  go_upto_region 2 with fail
  generalize (w5.alloc (.cells #[.int .i64 (1 + (x1 : Int)), .int .i64 (1 + (x2 : Int)), .int .i64 (1 + (x3 : Int)), .int .i64 (1 + (x4 : Int)), .int .i64 (x5 : Int), .slice none 0 0] 26)) = v at FM ⊢
  obtain ⟨MB, hMB⟩ : ∃ X, X = w5.heap.size := ⟨_, rfl⟩
  have KM := hide1 FM.out.1
  rw [← hMB] at KM ⊢
  have hMg : MB ≠ g := by have := DD.out.lt; omega
  have hMR : MB ≠ RB := by have := KR.out.lt; omega
  have lMB : w.heap.size ≤ MB := by have := GG.out.size; omega
  have KR2 := hide1 (KR.out.below FM.out.2 KR.out.lt)
  have DD2 := hide1 (DD.out.later FM.out.2)
  have GG2 := hide1 (gtrans GG.out (gnew FM.out.2))
  clear KR DD GG FM hMB
  have KR := KR2
  have DD := DD2
  have GG := GG2
  clear KR2 DD2 GG2
  have m0 : v.cell? ⟨MB, 0, none⟩ = some (.int .i64 (1 + (x1 : Int))) := KM.out.cell 0
  by_cases c23 : x1 = 1 ∨ x1 = 2
  · have q23 : ((1 + (x1 : Int)) == 2) = true ∨ (((1 + (x1 : Int)) == 2) = false ∧ ((1 + (x1 : Int)) == 3) = true) := by
      rcases c23 with rfl | rfl
      · exact .inl (by simp)
      · exact .inr ⟨by simp, by simp⟩
    clear c23
    rcases q23 with q2 | ⟨q2, q3⟩
    · skip
      go_wp2_with fail
      refine (itemsD_own DD.out).mono ?_
      rintro e9 y1 ⟨l, b, c, rfl, hok, hl5, ho, dd, gg⟩
      have SZ := hide1 (SzI.ok hok)
      have KM1 := hide1 (gblk gg KM.out (fun e => hMg (by injection e with e; exact e.symm)))
      have KR1 := hide1 (gblk gg KR.out (fun e => hRg (by injection e with e; exact e.symm)))
      have NE9 := hide1 (show ∀ q, (Value.slice b l.length c).ownBlock = some q → v.heap.size ≤ q from fun q hq => (ho.lt q hq).1)
      have lMv : MB < v.heap.size := KM.out.lt
      have lRv : RB < v.heap.size := KR.out.lt
      have NE := hide1 (show ∀ q, (Value.slice b l.length c).ownBlock = some q → q ≠ RB from fun q hq => by have := NE9.out q hq; omega)
      have NM := hide1 (show ∀ q, (Value.slice b l.length c).ownBlock = some q → q ≠ MB from fun q hq => by have := NE9.out q hq; omega)
      have f5 : y1.cell? ⟨MB, 5, none⟩ = some (.slice none 0 0) := KM1.out.cell 5
      have ff : y1.frozen? ⟨MB, 5, none⟩ = false := KM1.out.froz 5
      have BS := hide1 ((Below.refl w.heap.size y1).setCell (p := ⟨MB, 5, none⟩) lMB (.slice b l.length c))
      have OW := hide1 (own_far (own_base ho GG.out.size) ⟨MB, 5, none⟩ (.slice b l.length c) NM.out)
      have DDn := hide1 ((show Drw B y1 a len cap g from dd).keep BS.out hBw hglt)
      have GGn := hide1 (gtop (gtrans GG.out gg) BS.out)
      have KRn := hide1 (Blk.far KR1.out ⟨MB, 5, none⟩ (.slice b l.length c) hMR.symm)
      have KMn := hide1 (Blk.set KM1.out 5 (.slice b l.length c))
      clear KM KR DD GG KM1 KR1 hok ho dd gg m0
      go_upto_region 8 with fail
      generalize (y1.setCell ⟨MB, 5, none⟩ (.slice b l.length c)) = y2 at OW DDn GGn KRn KMn ⊢
      have KM := KMn
      have KR := KRn
      have DD := DDn
      have GG := GGn
      clear KMn KRn DDn GGn f5 ff
      have z0 : y2.cell? ⟨RB, 0, none⟩ = some (.int .i64 0) := KR.out.cell 0
      have z1 : y2.cell? ⟨RB, 1, none⟩ = some (.int .i64 0) := KR.out.cell 1
      have z2 : y2.cell? ⟨RB, 2, none⟩ = some (.int .i64 0) := KR.out.cell 2
      have z3 : y2.cell? ⟨RB, 3, none⟩ = some (.int .i64 0) := KR.out.cell 3
      have z4 : y2.cell? ⟨RB, 4, none⟩ = some (.int .i64 0) := KR.out.cell 4
      have z5 : y2.cell? ⟨RB, 5, none⟩ = some (.slice none 0 0) := KR.out.cell 5
      have zf : ∀ j, y2.frozen? ⟨RB, j, none⟩ = false := fun j => KR.out.froz j
      have c0 : y2.cell? ⟨MB, 0, none⟩ = some (.int .i64 (1 + (x1 : Int))) := KM.out.cell 0
      have c1 : y2.cell? ⟨MB, 1, none⟩ = some (.int .i64 (1 + (x2 : Int))) := KM.out.cell 1
      have c2 : y2.cell? ⟨MB, 2, none⟩ = some (.int .i64 (1 + (x3 : Int))) := KM.out.cell 2
      have c3 : y2.cell? ⟨MB, 3, none⟩ = some (.int .i64 (1 + (x4 : Int))) := KM.out.cell 3
      have c4 : y2.cell? ⟨MB, 4, none⟩ = some (.int .i64 (x5 : Int)) := KM.out.cell 4
      have c5 : y2.cell? ⟨MB, 5, none⟩ = some (.slice b l.length c) := KM.out.cell 5
      go_wp2
      refine bodyPost_ret (results_cell_row Tryd.results50 _ _ RB 26 #[.int .i64 (1 + (x1 : Int)), .int .i64 (1 + (x2 : Int)), .int .i64 (1 + (x3 : Int)), .int .i64 (1 + (x4 : Int)), .int .i64 (x5 : Int), .slice b l.length c] (0, 0) _ rfl (Blk.set (Blk.set (Blk.set (Blk.set (Blk.set (Blk.set KR.out 0 (.int .i64 (1 + (x1 : Int)))) 1 (.int .i64 (1 + (x2 : Int)))) 2 (.int .i64 (1 + (x3 : Int)))) 3 (.int .i64 (1 + (x4 : Int)))) 4 (.int .i64 (x5 : Int))) 5 (.slice b l.length c)) Tryd.underlying26 rfl (by kernel_rfl)) rfl ?_
      exact ⟨⟨_, _, _, _, _, l, b, c, rfl, SZ.out, by omega, (own_far (own_far (own_far (own_far (own_far (own_far OW.out ⟨RB, 0, none⟩ _ NE.out) ⟨RB, 1, none⟩ _ NE.out) ⟨RB, 2, none⟩ _ NE.out) ⟨RB, 3, none⟩ _ NE.out) ⟨RB, 4, none⟩ _ NE.out) ⟨RB, 5, none⟩ _ NE.out)⟩, DD.out.keep (((((((Below.refl w.heap.size y2).setCell (p := ⟨RB, 0, none⟩) lRB _).setCell (p := ⟨RB, 1, none⟩) lRB _).setCell (p := ⟨RB, 2, none⟩) lRB _).setCell (p := ⟨RB, 3, none⟩) lRB _).setCell (p := ⟨RB, 4, none⟩) lRB _).setCell (p := ⟨RB, 5, none⟩) lRB _) hBw hglt, gtop GG.out (((((((Below.refl w.heap.size y2).setCell (p := ⟨RB, 0, none⟩) lRB _).setCell (p := ⟨RB, 1, none⟩) lRB _).setCell (p := ⟨RB, 2, none⟩) lRB _).setCell (p := ⟨RB, 3, none⟩) lRB _).setCell (p := ⟨RB, 4, none⟩) lRB _).setCell (p := ⟨RB, 5, none⟩) lRB _)⟩
    · skip
      go_wp2_with fail
      refine (itemsD_own DD.out).mono ?_
      rintro e9 y1 ⟨l, b, c, rfl, hok, hl5, ho, dd, gg⟩
      have SZ := hide1 (SzI.ok hok)
      have KM1 := hide1 (gblk gg KM.out (fun e => hMg (by injection e with e; exact e.symm)))
      have KR1 := hide1 (gblk gg KR.out (fun e => hRg (by injection e with e; exact e.symm)))
      have NE9 := hide1 (show ∀ q, (Value.slice b l.length c).ownBlock = some q → v.heap.size ≤ q from fun q hq => (ho.lt q hq).1)
      have lMv : MB < v.heap.size := KM.out.lt
      have lRv : RB < v.heap.size := KR.out.lt
      have NE := hide1 (show ∀ q, (Value.slice b l.length c).ownBlock = some q → q ≠ RB from fun q hq => by have := NE9.out q hq; omega)
      have NM := hide1 (show ∀ q, (Value.slice b l.length c).ownBlock = some q → q ≠ MB from fun q hq => by have := NE9.out q hq; omega)
      have f5 : y1.cell? ⟨MB, 5, none⟩ = some (.slice none 0 0) := KM1.out.cell 5
      have ff : y1.frozen? ⟨MB, 5, none⟩ = false := KM1.out.froz 5
      have BS := hide1 ((Below.refl w.heap.size y1).setCell (p := ⟨MB, 5, none⟩) lMB (.slice b l.length c))
      have OW := hide1 (own_far (own_base ho GG.out.size) ⟨MB, 5, none⟩ (.slice b l.length c) NM.out)
      have DDn := hide1 ((show Drw B y1 a len cap g from dd).keep BS.out hBw hglt)
      have GGn := hide1 (gtop (gtrans GG.out gg) BS.out)
      have KRn := hide1 (Blk.far KR1.out ⟨MB, 5, none⟩ (.slice b l.length c) hMR.symm)
      have KMn := hide1 (Blk.set KM1.out 5 (.slice b l.length c))
      clear KM KR DD GG KM1 KR1 hok ho dd gg m0
      go_upto_region 8 with fail
      generalize (y1.setCell ⟨MB, 5, none⟩ (.slice b l.length c)) = y2 at OW DDn GGn KRn KMn ⊢
      have KM := KMn
      have KR := KRn
      have DD := DDn
      have GG := GGn
      clear KMn KRn DDn GGn f5 ff
      have z0 : y2.cell? ⟨RB, 0, none⟩ = some (.int .i64 0) := KR.out.cell 0
      have z1 : y2.cell? ⟨RB, 1, none⟩ = some (.int .i64 0) := KR.out.cell 1
      have z2 : y2.cell? ⟨RB, 2, none⟩ = some (.int .i64 0) := KR.out.cell 2
      have z3 : y2.cell? ⟨RB, 3, none⟩ = some (.int .i64 0) := KR.out.cell 3
      have z4 : y2.cell? ⟨RB, 4, none⟩ = some (.int .i64 0) := KR.out.cell 4
      have z5 : y2.cell? ⟨RB, 5, none⟩ = some (.slice none 0 0) := KR.out.cell 5
      have zf : ∀ j, y2.frozen? ⟨RB, j, none⟩ = false := fun j => KR.out.froz j
      have c0 : y2.cell? ⟨MB, 0, none⟩ = some (.int .i64 (1 + (x1 : Int))) := KM.out.cell 0
      have c1 : y2.cell? ⟨MB, 1, none⟩ = some (.int .i64 (1 + (x2 : Int))) := KM.out.cell 1
      have c2 : y2.cell? ⟨MB, 2, none⟩ = some (.int .i64 (1 + (x3 : Int))) := KM.out.cell 2
      have c3 : y2.cell? ⟨MB, 3, none⟩ = some (.int .i64 (1 + (x4 : Int))) := KM.out.cell 3
      have c4 : y2.cell? ⟨MB, 4, none⟩ = some (.int .i64 (x5 : Int)) := KM.out.cell 4
      have c5 : y2.cell? ⟨MB, 5, none⟩ = some (.slice b l.length c) := KM.out.cell 5
      go_wp2
      refine bodyPost_ret (results_cell_row Tryd.results50 _ _ RB 26 #[.int .i64 (1 + (x1 : Int)), .int .i64 (1 + (x2 : Int)), .int .i64 (1 + (x3 : Int)), .int .i64 (1 + (x4 : Int)), .int .i64 (x5 : Int), .slice b l.length c] (0, 0) _ rfl (Blk.set (Blk.set (Blk.set (Blk.set (Blk.set (Blk.set KR.out 0 (.int .i64 (1 + (x1 : Int)))) 1 (.int .i64 (1 + (x2 : Int)))) 2 (.int .i64 (1 + (x3 : Int)))) 3 (.int .i64 (1 + (x4 : Int)))) 4 (.int .i64 (x5 : Int))) 5 (.slice b l.length c)) Tryd.underlying26 rfl (by kernel_rfl)) rfl ?_
      exact ⟨⟨_, _, _, _, _, l, b, c, rfl, SZ.out, by omega, (own_far (own_far (own_far (own_far (own_far (own_far OW.out ⟨RB, 0, none⟩ _ NE.out) ⟨RB, 1, none⟩ _ NE.out) ⟨RB, 2, none⟩ _ NE.out) ⟨RB, 3, none⟩ _ NE.out) ⟨RB, 4, none⟩ _ NE.out) ⟨RB, 5, none⟩ _ NE.out)⟩, DD.out.keep (((((((Below.refl w.heap.size y2).setCell (p := ⟨RB, 0, none⟩) lRB _).setCell (p := ⟨RB, 1, none⟩) lRB _).setCell (p := ⟨RB, 2, none⟩) lRB _).setCell (p := ⟨RB, 3, none⟩) lRB _).setCell (p := ⟨RB, 4, none⟩) lRB _).setCell (p := ⟨RB, 5, none⟩) lRB _) hBw hglt, gtop GG.out (((((((Below.refl w.heap.size y2).setCell (p := ⟨RB, 0, none⟩) lRB _).setCell (p := ⟨RB, 1, none⟩) lRB _).setCell (p := ⟨RB, 2, none⟩) lRB _).setCell (p := ⟨RB, 3, none⟩) lRB _).setCell (p := ⟨RB, 4, none⟩) lRB _).setCell (p := ⟨RB, 5, none⟩) lRB _)⟩
  have q2 : ((1 + (x1 : Int)) == 2) = false := by rw [beq_eq_false_iff_ne]; omega
  have q3 : ((1 + (x1 : Int)) == 3) = false := by rw [beq_eq_false_iff_ne]; omega
  by_cases c5 : x1 = 4
  · have q5 : ((1 + (x1 : Int)) == 5) = true := by rw [c5]; simp
    clear c5 c23
    go_wp2_with fail
    refine (itemD_any DD.out).mono ?_
    rintro e9 y1 ⟨x, rfl, hx, dd, gg⟩
    have SZ := hide1 (show SzI [x] from fun y hy => by rw [List.mem_singleton.1 hy]; exact ⟨by have := hx.1.2; omega, by have := hx.2.1; omega⟩)
    have KM1 := hide1 (gblk gg KM.out (fun e => hMg (by injection e with e; exact e.symm)))
    have KR1 := hide1 (gblk gg KR.out (fun e => hRg (by injection e with e; exact e.symm)))
    have NE9 := hide1 (show ∀ q, (Value.slice (some ⟨y1.heap.size, 0, none⟩) 1 1).ownBlock = some q → y1.heap.size ≤ q from fun q hq => by injection hq with hq; rw [← hq]; exact Nat.le_refl _)
    have lMv : MB < y1.heap.size := KM1.out.lt
    have lRv : RB < y1.heap.size := KR1.out.lt
    have NE := hide1 (show ∀ q, (Value.slice (some ⟨y1.heap.size, 0, none⟩) 1 1).ownBlock = some q → q ≠ RB from fun q hq => by have := NE9.out q hq; omega)
    have lwy : w.heap.size ≤ y1.heap.size := Nat.le_trans GG.out.size gg.size
    have f5 : y1.cell? ⟨MB, 5, none⟩ = some (.slice none 0 0) := KM1.out.cell 5
    have ff : y1.frozen? ⟨MB, 5, none⟩ = false := KM1.out.froz 5
    have hsz : (y1.setCell ⟨MB, 5, none⟩ (.slice (some ⟨y1.heap.size, 0, none⟩) 1 1)).heap.size = y1.heap.size := World.size_setCell _ _ _
    have BS := hide1 ((Below.refl w.heap.size y1).setCell (p := ⟨MB, 5, none⟩) lMB (.slice (some ⟨y1.heap.size, 0, none⟩) 1 1))
    have DS := hide1 ((show Drw B y1 a len cap g from dd).keep BS.out hBw hglt)
    have GS := hide1 (gtop (gtrans GG.out gg) BS.out)
    have KRs := hide1 (Blk.far KR1.out ⟨MB, 5, none⟩ (.slice (some ⟨y1.heap.size, 0, none⟩) 1 1) hMR.symm)
    have KMs := hide1 (Blk.set KM1.out 5 (.slice (some ⟨y1.heap.size, 0, none⟩) 1 1))
    have FL := hide1 (And.intro (Blk.new (y1.setCell ⟨MB, 5, none⟩ (.slice (some ⟨y1.heap.size, 0, none⟩) 1 1)) 51 #[.string x.k, .string x.v, .int .i64 x.n]) ((Below.refl _ (y1.setCell ⟨MB, 5, none⟩ (.slice (some ⟨y1.heap.size, 0, none⟩) 1 1))).alloc (Nat.le_refl _) (.cells #[.string x.k, .string x.v, .int .i64 x.n] 51)))
    have DDn := hide1 (DS.out.later FL.out.2)
    have GGn := hide1 (gtrans GS.out (gnew FL.out.2))
    have KRn := hide1 (KRs.out.below FL.out.2 KRs.out.lt)
    have KMn := hide1 (KMs.out.below FL.out.2 KMs.out.lt)
    have FL1 := hide1 FL.out.1
    rw [hsz] at FL1
    have OW := hide1 (show ((y1.setCell ⟨MB, 5, none⟩ (.slice (some ⟨y1.heap.size, 0, none⟩) 1 1)).alloc (.cells #[.string x.k, .string x.v, .int .i64 x.n] 51)).ownsRow w.heap.size 51 3 (.slice (some ⟨y1.heap.size, 0, none⟩) 1 1) 1 (rowG imC [x]) from ⟨rfl, .inr ⟨y1.heap.size, 1, _, rfl, lwy, FL1.out, Nat.le_refl _, by unfold maxLen; omega, rfl, rfl⟩⟩)
    clear KM KR DD GG KM1 KR1 hx dd gg m0 hsz BS DS GS KRs KMs FL FL1
    go_upto_region 8 with fail
    generalize ((y1.setCell ⟨MB, 5, none⟩ (.slice (some ⟨y1.heap.size, 0, none⟩) 1 1)).alloc (.cells #[.string x.k, .string x.v, .int .i64 x.n] 51)) = y3 at OW DDn GGn KRn KMn ⊢
    have KM := KMn
    have KR := KRn
    have DD := DDn
    have GG := GGn
    clear KMn KRn DDn GGn f5 ff
    generalize y1.heap.size = Q9 at *
    have z0 : y3.cell? ⟨RB, 0, none⟩ = some (.int .i64 0) := KR.out.cell 0
    have z1 : y3.cell? ⟨RB, 1, none⟩ = some (.int .i64 0) := KR.out.cell 1
    have z2 : y3.cell? ⟨RB, 2, none⟩ = some (.int .i64 0) := KR.out.cell 2
    have z3 : y3.cell? ⟨RB, 3, none⟩ = some (.int .i64 0) := KR.out.cell 3
    have z4 : y3.cell? ⟨RB, 4, none⟩ = some (.int .i64 0) := KR.out.cell 4
    have z5 : y3.cell? ⟨RB, 5, none⟩ = some (.slice none 0 0) := KR.out.cell 5
    have zf : ∀ j, y3.frozen? ⟨RB, j, none⟩ = false := fun j => KR.out.froz j
    have c0 : y3.cell? ⟨MB, 0, none⟩ = some (.int .i64 (1 + (x1 : Int))) := KM.out.cell 0
    have c1 : y3.cell? ⟨MB, 1, none⟩ = some (.int .i64 (1 + (x2 : Int))) := KM.out.cell 1
    have c2 : y3.cell? ⟨MB, 2, none⟩ = some (.int .i64 (1 + (x3 : Int))) := KM.out.cell 2
    have c3 : y3.cell? ⟨MB, 3, none⟩ = some (.int .i64 (1 + (x4 : Int))) := KM.out.cell 3
    have c4 : y3.cell? ⟨MB, 4, none⟩ = some (.int .i64 (x5 : Int)) := KM.out.cell 4
    have c5 : y3.cell? ⟨MB, 5, none⟩ = some (.slice (some ⟨Q9, 0, none⟩) 1 1) := KM.out.cell 5
    go_wp2
    refine bodyPost_ret (results_cell_row Tryd.results50 _ _ RB 26 #[.int .i64 (1 + (x1 : Int)), .int .i64 (1 + (x2 : Int)), .int .i64 (1 + (x3 : Int)), .int .i64 (1 + (x4 : Int)), .int .i64 (x5 : Int), .slice (some ⟨Q9, 0, none⟩) 1 1] (0, 0) _ rfl (Blk.set (Blk.set (Blk.set (Blk.set (Blk.set (Blk.set KR.out 0 (.int .i64 (1 + (x1 : Int)))) 1 (.int .i64 (1 + (x2 : Int)))) 2 (.int .i64 (1 + (x3 : Int)))) 3 (.int .i64 (1 + (x4 : Int)))) 4 (.int .i64 (x5 : Int))) 5 (.slice (some ⟨Q9, 0, none⟩) 1 1)) Tryd.underlying26 rfl (by kernel_rfl)) rfl ?_
    exact ⟨⟨_, _, _, _, _, [x], some ⟨Q9, 0, none⟩, 1, rfl, SZ.out, by show 1 ≤ 20; omega, (own_far (own_far (own_far (own_far (own_far (own_far OW.out ⟨RB, 0, none⟩ _ NE.out) ⟨RB, 1, none⟩ _ NE.out) ⟨RB, 2, none⟩ _ NE.out) ⟨RB, 3, none⟩ _ NE.out) ⟨RB, 4, none⟩ _ NE.out) ⟨RB, 5, none⟩ _ NE.out)⟩, DD.out.keep (((((((Below.refl w.heap.size y3).setCell (p := ⟨RB, 0, none⟩) lRB _).setCell (p := ⟨RB, 1, none⟩) lRB _).setCell (p := ⟨RB, 2, none⟩) lRB _).setCell (p := ⟨RB, 3, none⟩) lRB _).setCell (p := ⟨RB, 4, none⟩) lRB _).setCell (p := ⟨RB, 5, none⟩) lRB _) hBw hglt, gtop GG.out (((((((Below.refl w.heap.size y3).setCell (p := ⟨RB, 0, none⟩) lRB _).setCell (p := ⟨RB, 1, none⟩) lRB _).setCell (p := ⟨RB, 2, none⟩) lRB _).setCell (p := ⟨RB, 3, none⟩) lRB _).setCell (p := ⟨RB, 4, none⟩) lRB _).setCell (p := ⟨RB, 5, none⟩) lRB _)⟩
  · have q5 : ((1 + (x1 : Int)) == 5) = false := by rw [beq_eq_false_iff_ne]; omega
    clear c5 c23
    have NE := hide1 (show ∀ q, (Value.slice none 0 0).ownBlock = some q → q ≠ RB from fun q hq => by cases hq)
    have OW := hide1 (show v.ownsRow w.heap.size 51 3 (.slice none 0 0) 0 (rowG imC ([] : List Im)) from World.ownsRow_nil _ _ _ _)
    have z0 : v.cell? ⟨RB, 0, none⟩ = some (.int .i64 0) := KR.out.cell 0
    have z1 : v.cell? ⟨RB, 1, none⟩ = some (.int .i64 0) := KR.out.cell 1
    have z2 : v.cell? ⟨RB, 2, none⟩ = some (.int .i64 0) := KR.out.cell 2
    have z3 : v.cell? ⟨RB, 3, none⟩ = some (.int .i64 0) := KR.out.cell 3
    have z4 : v.cell? ⟨RB, 4, none⟩ = some (.int .i64 0) := KR.out.cell 4
    have z5 : v.cell? ⟨RB, 5, none⟩ = some (.slice none 0 0) := KR.out.cell 5
    have zf : ∀ j, v.frozen? ⟨RB, j, none⟩ = false := fun j => KR.out.froz j
    have c0 : v.cell? ⟨MB, 0, none⟩ = some (.int .i64 (1 + (x1 : Int))) := KM.out.cell 0
    have c1 : v.cell? ⟨MB, 1, none⟩ = some (.int .i64 (1 + (x2 : Int))) := KM.out.cell 1
    have c2 : v.cell? ⟨MB, 2, none⟩ = some (.int .i64 (1 + (x3 : Int))) := KM.out.cell 2
    have c3 : v.cell? ⟨MB, 3, none⟩ = some (.int .i64 (1 + (x4 : Int))) := KM.out.cell 3
    have c4 : v.cell? ⟨MB, 4, none⟩ = some (.int .i64 (x5 : Int)) := KM.out.cell 4
    have c5 : v.cell? ⟨MB, 5, none⟩ = some (.slice none 0 0) := KM.out.cell 5
    go_wp2
    refine bodyPost_ret (results_cell_row Tryd.results50 _ _ RB 26 #[.int .i64 (1 + (x1 : Int)), .int .i64 (1 + (x2 : Int)), .int .i64 (1 + (x3 : Int)), .int .i64 (1 + (x4 : Int)), .int .i64 (x5 : Int), .slice none 0 0] (0, 0) _ rfl (Blk.set (Blk.set (Blk.set (Blk.set (Blk.set (Blk.set KR.out 0 (.int .i64 (1 + (x1 : Int)))) 1 (.int .i64 (1 + (x2 : Int)))) 2 (.int .i64 (1 + (x3 : Int)))) 3 (.int .i64 (1 + (x4 : Int)))) 4 (.int .i64 (x5 : Int))) 5 (.slice none 0 0)) Tryd.underlying26 rfl (by kernel_rfl)) rfl ?_
    exact ⟨⟨_, _, _, _, _, [], none, 0, rfl, fun x hx => by simp at hx, Nat.zero_le _, (own_far (own_far (own_far (own_far (own_far (own_far OW.out ⟨RB, 0, none⟩ _ NE.out) ⟨RB, 1, none⟩ _ NE.out) ⟨RB, 2, none⟩ _ NE.out) ⟨RB, 3, none⟩ _ NE.out) ⟨RB, 4, none⟩ _ NE.out) ⟨RB, 5, none⟩ _ NE.out)⟩, DD.out.keep (((((((Below.refl w.heap.size v).setCell (p := ⟨RB, 0, none⟩) lRB _).setCell (p := ⟨RB, 1, none⟩) lRB _).setCell (p := ⟨RB, 2, none⟩) lRB _).setCell (p := ⟨RB, 3, none⟩) lRB _).setCell (p := ⟨RB, 4, none⟩) lRB _).setCell (p := ⟨RB, 5, none⟩) lRB _) hBw hglt, gtop GG.out (((((((Below.refl w.heap.size v).setCell (p := ⟨RB, 0, none⟩) lRB _).setCell (p := ⟨RB, 1, none⟩) lRB _).setCell (p := ⟨RB, 2, none⟩) lRB _).setCell (p := ⟨RB, 3, none⟩) lRB _).setCell (p := ⟨RB, 4, none⟩) lRB _).setCell (p := ⟨RB, 5, none⟩) lRB _)⟩
set_option maxRecDepth 100000 in
set_option maxHeartbeats 4000000 in
theorem anyMsg_any {B : Nat} {w : World} {a : Option Addr} {len cap g : Nat} (h : Drw B w a len cap g) :
    Calls Tryd.prog 22 #[.pointer (some ⟨g, 0, none⟩)] w fun r w' => MsgD w w' r ∧ Drw B w' a len cap g ∧ w.grownBy w' (some g) := by
  have hglt := h.lt
  have hBw : B ≤ w.heap.size := h.base
  have F0 := hide1 (And.intro (Blk.new w 26 #[.int .i64 0, .int .i64 0, .int .i64 0, .int .i64 0, .int .i64 0, .slice none 0 0]) ((Below.refl w.heap.size w).alloc (Nat.le_refl _) (.cells #[.int .i64 0, .int .i64 0, .int .i64 0, .int .i64 0, .int .i64 0, .slice none 0 0] 26)))
  have DH := hide1 h
  clear h
  go_enter Tryd.func22, Tryd.ntmps22
  go_upto_region 1 with fail
  generalize (w.alloc (.cells #[.int .i64 0, .int .i64 0, .int .i64 0, .int .i64 0, .int .i64 0, .slice none 0 0] 26)) = u at F0 ⊢
  obtain ⟨RB, hRB⟩ : ∃ X, X = w.heap.size := ⟨_, rfl⟩
  have KR := hide1 F0.out.1
  rw [← hRB] at KR ⊢
  have hRg : RB ≠ g := by omega
  have lRB : w.heap.size ≤ RB := by omega
  have DD := hide1 (DH.out.later F0.out.2)
  have GG := hide1 (show w.grownBy u (some g) from gnew F0.out.2)
  clear F0 hRB DH
  have lRu : RB < u.heap.size := KR.out.lt
  have lwu : w.heap.size ≤ u.heap.size := GG.out.size
  go_wp2_with fail
  refine (msgD_any DD.out).mono ?_
  rintro e9 w1 ⟨⟨k, f, o, e, n, l, b, c, rfl, hsz, hl20, ho⟩, dd, gg⟩
  have SZ := hide1 hsz
  have NE := hide1 (show ∀ q, (Value.slice b l.length c).ownBlock = some q → q ≠ RB from fun q hq => by have := (ho.lt q hq).1; omega)
  have NG := hide1 (show ∀ q, (Value.slice b l.length c).ownBlock = some q → q ≠ g from fun q hq => by have := (ho.lt q hq).1; omega)
  have NL := hide1 (show ∀ q, (Value.slice b l.length c).ownBlock = some q → q < w1.heap.size from fun q hq => (ho.lt q hq).2)
  have OW := hide1 (own_base ho lwu)
  have KR2 := hide1 (gblk gg KR.out (fun e => hRg (by injection e with e; exact e.symm)))
  have GG2 := hide1 (gtrans GG.out gg)
  have DD2 := hide1 dd
  clear KR GG DD dd gg ho hsz
  have FM := hide1 (And.intro (Blk.new w1 26 #[.int .i64 k, .int .i64 f, .int .i64 o, .int .i64 e, .int .i64 n, .slice b l.length c]) ((Below.refl w1.heap.size w1).alloc (Nat.le_refl _) (.cells #[.int .i64 k, .int .i64 f, .int .i64 o, .int .i64 e, .int .i64 n, .slice b l.length c] 26)))
  go_upto_region 2 with fail
  generalize (w1.alloc (.cells #[.int .i64 k, .int .i64 f, .int .i64 o, .int .i64 e, .int .i64 n, .slice b l.length c] 26)) = v at FM ⊢
  obtain ⟨MB, hMB⟩ : ∃ X, X = w1.heap.size := ⟨_, rfl⟩
  have KM := hide1 FM.out.1
  rw [← hMB] at KM ⊢
  have hMg : MB ≠ g := by have := DD2.out.lt; omega
  have hMR : MB ≠ RB := by have := KR2.out.lt; omega
  have lMB : w.heap.size ≤ MB := by have := GG2.out.size; omega
  have NM := hide1 (show ∀ q, (Value.slice b l.length c).ownBlock = some q → q ≠ MB from fun q hq => by have := NL.out q hq; omega)
  have KR := hide1 (KR2.out.below FM.out.2 KR2.out.lt)
  have DD := hide1 (DD2.out.later FM.out.2)
  have GG := hide1 (gtrans GG2.out (gnew FM.out.2))
  have OW2 := hide1 (own_kept OW.out FM.out.2)
  clear KR2 DD2 GG2 FM hMB OW NL
  go_wp2_with fail
  refine (below_any DD.out 20 (by omega)).mono ?_
  rintro e9 w2 ⟨z, rfl, hz, _, dd, gg⟩
  have hz2 : z < 20 := by have := hz (by omega); omega
  have KM2 := hide1 (gblk gg KM.out (fun e => hMg (by injection e with e; exact e.symm)))
  have KR2 := hide1 (gblk gg KR.out (fun e => hRg (by injection e with e; exact e.symm)))
  have GG2 := hide1 (gtrans GG.out gg)
  have DD2 := hide1 dd
  have OW3 := hide1 (gown gg OW2.out (fun q hq x => by injection x with x; exact NG.out q hq x.symm))
  clear KM KR GG DD dd gg hz OW2
  have KM := KM2
  have KR := KR2
  have GG := GG2
  have DD := DD2
  have OW := OW3
  clear KM2 KR2 GG2 DD2 OW3
  have lw2 : w.heap.size ≤ w2.heap.size := GG.out.size
  have lg2 : g < w2.heap.size := DD.out.lt
  by_cases c0 : z = 0
  · subst c0
    have FP := hide1 (And.intro (Blk.new w2 3 #[.int .i64 0, .int .i64 1, .int .i64 2, .int .i64 5, .int .i64 9]) ((Below.refl w2.heap.size w2).alloc (Nat.le_refl _) (.cells #[.int .i64 0, .int .i64 1, .int .i64 2, .int .i64 5, .int .i64 9] 3)))
    have D3 := hide1 (DD.out.later FP.out.2)
    have O3 := hide1 (own_kept OW.out FP.out.2)
    have G3 := hide1 (gtrans GG.out (gnew FP.out.2))
    have K3 := hide1 (KM.out.below FP.out.2 KM.out.lt)
    have R3 := hide1 (KR.out.below FP.out.2 KR.out.lt)
    have CP := hide1 (pickInt_any D3.out w2.heap.size 5 5 (by omega) (by omega) (by omega) (fun j => ([0, 1, 2, 5, 9] : List Int).getD j 0) (fun j hj => by
      match j, hj with
      | 0, _ => exact FP.out.1.cell 0
      | 1, _ => exact FP.out.1.cell 1
      | 2, _ => exact FP.out.1.cell 2
      | 3, _ => exact FP.out.1.cell 3
      | 4, _ => exact FP.out.1.cell 4) FP.out.1.lt)
    clear KM KR GG DD OW FP
    go_wp2_with fail
    refine CP.out.mono ?_
    rintro e9 w3 ⟨jj, rfl, dd, gg⟩
    have KM4 := hide1 (gblk gg K3.out (fun e => hMg (by injection e with e; exact e.symm)))
    have KR4 := hide1 (gblk gg R3.out (fun e => hRg (by injection e with e; exact e.symm)))
    have GG4 := hide1 (gtrans G3.out gg)
    have OW4 := hide1 (gown gg O3.out (fun q hq x => by injection x with x; exact NG.out q hq x.symm))
    generalize ([0, 1, 2, 5, 9] : List Int).getD jj 0 = y at *
    have f5 : w3.cell? ⟨MB, 0, none⟩ = some (.int .i64 k) := KM4.out.cell 0
    have ff : w3.frozen? ⟨MB, 0, none⟩ = false := KM4.out.froz 0
    have BS := hide1 ((Below.refl w.heap.size w3).setCell (p := ⟨MB, 0, none⟩) lMB (.int .i64 y))
    have OW := hide1 (own_far OW4.out ⟨MB, 0, none⟩ (.int .i64 y) NM.out)
    have DD := hide1 ((show Drw B w3 a len cap g from dd).keep BS.out hBw hglt)
    have GG := hide1 (gtop GG4.out BS.out)
    have KR := hide1 (Blk.far KR4.out ⟨MB, 0, none⟩ (.int .i64 y) hMR.symm)
    have KM := hide1 (Blk.set KM4.out 0 (.int .i64 y))
    clear KM4 KR4 GG4 OW4 dd gg CP K3 R3 G3 O3 D3
    go_upto_region 13 with fail
    generalize (w3.setCell ⟨MB, 0, none⟩ (.int .i64 y)) = y2 at OW DD GG KR KM ⊢
    clear f5 ff BS
    have z0 : y2.cell? ⟨RB, 0, none⟩ = some (.int .i64 0) := KR.out.cell 0
    have z1 : y2.cell? ⟨RB, 1, none⟩ = some (.int .i64 0) := KR.out.cell 1
    have z2 : y2.cell? ⟨RB, 2, none⟩ = some (.int .i64 0) := KR.out.cell 2
    have z3 : y2.cell? ⟨RB, 3, none⟩ = some (.int .i64 0) := KR.out.cell 3
    have z4 : y2.cell? ⟨RB, 4, none⟩ = some (.int .i64 0) := KR.out.cell 4
    have z5 : y2.cell? ⟨RB, 5, none⟩ = some (.slice none 0 0) := KR.out.cell 5
    have zf : ∀ j, y2.frozen? ⟨RB, j, none⟩ = false := fun j => KR.out.froz j
    have c0 : y2.cell? ⟨MB, 0, none⟩ = some (.int .i64 y) := KM.out.cell 0
    have c1 : y2.cell? ⟨MB, 1, none⟩ = some (.int .i64 f) := KM.out.cell 1
    have c2 : y2.cell? ⟨MB, 2, none⟩ = some (.int .i64 o) := KM.out.cell 2
    have c3 : y2.cell? ⟨MB, 3, none⟩ = some (.int .i64 e) := KM.out.cell 3
    have c4 : y2.cell? ⟨MB, 4, none⟩ = some (.int .i64 n) := KM.out.cell 4
    have c5 : y2.cell? ⟨MB, 5, none⟩ = some (.slice b l.length c) := KM.out.cell 5
    go_wp2
    refine bodyPost_ret (results_cell_row Tryd.results22 _ _ RB 26 #[.int .i64 y, .int .i64 f, .int .i64 o, .int .i64 e, .int .i64 n, .slice b l.length c] (0, 0) _ rfl (Blk.set (Blk.set (Blk.set (Blk.set (Blk.set (Blk.set KR.out 0 (.int .i64 y)) 1 (.int .i64 f)) 2 (.int .i64 o)) 3 (.int .i64 e)) 4 (.int .i64 n)) 5 (.slice b l.length c)) Tryd.underlying26 rfl (by kernel_rfl)) rfl ?_
    exact ⟨⟨_, _, _, _, _, l, b, c, rfl, SZ.out, hl20, (own_far (own_far (own_far (own_far (own_far (own_far OW.out ⟨RB, 0, none⟩ _ NE.out) ⟨RB, 1, none⟩ _ NE.out) ⟨RB, 2, none⟩ _ NE.out) ⟨RB, 3, none⟩ _ NE.out) ⟨RB, 4, none⟩ _ NE.out) ⟨RB, 5, none⟩ _ NE.out)⟩, DD.out.keep (((((((Below.refl w.heap.size y2).setCell (p := ⟨RB, 0, none⟩) lRB _).setCell (p := ⟨RB, 1, none⟩) lRB _).setCell (p := ⟨RB, 2, none⟩) lRB _).setCell (p := ⟨RB, 3, none⟩) lRB _).setCell (p := ⟨RB, 4, none⟩) lRB _).setCell (p := ⟨RB, 5, none⟩) lRB _) hBw hglt, gtop GG.out (((((((Below.refl w.heap.size y2).setCell (p := ⟨RB, 0, none⟩) lRB _).setCell (p := ⟨RB, 1, none⟩) lRB _).setCell (p := ⟨RB, 2, none⟩) lRB _).setCell (p := ⟨RB, 3, none⟩) lRB _).setCell (p := ⟨RB, 4, none⟩) lRB _).setCell (p := ⟨RB, 5, none⟩) lRB _)⟩
  by_cases c1 : z = 1
  · subst c1
    have FP := hide1 (And.intro (Blk.new w2 3 #[.int .i64 0, .int .i64 6, .int .i64 7]) ((Below.refl w2.heap.size w2).alloc (Nat.le_refl _) (.cells #[.int .i64 0, .int .i64 6, .int .i64 7] 3)))
    have D3 := hide1 (DD.out.later FP.out.2)
    have O3 := hide1 (own_kept OW.out FP.out.2)
    have G3 := hide1 (gtrans GG.out (gnew FP.out.2))
    have K3 := hide1 (KM.out.below FP.out.2 KM.out.lt)
    have R3 := hide1 (KR.out.below FP.out.2 KR.out.lt)
    have CP := hide1 (pickInt_any D3.out w2.heap.size 3 3 (by omega) (by omega) (by omega) (fun j => ([0, 6, 7] : List Int).getD j 0) (fun j hj => by
      match j, hj with
      | 0, _ => exact FP.out.1.cell 0
      | 1, _ => exact FP.out.1.cell 1
      | 2, _ => exact FP.out.1.cell 2) FP.out.1.lt)
    clear KM KR GG DD OW FP
    go_wp2_with fail
    refine CP.out.mono ?_
    rintro e9 w3 ⟨jj, rfl, dd, gg⟩
    have KM4 := hide1 (gblk gg K3.out (fun e => hMg (by injection e with e; exact e.symm)))
    have KR4 := hide1 (gblk gg R3.out (fun e => hRg (by injection e with e; exact e.symm)))
    have GG4 := hide1 (gtrans G3.out gg)
    have OW4 := hide1 (gown gg O3.out (fun q hq x => by injection x with x; exact NG.out q hq x.symm))
    generalize ([0, 6, 7] : List Int).getD jj 0 = y at *
    have f5 : w3.cell? ⟨MB, 1, none⟩ = some (.int .i64 f) := KM4.out.cell 1
    have ff : w3.frozen? ⟨MB, 1, none⟩ = false := KM4.out.froz 1
    have BS := hide1 ((Below.refl w.heap.size w3).setCell (p := ⟨MB, 1, none⟩) lMB (.int .i64 y))
    have OW := hide1 (own_far OW4.out ⟨MB, 1, none⟩ (.int .i64 y) NM.out)
    have DD := hide1 ((show Drw B w3 a len cap g from dd).keep BS.out hBw hglt)
    have GG := hide1 (gtop GG4.out BS.out)
    have KR := hide1 (Blk.far KR4.out ⟨MB, 1, none⟩ (.int .i64 y) hMR.symm)
    have KM := hide1 (Blk.set KM4.out 1 (.int .i64 y))
    clear KM4 KR4 GG4 OW4 dd gg CP K3 R3 G3 O3 D3
    go_upto_region 13 with fail
    generalize (w3.setCell ⟨MB, 1, none⟩ (.int .i64 y)) = y2 at OW DD GG KR KM ⊢
    clear f5 ff BS
    have z0 : y2.cell? ⟨RB, 0, none⟩ = some (.int .i64 0) := KR.out.cell 0
    have z1 : y2.cell? ⟨RB, 1, none⟩ = some (.int .i64 0) := KR.out.cell 1
    have z2 : y2.cell? ⟨RB, 2, none⟩ = some (.int .i64 0) := KR.out.cell 2
    have z3 : y2.cell? ⟨RB, 3, none⟩ = some (.int .i64 0) := KR.out.cell 3
    have z4 : y2.cell? ⟨RB, 4, none⟩ = some (.int .i64 0) := KR.out.cell 4
    have z5 : y2.cell? ⟨RB, 5, none⟩ = some (.slice none 0 0) := KR.out.cell 5
    have zf : ∀ j, y2.frozen? ⟨RB, j, none⟩ = false := fun j => KR.out.froz j
    have c0 : y2.cell? ⟨MB, 0, none⟩ = some (.int .i64 k) := KM.out.cell 0
    have c1 : y2.cell? ⟨MB, 1, none⟩ = some (.int .i64 y) := KM.out.cell 1
    have c2 : y2.cell? ⟨MB, 2, none⟩ = some (.int .i64 o) := KM.out.cell 2
    have c3 : y2.cell? ⟨MB, 3, none⟩ = some (.int .i64 e) := KM.out.cell 3
    have c4 : y2.cell? ⟨MB, 4, none⟩ = some (.int .i64 n) := KM.out.cell 4
    have c5 : y2.cell? ⟨MB, 5, none⟩ = some (.slice b l.length c) := KM.out.cell 5
    go_wp2
    refine bodyPost_ret (results_cell_row Tryd.results22 _ _ RB 26 #[.int .i64 k, .int .i64 y, .int .i64 o, .int .i64 e, .int .i64 n, .slice b l.length c] (0, 0) _ rfl (Blk.set (Blk.set (Blk.set (Blk.set (Blk.set (Blk.set KR.out 0 (.int .i64 k)) 1 (.int .i64 y)) 2 (.int .i64 o)) 3 (.int .i64 e)) 4 (.int .i64 n)) 5 (.slice b l.length c)) Tryd.underlying26 rfl (by kernel_rfl)) rfl ?_
    exact ⟨⟨_, _, _, _, _, l, b, c, rfl, SZ.out, hl20, (own_far (own_far (own_far (own_far (own_far (own_far OW.out ⟨RB, 0, none⟩ _ NE.out) ⟨RB, 1, none⟩ _ NE.out) ⟨RB, 2, none⟩ _ NE.out) ⟨RB, 3, none⟩ _ NE.out) ⟨RB, 4, none⟩ _ NE.out) ⟨RB, 5, none⟩ _ NE.out)⟩, DD.out.keep (((((((Below.refl w.heap.size y2).setCell (p := ⟨RB, 0, none⟩) lRB _).setCell (p := ⟨RB, 1, none⟩) lRB _).setCell (p := ⟨RB, 2, none⟩) lRB _).setCell (p := ⟨RB, 3, none⟩) lRB _).setCell (p := ⟨RB, 4, none⟩) lRB _).setCell (p := ⟨RB, 5, none⟩) lRB _) hBw hglt, gtop GG.out (((((((Below.refl w.heap.size y2).setCell (p := ⟨RB, 0, none⟩) lRB _).setCell (p := ⟨RB, 1, none⟩) lRB _).setCell (p := ⟨RB, 2, none⟩) lRB _).setCell (p := ⟨RB, 3, none⟩) lRB _).setCell (p := ⟨RB, 4, none⟩) lRB _).setCell (p := ⟨RB, 5, none⟩) lRB _)⟩
  by_cases c2 : z = 2
  · subst c2
    have FP := hide1 (And.intro (Blk.new w2 3 #[.int .i64 0, .int .i64 9, .int .i64 10]) ((Below.refl w2.heap.size w2).alloc (Nat.le_refl _) (.cells #[.int .i64 0, .int .i64 9, .int .i64 10] 3)))
    have D3 := hide1 (DD.out.later FP.out.2)
    have O3 := hide1 (own_kept OW.out FP.out.2)
    have G3 := hide1 (gtrans GG.out (gnew FP.out.2))
    have K3 := hide1 (KM.out.below FP.out.2 KM.out.lt)
    have R3 := hide1 (KR.out.below FP.out.2 KR.out.lt)
    have CP := hide1 (pickInt_any D3.out w2.heap.size 3 3 (by omega) (by omega) (by omega) (fun j => ([0, 9, 10] : List Int).getD j 0) (fun j hj => by
      match j, hj with
      | 0, _ => exact FP.out.1.cell 0
      | 1, _ => exact FP.out.1.cell 1
      | 2, _ => exact FP.out.1.cell 2) FP.out.1.lt)
    clear KM KR GG DD OW FP
    go_wp2_with fail
    refine CP.out.mono ?_
    rintro e9 w3 ⟨jj, rfl, dd, gg⟩
    have KM4 := hide1 (gblk gg K3.out (fun e => hMg (by injection e with e; exact e.symm)))
    have KR4 := hide1 (gblk gg R3.out (fun e => hRg (by injection e with e; exact e.symm)))
    have GG4 := hide1 (gtrans G3.out gg)
    have OW4 := hide1 (gown gg O3.out (fun q hq x => by injection x with x; exact NG.out q hq x.symm))
    generalize ([0, 9, 10] : List Int).getD jj 0 = y at *
    have f5 : w3.cell? ⟨MB, 3, none⟩ = some (.int .i64 e) := KM4.out.cell 3
    have ff : w3.frozen? ⟨MB, 3, none⟩ = false := KM4.out.froz 3
    have BS := hide1 ((Below.refl w.heap.size w3).setCell (p := ⟨MB, 3, none⟩) lMB (.int .i64 y))
    have OW := hide1 (own_far OW4.out ⟨MB, 3, none⟩ (.int .i64 y) NM.out)
    have DD := hide1 ((show Drw B w3 a len cap g from dd).keep BS.out hBw hglt)
    have GG := hide1 (gtop GG4.out BS.out)
    have KR := hide1 (Blk.far KR4.out ⟨MB, 3, none⟩ (.int .i64 y) hMR.symm)
    have KM := hide1 (Blk.set KM4.out 3 (.int .i64 y))
    clear KM4 KR4 GG4 OW4 dd gg CP K3 R3 G3 O3 D3
    go_upto_region 13 with fail
    generalize (w3.setCell ⟨MB, 3, none⟩ (.int .i64 y)) = y2 at OW DD GG KR KM ⊢
    clear f5 ff BS
    have z0 : y2.cell? ⟨RB, 0, none⟩ = some (.int .i64 0) := KR.out.cell 0
    have z1 : y2.cell? ⟨RB, 1, none⟩ = some (.int .i64 0) := KR.out.cell 1
    have z2 : y2.cell? ⟨RB, 2, none⟩ = some (.int .i64 0) := KR.out.cell 2
    have z3 : y2.cell? ⟨RB, 3, none⟩ = some (.int .i64 0) := KR.out.cell 3
    have z4 : y2.cell? ⟨RB, 4, none⟩ = some (.int .i64 0) := KR.out.cell 4
    have z5 : y2.cell? ⟨RB, 5, none⟩ = some (.slice none 0 0) := KR.out.cell 5
    have zf : ∀ j, y2.frozen? ⟨RB, j, none⟩ = false := fun j => KR.out.froz j
    have c0 : y2.cell? ⟨MB, 0, none⟩ = some (.int .i64 k) := KM.out.cell 0
    have c1 : y2.cell? ⟨MB, 1, none⟩ = some (.int .i64 f) := KM.out.cell 1
    have c2 : y2.cell? ⟨MB, 2, none⟩ = some (.int .i64 o) := KM.out.cell 2
    have c3 : y2.cell? ⟨MB, 3, none⟩ = some (.int .i64 y) := KM.out.cell 3
    have c4 : y2.cell? ⟨MB, 4, none⟩ = some (.int .i64 n) := KM.out.cell 4
    have c5 : y2.cell? ⟨MB, 5, none⟩ = some (.slice b l.length c) := KM.out.cell 5
    go_wp2
    refine bodyPost_ret (results_cell_row Tryd.results22 _ _ RB 26 #[.int .i64 k, .int .i64 f, .int .i64 o, .int .i64 y, .int .i64 n, .slice b l.length c] (0, 0) _ rfl (Blk.set (Blk.set (Blk.set (Blk.set (Blk.set (Blk.set KR.out 0 (.int .i64 k)) 1 (.int .i64 f)) 2 (.int .i64 o)) 3 (.int .i64 y)) 4 (.int .i64 n)) 5 (.slice b l.length c)) Tryd.underlying26 rfl (by kernel_rfl)) rfl ?_
    exact ⟨⟨_, _, _, _, _, l, b, c, rfl, SZ.out, hl20, (own_far (own_far (own_far (own_far (own_far (own_far OW.out ⟨RB, 0, none⟩ _ NE.out) ⟨RB, 1, none⟩ _ NE.out) ⟨RB, 2, none⟩ _ NE.out) ⟨RB, 3, none⟩ _ NE.out) ⟨RB, 4, none⟩ _ NE.out) ⟨RB, 5, none⟩ _ NE.out)⟩, DD.out.keep (((((((Below.refl w.heap.size y2).setCell (p := ⟨RB, 0, none⟩) lRB _).setCell (p := ⟨RB, 1, none⟩) lRB _).setCell (p := ⟨RB, 2, none⟩) lRB _).setCell (p := ⟨RB, 3, none⟩) lRB _).setCell (p := ⟨RB, 4, none⟩) lRB _).setCell (p := ⟨RB, 5, none⟩) lRB _) hBw hglt, gtop GG.out (((((((Below.refl w.heap.size y2).setCell (p := ⟨RB, 0, none⟩) lRB _).setCell (p := ⟨RB, 1, none⟩) lRB _).setCell (p := ⟨RB, 2, none⟩) lRB _).setCell (p := ⟨RB, 3, none⟩) lRB _).setCell (p := ⟨RB, 4, none⟩) lRB _).setCell (p := ⟨RB, 5, none⟩) lRB _)⟩
  by_cases c3 : z = 3
  · subst c3
    have FP := hide1 (And.intro (Blk.new w2 3 #[.int .i64 (-1), .int .i64 1000000000, .int .i64 1000000001]) ((Below.refl w2.heap.size w2).alloc (Nat.le_refl _) (.cells #[.int .i64 (-1), .int .i64 1000000000, .int .i64 1000000001] 3)))
    have D3 := hide1 (DD.out.later FP.out.2)
    have O3 := hide1 (own_kept OW.out FP.out.2)
    have G3 := hide1 (gtrans GG.out (gnew FP.out.2))
    have K3 := hide1 (KM.out.below FP.out.2 KM.out.lt)
    have R3 := hide1 (KR.out.below FP.out.2 KR.out.lt)
    have CP := hide1 (pickInt_any D3.out w2.heap.size 3 3 (by omega) (by omega) (by omega) (fun j => ([-1, 1000000000, 1000000001] : List Int).getD j 0) (fun j hj => by
      match j, hj with
      | 0, _ => exact FP.out.1.cell 0
      | 1, _ => exact FP.out.1.cell 1
      | 2, _ => exact FP.out.1.cell 2) FP.out.1.lt)
    clear KM KR GG DD OW FP
    go_wp2_with fail
    refine CP.out.mono ?_
    rintro e9 w3 ⟨jj, rfl, dd, gg⟩
    have KM4 := hide1 (gblk gg K3.out (fun e => hMg (by injection e with e; exact e.symm)))
    have KR4 := hide1 (gblk gg R3.out (fun e => hRg (by injection e with e; exact e.symm)))
    have GG4 := hide1 (gtrans G3.out gg)
    have OW4 := hide1 (gown gg O3.out (fun q hq x => by injection x with x; exact NG.out q hq x.symm))
    generalize ([-1, 1000000000, 1000000001] : List Int).getD jj 0 = y at *
    have f5 : w3.cell? ⟨MB, 4, none⟩ = some (.int .i64 n) := KM4.out.cell 4
    have ff : w3.frozen? ⟨MB, 4, none⟩ = false := KM4.out.froz 4
    have BS := hide1 ((Below.refl w.heap.size w3).setCell (p := ⟨MB, 4, none⟩) lMB (.int .i64 y))
    have OW := hide1 (own_far OW4.out ⟨MB, 4, none⟩ (.int .i64 y) NM.out)
    have DD := hide1 ((show Drw B w3 a len cap g from dd).keep BS.out hBw hglt)
    have GG := hide1 (gtop GG4.out BS.out)
    have KR := hide1 (Blk.far KR4.out ⟨MB, 4, none⟩ (.int .i64 y) hMR.symm)
    have KM := hide1 (Blk.set KM4.out 4 (.int .i64 y))
    clear KM4 KR4 GG4 OW4 dd gg CP K3 R3 G3 O3 D3
    go_upto_region 13 with fail
    generalize (w3.setCell ⟨MB, 4, none⟩ (.int .i64 y)) = y2 at OW DD GG KR KM ⊢
    clear f5 ff BS
    have z0 : y2.cell? ⟨RB, 0, none⟩ = some (.int .i64 0) := KR.out.cell 0
    have z1 : y2.cell? ⟨RB, 1, none⟩ = some (.int .i64 0) := KR.out.cell 1
    have z2 : y2.cell? ⟨RB, 2, none⟩ = some (.int .i64 0) := KR.out.cell 2
    have z3 : y2.cell? ⟨RB, 3, none⟩ = some (.int .i64 0) := KR.out.cell 3
    have z4 : y2.cell? ⟨RB, 4, none⟩ = some (.int .i64 0) := KR.out.cell 4
    have z5 : y2.cell? ⟨RB, 5, none⟩ = some (.slice none 0 0) := KR.out.cell 5
    have zf : ∀ j, y2.frozen? ⟨RB, j, none⟩ = false := fun j => KR.out.froz j
    have c0 : y2.cell? ⟨MB, 0, none⟩ = some (.int .i64 k) := KM.out.cell 0
    have c1 : y2.cell? ⟨MB, 1, none⟩ = some (.int .i64 f) := KM.out.cell 1
    have c2 : y2.cell? ⟨MB, 2, none⟩ = some (.int .i64 o) := KM.out.cell 2
    have c3 : y2.cell? ⟨MB, 3, none⟩ = some (.int .i64 e) := KM.out.cell 3
    have c4 : y2.cell? ⟨MB, 4, none⟩ = some (.int .i64 y) := KM.out.cell 4
    have c5 : y2.cell? ⟨MB, 5, none⟩ = some (.slice b l.length c) := KM.out.cell 5
    go_wp2
    refine bodyPost_ret (results_cell_row Tryd.results22 _ _ RB 26 #[.int .i64 k, .int .i64 f, .int .i64 o, .int .i64 e, .int .i64 y, .slice b l.length c] (0, 0) _ rfl (Blk.set (Blk.set (Blk.set (Blk.set (Blk.set (Blk.set KR.out 0 (.int .i64 k)) 1 (.int .i64 f)) 2 (.int .i64 o)) 3 (.int .i64 e)) 4 (.int .i64 y)) 5 (.slice b l.length c)) Tryd.underlying26 rfl (by kernel_rfl)) rfl ?_
    exact ⟨⟨_, _, _, _, _, l, b, c, rfl, SZ.out, hl20, (own_far (own_far (own_far (own_far (own_far (own_far OW.out ⟨RB, 0, none⟩ _ NE.out) ⟨RB, 1, none⟩ _ NE.out) ⟨RB, 2, none⟩ _ NE.out) ⟨RB, 3, none⟩ _ NE.out) ⟨RB, 4, none⟩ _ NE.out) ⟨RB, 5, none⟩ _ NE.out)⟩, DD.out.keep (((((((Below.refl w.heap.size y2).setCell (p := ⟨RB, 0, none⟩) lRB _).setCell (p := ⟨RB, 1, none⟩) lRB _).setCell (p := ⟨RB, 2, none⟩) lRB _).setCell (p := ⟨RB, 3, none⟩) lRB _).setCell (p := ⟨RB, 4, none⟩) lRB _).setCell (p := ⟨RB, 5, none⟩) lRB _) hBw hglt, gtop GG.out (((((((Below.refl w.heap.size y2).setCell (p := ⟨RB, 0, none⟩) lRB _).setCell (p := ⟨RB, 1, none⟩) lRB _).setCell (p := ⟨RB, 2, none⟩) lRB _).setCell (p := ⟨RB, 3, none⟩) lRB _).setCell (p := ⟨RB, 4, none⟩) lRB _).setCell (p := ⟨RB, 5, none⟩) lRB _)⟩
  by_cases c4 : z = 4
  · subst c4
    go_wp2_with fail
    refine (anyItems_any DD.out).mono ?_
    rintro e9 w3 ⟨l2, b2, cc2, rfl, hsz2, hl2, ho2, dd, gg⟩
    have KM4 := hide1 (gblk gg KM.out (fun e => hMg (by injection e with e; exact e.symm)))
    have KR4 := hide1 (gblk gg KR.out (fun e => hRg (by injection e with e; exact e.symm)))
    have GG4 := hide1 (gtrans GG.out gg)
    have lMw : MB < w2.heap.size := KM.out.lt
    have lRw : RB < w2.heap.size := KR.out.lt
    have SZ2 := hide1 hsz2
    have NE2 := hide1 (show ∀ q, (Value.slice b2 l2.length cc2).ownBlock = some q → q ≠ RB from fun q hq => by have := (ho2.lt q hq).1; omega)
    have NM2 := hide1 (show ∀ q, (Value.slice b2 l2.length cc2).ownBlock = some q → q ≠ MB from fun q hq => by have := (ho2.lt q hq).1; omega)
    have f5 : w3.cell? ⟨MB, 5, none⟩ = some (.slice b l.length c) := KM4.out.cell 5
    have ff : w3.frozen? ⟨MB, 5, none⟩ = false := KM4.out.froz 5
    have BS := hide1 ((Below.refl w.heap.size w3).setCell (p := ⟨MB, 5, none⟩) lMB (.slice b2 l2.length cc2))
    have OW2 := hide1 (own_far (own_base ho2 lw2) ⟨MB, 5, none⟩ (.slice b2 l2.length cc2) NM2.out)
    have DD2 := hide1 ((show Drw B w3 a len cap g from dd).keep BS.out hBw hglt)
    have GG2 := hide1 (gtop GG4.out BS.out)
    have KR2 := hide1 (Blk.far KR4.out ⟨MB, 5, none⟩ (.slice b2 l2.length cc2) hMR.symm)
    have KM2 := hide1 (Blk.set KM4.out 5 (.slice b2 l2.length cc2))
    clear KM4 KR4 GG4 dd gg KM KR GG DD OW hsz2 ho2 NE NM
    have KM := KM2
    have KR := KR2
    have GG := GG2
    have DD := DD2
    have OW := OW2
    have NE := NE2
    clear KM2 KR2 GG2 DD2 OW2 NE2
    go_upto_region 13 with fail
    generalize (w3.setCell ⟨MB, 5, none⟩ (.slice b2 l2.length cc2)) = y2 at OW DD GG KR KM ⊢
    clear f5 ff BS
    have z0 : y2.cell? ⟨RB, 0, none⟩ = some (.int .i64 0) := KR.out.cell 0
    have z1 : y2.cell? ⟨RB, 1, none⟩ = some (.int .i64 0) := KR.out.cell 1
    have z2 : y2.cell? ⟨RB, 2, none⟩ = some (.int .i64 0) := KR.out.cell 2
    have z3 : y2.cell? ⟨RB, 3, none⟩ = some (.int .i64 0) := KR.out.cell 3
    have z4 : y2.cell? ⟨RB, 4, none⟩ = some (.int .i64 0) := KR.out.cell 4
    have z5 : y2.cell? ⟨RB, 5, none⟩ = some (.slice none 0 0) := KR.out.cell 5
    have zf : ∀ j, y2.frozen? ⟨RB, j, none⟩ = false := fun j => KR.out.froz j
    have c0 : y2.cell? ⟨MB, 0, none⟩ = some (.int .i64 k) := KM.out.cell 0
    have c1 : y2.cell? ⟨MB, 1, none⟩ = some (.int .i64 f) := KM.out.cell 1
    have c2 : y2.cell? ⟨MB, 2, none⟩ = some (.int .i64 o) := KM.out.cell 2
    have c3 : y2.cell? ⟨MB, 3, none⟩ = some (.int .i64 e) := KM.out.cell 3
    have c4 : y2.cell? ⟨MB, 4, none⟩ = some (.int .i64 n) := KM.out.cell 4
    have c5 : y2.cell? ⟨MB, 5, none⟩ = some (.slice b2 l2.length cc2) := KM.out.cell 5
    go_wp2
    refine bodyPost_ret (results_cell_row Tryd.results22 _ _ RB 26 #[.int .i64 k, .int .i64 f, .int .i64 o, .int .i64 e, .int .i64 n, .slice b2 l2.length cc2] (0, 0) _ rfl (Blk.set (Blk.set (Blk.set (Blk.set (Blk.set (Blk.set KR.out 0 (.int .i64 k)) 1 (.int .i64 f)) 2 (.int .i64 o)) 3 (.int .i64 e)) 4 (.int .i64 n)) 5 (.slice b2 l2.length cc2)) Tryd.underlying26 rfl (by kernel_rfl)) rfl ?_
    exact ⟨⟨_, _, _, _, _, l2, b2, cc2, rfl, SZ2.out, hl2, (own_far (own_far (own_far (own_far (own_far (own_far OW.out ⟨RB, 0, none⟩ _ NE.out) ⟨RB, 1, none⟩ _ NE.out) ⟨RB, 2, none⟩ _ NE.out) ⟨RB, 3, none⟩ _ NE.out) ⟨RB, 4, none⟩ _ NE.out) ⟨RB, 5, none⟩ _ NE.out)⟩, DD.out.keep (((((((Below.refl w.heap.size y2).setCell (p := ⟨RB, 0, none⟩) lRB _).setCell (p := ⟨RB, 1, none⟩) lRB _).setCell (p := ⟨RB, 2, none⟩) lRB _).setCell (p := ⟨RB, 3, none⟩) lRB _).setCell (p := ⟨RB, 4, none⟩) lRB _).setCell (p := ⟨RB, 5, none⟩) lRB _) hBw hglt, gtop GG.out (((((((Below.refl w.heap.size y2).setCell (p := ⟨RB, 0, none⟩) lRB _).setCell (p := ⟨RB, 1, none⟩) lRB _).setCell (p := ⟨RB, 2, none⟩) lRB _).setCell (p := ⟨RB, 3, none⟩) lRB _).setCell (p := ⟨RB, 4, none⟩) lRB _).setCell (p := ⟨RB, 5, none⟩) lRB _)⟩
  have q0 : ((z : Int) == 0) = false := by rw [beq_eq_false_iff_ne]; omega
  have q1 : ((z : Int) == 1) = false := by rw [beq_eq_false_iff_ne]; omega
  have q2 : ((z : Int) == 2) = false := by rw [beq_eq_false_iff_ne]; omega
  have q3 : ((z : Int) == 3) = false := by rw [beq_eq_false_iff_ne]; omega
  have q4 : ((z : Int) == 4) = false := by rw [beq_eq_false_iff_ne]; omega
  have z0 : w2.cell? ⟨RB, 0, none⟩ = some (.int .i64 0) := KR.out.cell 0
  have z1 : w2.cell? ⟨RB, 1, none⟩ = some (.int .i64 0) := KR.out.cell 1
  have z2 : w2.cell? ⟨RB, 2, none⟩ = some (.int .i64 0) := KR.out.cell 2
  have z3 : w2.cell? ⟨RB, 3, none⟩ = some (.int .i64 0) := KR.out.cell 3
  have z4 : w2.cell? ⟨RB, 4, none⟩ = some (.int .i64 0) := KR.out.cell 4
  have z5 : w2.cell? ⟨RB, 5, none⟩ = some (.slice none 0 0) := KR.out.cell 5
  have zf : ∀ j, w2.frozen? ⟨RB, j, none⟩ = false := fun j => KR.out.froz j
  have c0 : w2.cell? ⟨MB, 0, none⟩ = some (.int .i64 k) := KM.out.cell 0
  have c1 : w2.cell? ⟨MB, 1, none⟩ = some (.int .i64 f) := KM.out.cell 1
  have c2 : w2.cell? ⟨MB, 2, none⟩ = some (.int .i64 o) := KM.out.cell 2
  have c3 : w2.cell? ⟨MB, 3, none⟩ = some (.int .i64 e) := KM.out.cell 3
  have c4 : w2.cell? ⟨MB, 4, none⟩ = some (.int .i64 n) := KM.out.cell 4
  have c5 : w2.cell? ⟨MB, 5, none⟩ = some (.slice b l.length c) := KM.out.cell 5
  go_wp2
  refine bodyPost_ret (results_cell_row Tryd.results22 _ _ RB 26 #[.int .i64 k, .int .i64 f, .int .i64 o, .int .i64 e, .int .i64 n, .slice b l.length c] (0, 0) _ rfl (Blk.set (Blk.set (Blk.set (Blk.set (Blk.set (Blk.set KR.out 0 (.int .i64 k)) 1 (.int .i64 f)) 2 (.int .i64 o)) 3 (.int .i64 e)) 4 (.int .i64 n)) 5 (.slice b l.length c)) Tryd.underlying26 rfl (by kernel_rfl)) rfl ?_
  exact ⟨⟨_, _, _, _, _, l, b, c, rfl, SZ.out, hl20, (own_far (own_far (own_far (own_far (own_far (own_far OW.out ⟨RB, 0, none⟩ _ NE.out) ⟨RB, 1, none⟩ _ NE.out) ⟨RB, 2, none⟩ _ NE.out) ⟨RB, 3, none⟩ _ NE.out) ⟨RB, 4, none⟩ _ NE.out) ⟨RB, 5, none⟩ _ NE.out)⟩, DD.out.keep (((((((Below.refl w.heap.size w2).setCell (p := ⟨RB, 0, none⟩) lRB _).setCell (p := ⟨RB, 1, none⟩) lRB _).setCell (p := ⟨RB, 2, none⟩) lRB _).setCell (p := ⟨RB, 3, none⟩) lRB _).setCell (p := ⟨RB, 4, none⟩) lRB _).setCell (p := ⟨RB, 5, none⟩) lRB _) hBw hglt, gtop GG.out (((((((Below.refl w.heap.size w2).setCell (p := ⟨RB, 0, none⟩) lRB _).setCell (p := ⟨RB, 1, none⟩) lRB _).setCell (p := ⟨RB, 2, none⟩) lRB _).setCell (p := ⟨RB, 3, none⟩) lRB _).setCell (p := ⟨RB, 4, none⟩) lRB _).setCell (p := ⟨RB, 5, none⟩) lRB _)⟩
end Go.Proofs.YtbkhhkknhbddeaaDoor
namespace Go.Proofs.YtbkhhkknhbddeaaDoor
open Go.RowKit
set_option linter.unusedVariables false

set_option maxRecDepth 100000 in
set_option maxHeartbeats 2000000 in
theorem spoilt_any {B : Nat} {w : World} {a : Option Addr} {len cap g : Nat} (h : Drw B w a len cap g) (s : ByteArray) (hs : s.size ≤ 1000000) :
    Calls Tryd.prog 35 #[.pointer (some ⟨g, 0, none⟩), .string s] w fun r w' => (∃ t : ByteArray, r = .returned (.string t) ∧ t.size ≤ s.size + 1) ∧ Drw B w' a len cap g ∧ w.grownBy w' (some g) := by
  have DD := hide1 h
  clear h
  go_enter Tryd.func35, Tryd.ntmps35
  go_wp2_with fail
  refine (below_any DD.out 12 (by omega)).mono ?_
  rintro e w1 ⟨z, rfl, hz, _, d1, g1⟩
  have hz2 : z < 12 := by have := hz (by omega); omega
  have D1 := hide1 d1
  have G1 := hide1 g1
  clear hz d1 g1 DD
  by_cases z0 : z = 0
  · subst z0
    go_wp2_with fail
    refine (text_any D1.out 1 (by omega)).mono ?_
    rintro e w2 ⟨T, rfl, hT, d2, g2⟩
    have hTs : (⟨T.toArray⟩ : ByteArray).size = 1 := by show T.toArray.size = 1; simp [hT]
    have D2 := hide1 d2
    have G2 := hide1 (G1.out.trans g2)
    generalize (⟨T.toArray⟩ : ByteArray) = Tx at *
    clear d2 g2 D1 G1 hT
    go_wp2
    go_ret
    exact ⟨⟨s ++ Tx, rfl, by rw [ByteArray.size_append]; omega⟩, D2.out, G2.out⟩
  by_cases z1 : z = 1
  · subst z1
    have q : IntKind.i64.wrap ((s.size : Int) + 1) = (s.size : Int) + 1 := IntWalk.i64_in _ ⟨by omega, by omega⟩
    go_wp2_with fail
    refine (below_any D1.out ((s.size : Int) + 1) (by omega)).mono ?_
    rintro e w2 ⟨y, rfl, hy, _, d2, g2⟩
    have hy2 : y ≤ s.size := by have := hy (by omega); omega
    have k0 : (0 : Int) ≤ (y : Int) := by omega
    have k1 : (y : Int) ≤ (s.size : Int) := by omega
    have D2 := hide1 d2
    have G2 := hide1 (G1.out.trans g2)
    clear d2 g2 D1 G1 hy
    go_wp2
    go_ret
    exact ⟨⟨s.extract 0 y, rfl, by rw [ByteArray.size_extract]; omega⟩, D2.out, G2.out⟩
  have n0 : ((z : Int) == 0) = false := by rw [beq_eq_false_iff_ne]; omega
  have n1 : ((z : Int) == 1) = false := by rw [beq_eq_false_iff_ne]; omega
  by_cases c23 : z = 2 ∨ z = 3
  · have q23 : ((z : Int) == 2) = true ∨ (((z : Int) == 2) = false ∧ ((z : Int) == 3) = true) := by
      rcases c23 with rfl | rfl
      · exact .inl (by simp)
      · exact .inr ⟨by simp, by simp⟩
    clear c23
    by_cases hl : 0 < s.size
    · have k1 : (0 : Int) < (s.size : Int) := by omega
      rcases q23 with q2 | ⟨q2, q3⟩
      · go_wp2_with fail
        refine (below_any D1.out (s.size : Int) (by omega)).mono ?_
        rintro e w2 ⟨y, rfl, hy, _, d2, g2⟩
        have hy2 : y < s.size := by have := hy (by omega); omega
        have k2 : (0 : Int) ≤ (y : Int) := by omega
        have k3 : (y : Int) ≤ (s.size : Int) := by omega
        have k4 : IntKind.i64.wrap ((y : Int) + 1) = (y : Int) + 1 := IntWalk.i64_in _ ⟨by omega, by omega⟩
        have k5 : (0 : Int) ≤ (y : Int) + 1 := by omega
        have k6 : (y : Int) + 1 ≤ (s.size : Int) := by omega
        have e1 : (s.extract 0 y).size ≤ 1000000 := by rw [ByteArray.size_extract]; omega
        have e2 : (s.extract (y + 1) s.size).size ≤ 1000000 := by rw [ByteArray.size_extract]; omega
        have G2 := hide1 (G1.out.trans g2)
        have CT := hide1 (text_any (d2.later ((Below.refl w2.heap.size w2).drew)) 1 (by omega))
        have GD := hide1 (show w2.grownBy w2.drew (some g) from grow_new (Below.refl w2.heap.size w2).drew)
        clear d2 g2 D1 G1 hy
        go_upto_region 10 with fail
        go_region_with ((go_at_call 60; refine CT.out.mono ?_; rintro e w3 ⟨T, rfl, hT, d3, g3⟩; have hTs : (⟨T.toArray⟩ : ByteArray).size = 1 := (by show T.toArray.size = 1; simp [hT]); have hT2 : (⟨T.toArray⟩ : ByteArray).size ≤ 1 := (by omega); have hT3 : (s.extract 0 y ++ ⟨T.toArray⟩).size ≤ 1000001 := (by rw [ByteArray.size_append]; omega); have D3 := hide1 d3; have G3 := hide1 ((G2.out.trans GD.out).trans g3); clear d3 g3 CT))
        go_wp2
        go_ret
        exact ⟨⟨_, rfl, by rw [ByteArray.size_append, ByteArray.size_append, ByteArray.size_extract, ByteArray.size_extract, hTs]; omega⟩, D3.out, G3.out⟩
      · go_wp2_with fail
        refine (below_any D1.out (s.size : Int) (by omega)).mono ?_
        rintro e w2 ⟨y, rfl, hy, _, d2, g2⟩
        have hy2 : y < s.size := by have := hy (by omega); omega
        have k2 : (0 : Int) ≤ (y : Int) := by omega
        have k3 : (y : Int) ≤ (s.size : Int) := by omega
        have k4 : IntKind.i64.wrap ((y : Int) + 1) = (y : Int) + 1 := IntWalk.i64_in _ ⟨by omega, by omega⟩
        have k5 : (0 : Int) ≤ (y : Int) + 1 := by omega
        have k6 : (y : Int) + 1 ≤ (s.size : Int) := by omega
        have e1 : (s.extract 0 y).size ≤ 1000000 := by rw [ByteArray.size_extract]; omega
        have e2 : (s.extract (y + 1) s.size).size ≤ 1000000 := by rw [ByteArray.size_extract]; omega
        have G2 := hide1 (G1.out.trans g2)
        have CT := hide1 (text_any (d2.later ((Below.refl w2.heap.size w2).drew)) 1 (by omega))
        have GD := hide1 (show w2.grownBy w2.drew (some g) from grow_new (Below.refl w2.heap.size w2).drew)
        clear d2 g2 D1 G1 hy
        go_upto_region 10 with fail
        go_region_with ((go_at_call 60; refine CT.out.mono ?_; rintro e w3 ⟨T, rfl, hT, d3, g3⟩; have hTs : (⟨T.toArray⟩ : ByteArray).size = 1 := (by show T.toArray.size = 1; simp [hT]); have hT2 : (⟨T.toArray⟩ : ByteArray).size ≤ 1 := (by omega); have hT3 : (s.extract 0 y ++ ⟨T.toArray⟩).size ≤ 1000001 := (by rw [ByteArray.size_append]; omega); have D3 := hide1 d3; have G3 := hide1 ((G2.out.trans GD.out).trans g3); clear d3 g3 CT))
        go_wp2
        go_ret
        exact ⟨⟨_, rfl, by rw [ByteArray.size_append, ByteArray.size_append, ByteArray.size_extract, ByteArray.size_extract, hTs]; omega⟩, D3.out, G3.out⟩
    · have k1 : ¬ ((0 : Int) < (s.size : Int)) := by omega
      rcases q23 with q2 | ⟨q2, q3⟩
      · go_wp2
        go_ret
        exact ⟨⟨s, rfl, by omega⟩, D1.out, G1.out⟩
      · go_wp2
        go_ret
        exact ⟨⟨s, rfl, by omega⟩, D1.out, G1.out⟩
  · have q2 : ((z : Int) == 2) = false := by rw [beq_eq_false_iff_ne]; omega
    have q3 : ((z : Int) == 3) = false := by rw [beq_eq_false_iff_ne]; omega
    go_wp2
    go_ret
    exact ⟨⟨s, rfl, by omega⟩, D1.out, G1.out⟩
end Go.Proofs.YtbkhhkknhbddeaaDoor
namespace Go.Proofs.YtbkhhkknhbddeaaDoor
open Go.RowKit
set_option linter.unusedVariables false

set_option maxRecDepth 100000 in
set_option maxHeartbeats 2000000 in
theorem drawMT_any (w : World) (a : Option Addr) (len cap : Nat) (hc : Code w.heap.size w a len) :
    Calls Tryd.prog 7 #[.slice a len cap] w fun r w' => MsgD w w' r ∧ Below w.heap.size w w' := by
  have F0 := hide1 (And.intro (Blk.new w 26 #[.int .i64 0, .int .i64 0, .int .i64 0, .int .i64 0, .int .i64 0, .slice none 0 0]) ((Below.refl w.heap.size w).alloc (Nat.le_refl _) (.cells #[.int .i64 0, .int .i64 0, .int .i64 0, .int .i64 0, .int .i64 0, .slice none 0 0] 26)))
  have CN := hide1 (fun w' (hb : Below w.heap.size w w') => new_any w' a len cap (codeI (hc.below hb (Nat.le_refl _)) hb.size))
  clear hc
  go_enter Tryd.func7, Tryd.ntmps7
  go_upto_region 1 with fail
  generalize (w.alloc (.cells #[.int .i64 0, .int .i64 0, .int .i64 0, .int .i64 0, .int .i64 0, .slice none 0 0] 26)) = u at F0 ⊢
  obtain ⟨RB, hRB⟩ : ∃ X, X = w.heap.size := ⟨_, rfl⟩
  have KR := hide1 F0.out.1
  rw [← hRB] at KR ⊢
  have E0 := hide1 F0.out.2
  have lRB : w.heap.size ≤ RB := by omega
  have lwu : w.heap.size ≤ u.heap.size := E0.out.size
  clear F0 hRB
  go_wp2_with fail
  refine (CN.out u E0.out).mono ?_
  rintro e9 w1 ⟨g, rfl, d1, hb1⟩
  have hg : u.heap.size ≤ g := d1.cur.1
  have KR1 := hide1 (KR.out.below hb1 KR.out.lt)
  have lRg : RB < u.heap.size := KR.out.lt
  have D1 := hide1 d1
  have B1 := hide1 (E0.out.trans (hb1.mono lwu))
  have lw1 : w.heap.size ≤ w1.heap.size := B1.out.size
  clear d1 hb1 KR E0
  go_wp2_with fail
  refine (anyMsg_any D1.out).mono ?_
  rintro e9 w2 ⟨⟨k, f, o, e, n, l, b, c, rfl, hsz, hl20, ho⟩, dd, gg⟩
  have KR2 := hide1 (gblk gg KR1.out (fun e => by injection e; omega))
  have B2 := hide1 (B1.out.trans (gbelow gg (fun q e => by injection e; omega) lw1))
  have lR1 : RB < w1.heap.size := KR1.out.lt
  have NE := hide1 (show ∀ q, (Value.slice b l.length c).ownBlock = some q → q ≠ RB from fun q hq => by have := (ho.lt q hq).1; omega)
  have OW := hide1 (own_base ho lw1)
  have SZ := hide1 hsz
  clear dd gg ho hsz D1 B1 KR1
  have z0 : w2.cell? ⟨RB, 0, none⟩ = some (.int .i64 0) := KR2.out.cell 0
  have z1 : w2.cell? ⟨RB, 1, none⟩ = some (.int .i64 0) := KR2.out.cell 1
  have z2 : w2.cell? ⟨RB, 2, none⟩ = some (.int .i64 0) := KR2.out.cell 2
  have z3 : w2.cell? ⟨RB, 3, none⟩ = some (.int .i64 0) := KR2.out.cell 3
  have z4 : w2.cell? ⟨RB, 4, none⟩ = some (.int .i64 0) := KR2.out.cell 4
  have z5 : w2.cell? ⟨RB, 5, none⟩ = some (.slice none 0 0) := KR2.out.cell 5
  have zf : ∀ j, w2.frozen? ⟨RB, j, none⟩ = false := fun j => KR2.out.froz j
  go_wp2
  refine bodyPost_ret (results_cell_row Tryd.results7 _ _ RB 26 #[.int .i64 k, .int .i64 f, .int .i64 o, .int .i64 e, .int .i64 n, .slice b l.length c] (0, 0) _ rfl (Blk.set (Blk.set (Blk.set (Blk.set (Blk.set (Blk.set KR2.out 0 (.int .i64 k)) 1 (.int .i64 f)) 2 (.int .i64 o)) 3 (.int .i64 e)) 4 (.int .i64 n)) 5 (.slice b l.length c)) Tryd.underlying26 rfl (by kernel_rfl)) rfl ?_
  exact ⟨⟨_, _, _, _, _, l, b, c, rfl, SZ.out, hl20, (own_far (own_far (own_far (own_far (own_far (own_far OW.out ⟨RB, 0, none⟩ _ NE.out) ⟨RB, 1, none⟩ _ NE.out) ⟨RB, 2, none⟩ _ NE.out) ⟨RB, 3, none⟩ _ NE.out) ⟨RB, 4, none⟩ _ NE.out) ⟨RB, 5, none⟩ _ NE.out)⟩, ((((((B2.out.setCell (p := ⟨RB, 0, none⟩) lRB _).setCell (p := ⟨RB, 1, none⟩) lRB _).setCell (p := ⟨RB, 2, none⟩) lRB _).setCell (p := ⟨RB, 3, none⟩) lRB _).setCell (p := ⟨RB, 4, none⟩) lRB _).setCell (p := ⟨RB, 5, none⟩) lRB _)⟩
theorem msgV_size (m : Ms) : ∃ (s : ByteArray) (b : Bool), msgV m = .tuple #[.string s, .bool b] ∧ s.size ≤ 1000 := by
  unfold msgV
  by_cases c : okMs m
  · rw [if_pos c]
    exact ⟨_, _, rfl, by rw [sealS_size, bA_size]; have := msB_size c; omega⟩
  · rw [if_neg c]
    exact ⟨_, _, rfl, Nat.zero_le _⟩
theorem unV_size (s : ByteArray) : ∃ (t : ByteArray) (b : Bool), unsealV s = .tuple #[.string t, .bool b] ∧ t.size ≤ s.size := by
  unfold unsealV
  split
  · exact ⟨_, _, rfl, by rw [inn_size]; omega⟩
  · exact ⟨_, _, rfl, Nat.zero_le _⟩
theorem seV_size (s : ByteArray) : ∃ (t : ByteArray) (b : Bool), sealV s = .tuple #[.string t, .bool b] ∧ t.size ≤ s.size + 4 := by
  unfold sealV
  split
  · exact ⟨_, _, rfl, by rw [sealS_size]; omega⟩
  · exact ⟨_, _, rfl, Nat.zero_le _⟩
set_option maxRecDepth 100000 in
set_option maxHeartbeats 2000000 in
theorem drawRM_any (w : World) (a : Option Addr) (len cap : Nat) (hc : Code w.heap.size w a len) :
    Calls Tryd.prog 13 #[.slice a len cap] w fun r w' => (∃ t : ByteArray, r = .returned (.string t) ∧ t.size ≤ 2000) ∧ Below w.heap.size w w' := by
  have CN := hide1 (new_any w a len cap hc)
  clear hc
  go_enter Tryd.func13, Tryd.ntmps13
  go_wp2_with fail
  refine CN.out.mono ?_
  rintro e9 w1 ⟨g, rfl, d1, hb1⟩
  have hg : w.heap.size ≤ g := d1.cur.1
  have D1 := hide1 d1
  have B1 := hide1 hb1
  have lw1 : w.heap.size ≤ w1.heap.size := hb1.size
  clear d1 hb1 CN
  go_wp2_with fail
  refine (anyMsg_any D1.out).mono ?_
  rintro e9 w2 ⟨⟨k, f, o, e, n, l, b, c, rfl, hsz, hl20, ho⟩, dd, gg⟩
  have B2 := hide1 (B1.out.trans (gbelow gg (fun q e => by injection e; omega) lw1))
  have CM := hide1 (specMsgText_any k f o e n l b c w2 (by omega) (rdG_of_own encIm.len ho rfl))
  obtain ⟨s, r9, hv, hss⟩ := msgV_size ⟨k, f, o, e, n, l⟩
  rw [hv] at CM
  have D2 := hide1 dd
  clear dd gg ho hsz D1 B1 hv
  go_wp2_with fail
  refine CM.out.mono ?_
  rintro e9 w3 ⟨rfl, hb3⟩
  have D3 := hide1 (D2.out.later hb3)
  have B3 := hide1 (B2.out.trans (hb3.mono B2.out.size))
  clear hb3 D2 B2 CM
  go_wp2_with fail
  refine (below_any D3.out 6 (by omega)).mono ?_
  rintro e9 w4 ⟨z, rfl, hz, _, dd, gg⟩
  have hz2 : z < 6 := by have := hz (by omega); omega
  have D4 := hide1 dd
  have B4 := hide1 (B3.out.trans (gbelow gg (fun q e => by injection e; omega) B3.out.size))
  clear dd gg D3 B3 hz
  by_cases z0 : z = 0
  · subst z0
    go_wp2_with fail
    refine (spoilt_any D4.out s (by omega)).mono ?_
    rintro e9 w5 ⟨⟨t, rfl, ht⟩, dd, gg⟩
    have B5 := hide1 (B4.out.trans (gbelow gg (fun q e => by injection e; omega) B4.out.size))
    clear dd gg
    go_wp2
    go_ret
    exact ⟨⟨t, rfl, by omega⟩, B5.out⟩
  have n0 : ((z : Int) == 0) = false := by rw [beq_eq_false_iff_ne]; omega
  by_cases z1 : z = 1
  · subst z1
    have CU := hide1 (specUnsealed_any s (by omega) w4)
    obtain ⟨t, ok, hv, hts⟩ := unV_size s
    rw [hv] at CU
    clear hv
    go_wp2_with fail
    refine CU.out.mono ?_
    rintro e9 w5 ⟨rfl, hb5⟩
    have D5 := hide1 (D4.out.later hb5)
    have B5 := hide1 (B4.out.trans (hb5.mono B4.out.size))
    clear hb5 D4 B4 CU
    cases ok with
    | true =>
      go_wp2_with fail
      refine (spoilt_any D5.out t (by omega)).mono ?_
      rintro e9 w6 ⟨⟨t2, rfl, ht2⟩, dd, gg⟩
      have B6 := hide1 (B5.out.trans (gbelow gg (fun q e => by injection e; omega) B5.out.size))
      have CS := hide1 (specSealed_any t2 (by omega) w6)
      obtain ⟨t3, r3, hv3, ht3⟩ := seV_size t2
      rw [hv3] at CS
      clear dd gg hv3
      go_wp2_with fail
      refine CS.out.mono ?_
      rintro e9 w7 ⟨rfl, hb7⟩
      have B7 := hide1 (B6.out.trans (hb7.mono B6.out.size))
      clear hb7
      go_wp2
      go_ret
      exact ⟨⟨t3, rfl, by omega⟩, B7.out⟩
    | false =>
      go_wp2
      go_ret
      exact ⟨⟨s, rfl, by omega⟩, B5.out⟩
  have n1 : ((z : Int) == 1) = false := by rw [beq_eq_false_iff_ne]; omega
  go_wp2
  go_ret
  exact ⟨⟨s, rfl, by omega⟩, B4.out⟩
end Go.Proofs.YtbkhhkknhbddeaaDoor
namespace Go.Proofs.YtbkhhkknhbddeaaDoor
open Go.RowKit
set_option linter.unusedVariables false

theorem rd_of_msg {m : Ms} (h : okMs m) : rdM (sealS (bA (msB m))) = some m := rd_yes (b := false) ⟨rfl, h, rfl⟩
theorem rd_empty : rdM ⟨#[]⟩ = none := by
  unfold rdM
  rw [if_neg (fun h => by have := h.1; revert this; decide)]
theorem rdM_back {t : ByteArray} {y : Ms} (h : rdM t = some y) : sealedB t ∧ okMs y ∧ inn t = bA (msB y) := by
  unfold rdM at h
  by_cases c : sealedB t
  · rw [if_pos (show 4 ≤ t.size ∧ t.size ≤ 20004 ∧ (tl t).toList = four (sumOf (inn t)) from c)] at h
    obtain ⟨h1, h2⟩ := readP_back h
    exact ⟨c, h1, h2⟩
  · rw [if_neg (show ¬ (4 ≤ t.size ∧ t.size ≤ 20004 ∧ (tl t).toList = four (sumOf (inn t))) from c)] at h
    cases h
/-- What is read is written as it was. -/
theorem msg_of_rd {t : ByteArray} {y : Ms} (h : rdM t = some y) : msgV y = .tuple #[.string t, .bool true] := by
  obtain ⟨h1, h2, h3⟩ := rdM_back h
  unfold msgV
  rw [if_pos h2, ← h3, seal_inn h1]
theorem rd_unsealed {t : ByteArray} (h : unsealV t = .tuple #[.string ⟨#[]⟩, .bool false]) : rdM t = none := by
  cases e : rdM t with
  | none => rfl
  | some y =>
    exfalso
    have h1 := (rdM_back e).1
    rw [unsealV_un] at h
    have h2 : (!unB t) = false := by
      injection h with h
      have h3 := congrArg (fun (x : Array Value) => x[1]?) h
      simp at h3
      simpa using h3
    unfold unB at h2
    rw [decide_eq_true h1] at h2
    cases h2
/-- With one byte turned it is nothing. -/
theorem rd_turned {m : Ms} {t : ByteArray} {i : Nat} {b : UInt8} (hi : i < (sealS (bA (msB m))).size) (hb : (sealS (bA (msB m))).data.toList[i]? ≠ some b) (ht : t.data.toList = (sealS (bA (msB m))).data.toList.set i b) : rdM t = none := rd_unsealed (unseal_turned _ t i b hi hb ht)
end Go.Proofs.YtbkhhkknhbddeaaDoor
