/- A board in memory, and a new one, by the program. -/
import Derived.Test.YtahglnojllkjdaaTabR
namespace Go.Proofs.Ytahglnojllkjdaa
open Go.RowKit

theorem blk_of_own {w : World} {base n g size : Nat} {e : TypeId} {xs : List Value} (h : w.ownsRow base e size (.slice (some ⟨g, 0, none⟩) n n) n xs) : Blk w g e xs ∧ base ≤ g := by
  rcases h.2 with ⟨hv, _⟩ | ⟨g', cap, cur, hv, hb, hh, h1, h2, h3, h4⟩
  · cases hv
  · injection hv with e1 e2 e3
    injection e1 with e1
    injection e1 with e1
    subst e1 e3
    refine ⟨?_, hb⟩
    have : cur.toList = xs := by rw [← h4, List.take_of_length_le (by simp; omega)]
    unfold Blk
    rw [hh, ← this]
theorem own_of_blk {w : World} {base n g size : Nat} {e : TypeId} {xs : List Value} (h : Blk w g e xs) (hx : xs.length = n * size) (hb : base ≤ g) (hn : n ≤ maxLen) : w.ownsRow base e size (.slice (some ⟨g, 0, none⟩) n n) n xs :=
  ⟨hx, .inr ⟨g, n, xs.toArray, rfl, hb, h, Nat.le_refl _, hn, by simpa using hx, by rw [List.take_of_length_le]; simp; omega⟩⟩
theorem ces_at0 {l : List Ce} {i : Nat} (h : i < l.length) : (ces l)[i * 2]? = some (.string l[i].key) := ces_at l i 0 h (by decide)
theorem ces_at1 {l : List Ce} {i : Nat} (h : i < l.length) : (ces l)[i * 2 + 1]? = some (.int .i64 l[i].h) := ces_at l i 1 h (by decide)
theorem ces_setK {l : List Ce} {i : Nat} (hi : i < l.length) (s : Ce) : ((ces l).set (i * 2) (.string s.key)).set (i * 2 + 1) (.int .i64 s.h) = ces (l.set i s) := by
  rw [set2 _ _ _ _ (by rw [ces_length]; omega), ces_set l i s hi]
  rfl
theorem ces_setH {l : List Ce} {i : Nat} (hi : i < l.length) (h : Int) : (ces l).set (i * 2 + 1) (.int .i64 h) = ces (l.set i ⟨l[i].key, h⟩) := by
  rw [← ces_setK hi]
  congr 1
  refine (List.ext_getElem? fun j => ?_)
  rw [List.getElem?_set]
  split
  · rename_i e
    subst e
    rw [ces_at0 hi, if_pos (by rw [ces_length]; omega)]
  · rfl
theorem ces_setT {l : List Ce} {i : Nat} (hi : i < l.length) (k : ByteArray) : (ces l).set (i * 2) (.string k) = ces (l.set i ⟨k, l[i].h⟩) := by
  rw [← ces_setK hi]
  refine (List.ext_getElem? fun j => ?_)
  rw [List.getElem?_set (l := (ces l).set (i * 2) (.string k))]
  split
  · rename_i e
    subst e
    rw [List.getElem?_set_ne (by omega), ces_at1 hi, if_pos (by rw [List.length_set, ces_length]; omega)]
  · rfl

/-- Where the old cells begin. -/
def oldP (g n m : Nat) : Option Addr := if m = 0 then some ⟨g, 0, none⟩ else some ⟨g, n * 2, none⟩
/-- A board in memory, behind block B: its own block, and one with its cells and the old ones. -/
structure Brd (B : Nat) (w : World) (b g : Nat) (l o : List Ce) (mv : Nat) : Prop where
  lb : B ≤ b
  lg : B ≤ g
  ne : b ≠ g
  hd : Blk w b 71 [.slice (some ⟨g, 0, none⟩) l.length l.length, .slice (oldP g l.length o.length) o.length o.length, .int .i64 (mv : Int)]
  tl : Blk w g 65 (ces (l ++ o))
theorem Brd.later {B b g mv : Nat} {w w' : World} {l o : List Ce} (h : Brd B w b g l o mv) (hb : Below w.heap.size w w') : Brd B w' b g l o mv :=
  ⟨h.lb, h.lg, h.ne, h.hd.below hb h.hd.lt, h.tl.below hb h.tl.lt⟩
theorem Brd.cells {B b g mv : Nat} {w : World} {l o : List Ce} (h : Brd B w b g l o mv) : RdJ w (some ⟨g, 0, none⟩) l := by
  intro i hi
  refine ⟨g, 0, rfl, h.tl.lt, ?_, ?_⟩
  · rw [Nat.zero_add, h.tl.cell, ces_at0 (by rw [List.length_append]; omega), List.getElem_append_left hi]
  · rw [Nat.zero_add, h.tl.cell, ces_at1 (by rw [List.length_append]; omega), List.getElem_append_left hi]
theorem Brd.olds {B b g mv : Nat} {w : World} {l o : List Ce} (h : Brd B w b g l o mv) : RdJ w (oldP g l.length o.length) o := by
  intro i hi
  have e : l.length * 2 + i * 2 = (l.length + i) * 2 := by omega
  refine ⟨g, l.length * 2, if_neg (by omega), h.tl.lt, ?_, ?_⟩
  · rw [e, h.tl.cell, ces_at0 (by rw [List.length_append]; omega), List.getElem_append_right (by omega)]
    simp
  · rw [e, h.tl.cell, ces_at1 (by rw [List.length_append]; omega), List.getElem_append_right (by omega)]
    simp

theorem fillN_next (i N : Nat) (h : i < N) : (List.replicate i nC ++ List.replicate (N - i) zC).set i nC = List.replicate (i + 1) nC ++ List.replicate (N - (i + 1)) zC := by
  rw [List.set_append_right _ _ (by simp), List.length_replicate, Nat.sub_self, show N - i = (N - (i + 1)) + 1 by omega, List.replicate_succ (n := N - (i + 1)), List.set_cons_zero, List.replicate_succ' (n := i), List.append_assoc]
  rfl

set_option maxRecDepth 100000 in
set_option maxHeartbeats 1000000 in
theorem newBoard_any (n m : Nat) (w : World) (hn : n + m ≤ 1048576) :
    Calls Try.prog 45 #[.int .i64 (n : Int), .int .i64 (m : Int)] w fun e w' => ∃ b g, e = .returned (.pointer (some ⟨b, 0, none⟩)) ∧ Brd w.heap.size w' b g (List.replicate n nC) (List.replicate m nC) 0 ∧ Below w.heap.size w w' := by
  obtain ⟨i0, hi, hz0, hz1, hz2⟩ := info_parts Try.infoCell
  go_enter Try.func45, Try.ntmps45
  go_wp2_with (at_make; (refine wpList_make_full _ rfl _ _ 24 rfl w.heap.size 65 i0 (ceV zC) 2 Try.underlying24 hi hz0 hz1 _ _ _ _ (n + m) rfl rfl (by go_num) (by go_num) (by rw [hz2]; omega) (by unfold maxLen; omega) (Nat.le_refl _) ?_; intro w0 hown0 hg0))
  rw [made2] at hown0
  have K0 := hide1 (blk_of_own hown0).1
  have B0 : Hid (Below w.heap.size w w0) := Below.grown (Below.refl _ _) hg0 (Nat.le_refl _) (by intro k hk; cases hk)
  clear hown0 hg0
  go_loopw [13] (fun iv wr => ∃ i : Nat, i ≤ n + m ∧ iv = .int .i64 (i : Int) ∧ Hid (Blk wr w.heap.size 65 (ces (List.replicate i nC ++ List.replicate (n + m - i) zC))) ∧ Hid (Below w.heap.size w wr)) (fun iv _ => n + m - (intOf iv).toNat)
  case atStart => exact ⟨0, by omega, rfl, by show Blk _ _ _ _; simpa using K0.out, B0⟩
  case round =>
    obtain ⟨i, hi, rfl, hK, hbel⟩ := hrel
    by_cases hlt : i < n + m
    · have k1 : (i : Int) < (n : Int) + (m : Int) := by omega
      have k2 : (i : Int) < ((n + m : Nat) : Int) := by omega
      have hil : i < (List.replicate i nC ++ List.replicate (n + m - i) zC).length := by simp; omega
      have x1 : wr.cell? ⟨w.heap.size, i * 2 + 1, none⟩ = some (.int .i64 0) := by
        rw [hK.out.cell, ces_at1 hil, List.getElem_append_right (by simp)]
        simp [zC]
      have f1 := hK.out.froz (i * 2 + 1)
      have HK : Hid (Blk (wr.setCell ⟨w.heap.size, i * 2 + 1, none⟩ (.int .i64 (-1))) w.heap.size 65 (ces (List.replicate (i + 1) nC ++ List.replicate (n + m - (i + 1)) zC))) := by
        show Blk _ _ _ _
        have := hK.out.set (i * 2 + 1) (.int .i64 (-1))
        rw [ces_setH hil, List.getElem_append_right (by simp)] at this
        rw [← fillN_next i (n + m) hlt]
        simpa [zC, nC] using this
      have HB : Hid (Below w.heap.size w (wr.setCell ⟨w.heap.size, i * 2 + 1, none⟩ (.int .i64 (-1)))) := hbel.out.setCell (p := ⟨w.heap.size, i * 2 + 1, none⟩) (Nat.le_refl _) _
      clear hK hbel
      go_wp2
      go_roundw
      case rel => exact ⟨i + 1, by omega, by go_num, HK, HB⟩
      case measure => simp [intOf]; omega
    · obtain rfl : i = n + m := by omega
      have HK : Hid (Blk wr w.heap.size 65 (ces (List.replicate n nC ++ List.replicate m nC))) := by
        show Blk _ _ _ _
        rw [List.replicate_append_replicate]
        simpa using hK.out
      have k1 : (n : Int) ≤ (n : Int) + (m : Int) := by omega
      obtain ⟨A, hA⟩ : ∃ A, oldP w.heap.size n m = A := ⟨_, rfl⟩
      have eA : (if m = 0 then some (⟨w.heap.size, 0, none⟩ : Addr) else some ⟨w.heap.size, n * 2, none⟩) = A := hA
      have eB : (if n + m = n then some (⟨w.heap.size, 0, none⟩ : Addr) else some ⟨w.heap.size, n * 2, none⟩) = A := by
        rw [← eA]
        by_cases e : m = 0
        · rw [if_pos (by omega), if_pos e]
        · rw [if_neg (by omega), if_neg e]
      have HAA := hide1 hA
      have KN := hide1 (show Blk (wr.alloc (.cells #[.slice (some ⟨w.heap.size, 0, none⟩) n n, .slice A m m, .int .i64 0] 71)) wr.heap.size 71 [.slice (some ⟨w.heap.size, 0, none⟩) n n, .slice A m m, .int .i64 0] from Blk.new _ _ _)
      have HGE := hide1 hbel.out.size
      have HBN := hide1 (hbel.out.alloc hbel.out.size (.cells #[.slice (some ⟨w.heap.size, 0, none⟩) n n, .slice A m m, .int .i64 0] 71))
      have HKN := hide1 (Blk.more HK.out (.cells #[.slice (some ⟨w.heap.size, 0, none⟩) n n, .slice A m m, .int .i64 0] 71))
      have HLT := hide1 HK.out.lt
      have HB1 := hide1 (show Brd w.heap.size (wr.alloc (.cells #[.slice (some ⟨w.heap.size, 0, none⟩) n n, .slice A m m, .int .i64 0] 71)).drew wr.heap.size w.heap.size (List.replicate n nC) (List.replicate m nC) 0 by
        refine ⟨HGE.out, Nat.le_refl _, (fun e => by have := HLT.out; omega), ?_, HKN.out⟩
        rw [List.length_replicate, List.length_replicate, HAA.out]
        exact KN.out)
      clear hK hA HK hbel KN HKN HAA HGE HLT
      go_wp2
      go_region
      all_goals go_wp2
      all_goals
        go_ret
        first | exact ⟨_, _, rfl, HB1.out, HBN.out.drew⟩ | exact ⟨⟨_, HB1.out⟩, HBN.out.drew⟩ | exact ⟨_, rfl, ⟨_, HB1.out⟩, HBN.out.drew⟩ | exact ⟨_, ⟨_, HB1.out⟩, HBN.out.drew⟩
end Go.Proofs.Ytahglnojllkjdaa
