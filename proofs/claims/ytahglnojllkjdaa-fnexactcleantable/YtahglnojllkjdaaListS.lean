/- The contracts of the statements' functions on lists of texts: equal lists are found equal; what is marked is held. -/
import Derived.Test.YtahglnojllkjdaaMark
import Derived.Test.YtahglnojllkjdaaKitD
namespace Go.Proofs.Ytahglnojllkjdaa
open Go.RowKit

/-- A slice of n texts, text j being f j, lies in memory. -/
def RdS (w : World) (ao : Option Addr) (n : Nat) (f : Nat → ByteArray) : Prop := ∀ j, j < n → ∃ g, ao = some ⟨g, 0, none⟩ ∧ g < w.heap.size ∧ w.cell? ⟨g, j, none⟩ = some (.string (f j))
theorem RdS.below {w w' : World} {ao : Option Addr} {n B : Nat} {f : Nat → ByteArray} (h : RdS w ao n f) (hB : Below B w w') (hle : w.heap.size ≤ B) : RdS w' ao n f := by
  intro j hj
  obtain ⟨g, h1, h2, h3⟩ := h j hj
  exact ⟨g, h1, Nat.lt_of_lt_of_le h2 hB.size, (hB.cell (p := ⟨g, j, none⟩) (Nat.lt_of_lt_of_le h2 hle)).trans h3⟩

set_option maxHeartbeats 400000 in
theorem eqS_same (ao bo : Option Addr) (n ca cb : Nat) (f : Nat → ByteArray) (w : World) (hn : n ≤ 1048576) (hA : RdS w ao n f) (hB : RdS w bo n f) :
    Calls Try.prog 38 #[.slice ao n ca, .slice bo n cb] w fun e w' => e = .returned (.bool true) ∧ Below w.heap.size w w' ∧ w'.heap = w.heap := by
  have HA : Hid _ := hA
  have HB : Hid _ := hB
  clear hA hB
  have q1 : (((n : Int)) != (n : Int)) = false := by simp
  go_enter Try.func38, Try.ntmps38
  go_wp2
  go_loopw [5] (fun iv wr => ∃ i : Nat, i ≤ n ∧ iv = .int .i64 (i : Int) ∧ Below w.heap.size w wr ∧ Hid (wr.heap = w.heap)) (fun iv _ => n - (intOf iv).toNat)
  case atStart => exact ⟨0, by omega, rfl, Below.refl _ _, rfl⟩
  case round =>
    obtain ⟨i, hi, rfl, hbel, hheap⟩ := hrel
    by_cases hlt : i < n
    · obtain ⟨ga, rfl, hga, hca⟩ := HA.out i hlt
      obtain ⟨gb, rfl, hgb, hcb⟩ := HB.out i hlt
      have x1 : wr.cell? ⟨ga, i, none⟩ = some (.string (f i)) := (hbel.cell (p := ⟨ga, i, none⟩) hga).trans hca
      have x2 : wr.cell? ⟨gb, i, none⟩ = some (.string (f i)) := (hbel.cell (p := ⟨gb, i, none⟩) hgb).trans hcb
      clear hca hcb
      have k1 : (i : Int) < (n : Int) := by omega
      have k2 : (0 : Int) ≤ (i : Int) := by omega
      generalize f i = z at x1 x2
      go_wp2_with fail
      go_quiet (fail)
      go_wp2
      go_roundw
      case rel => exact ⟨i + 1, by omega, by go_num, below_drewN hbel _, hheap⟩
      case measure => simp [intOf]; omega
    · go_wp2
      go_ret
      exact ⟨rfl, hbel, hheap⟩

/-- A row of the call's own, its first i texts marked from k on. -/
def mkRow (k : Nat) (xs : List Value) : Nat → List Value
  | 0 => xs
  | i + 1 => (mkRow k xs i).set i (.string (mkT (k + i)))
theorem mkRow_length (k : Nat) (xs : List Value) (i : Nat) : (mkRow k xs i).length = xs.length := by
  induction i with
  | zero => rfl
  | succ i ih => simp [mkRow, ih]
theorem mkRow_at (k : Nat) (xs : List Value) : ∀ i, i ≤ xs.length → ∀ j, j < i → (mkRow k xs i)[j]? = some (.string (mkT (k + j)))
  | 0, _, j, hj => by omega
  | i + 1, hi, j, hj => by
    rw [mkRow, List.getElem?_set]
    by_cases e : i = j
    · rw [if_pos e, if_pos (by rw [mkRow_length]; omega), e]
    · rw [if_neg e]; exact mkRow_at k xs i (by omega) j (by omega)

theorem own_below {w w' : World} {base n : Nat} {e : TypeId} {v : Value} {xs : List Value} (h : w.ownsRow base e 1 v n xs) (hB : Below w.heap.size w w') : w'.ownsRow base e 1 v n xs := by
  refine ⟨h.1, ?_⟩
  rcases h.2 with h2 | ⟨g, cap, cur, hv, hg, hh, r⟩
  · exact .inl h2
  · exact .inr ⟨g, cap, cur, hv, hg, by rw [hB.block g (Array.getElem?_eq_some_iff.1 hh).1]; exact hh, r⟩

set_option maxHeartbeats 400000 in
theorem markS_any (v : Value) (n k : Nat) (xs : List Value) (base : Nat) (w : World) (hn : n ≤ 1048576) (hk : k ≤ 1048576) (hk0 : 0 < k) (hown : w.ownsRow base 9 1 v n xs) (hbase : base ≤ w.heap.size) :
    Calls Try.prog 39 #[v, .int .i64 k] w fun e w' => e = .returned (.int .i64 ((k : Int) + (n : Int))) ∧ w'.ownsRow base 9 1 v n (mkRow k xs n) ∧ Below base w w' := by
  rcases hown.2 with ⟨rfl, rfl⟩ | ⟨g, cap, cur, rfl, hbg, hgg, _⟩
  · go_enter Try.func39, Try.ntmps39
    go_wp2
    refine wp_loop_rounds 1 ?_
    rw [rounds_succ]
    go_wp2
    go_ret
    exact ⟨by simp, hown, Below.refl _ _⟩
  · have hgl := (Array.getElem?_eq_some_iff.1 hgg).1
    have HO : Hid _ := hown
    clear hgg
    go_enter Try.func39, Try.ntmps39
    go_wp2
    go_loopw [1, 5] (fun kv iv wr => ∃ i : Nat, i ≤ n ∧ iv = .int .i64 (i : Int) ∧ kv = .int .i64 ((k : Int) + (i : Int)) ∧ wr.ownsRow base 9 1 (.slice (some ⟨g, 0, none⟩) n cap) n (mkRow k xs i) ∧ Below base w wr) (fun _ iv _ => n - (intOf iv).toNat)
    case atStart => exact ⟨0, by omega, rfl, by simp, HO.out, Below.refl _ _⟩
    case round =>
      obtain ⟨i, hi, rfl, rfl, hown1, hbel⟩ := hrel
      have hbs := hbel.size
      by_cases hlt : i < n
      · have k1 : (i : Int) < (n : Int) := by omega
        have cc := fun w => markText_any (k + i) w (by omega) (by omega)
        obtain ⟨z, hz⟩ : ∃ z, z = mkT (k + i) := ⟨_, rfl⟩
        rw [← hz] at cc
        have CC : Hid _ := cc
        have Z : Hid _ := hz
        have HO1 : Hid _ := hown1
        have hxi : Hid (∃ u, (mkRow k xs i)[i]? = some u) := ⟨(mkRow k xs i)[i]'(by have := hown1.1; omega), List.getElem?_eq_getElem _⟩
        clear hz cc hown1
        go_wp2_with (go_at_call 67; refine (CC.out _).mono ?_; rintro e w2 ⟨rfl, hb2⟩; have hw2 : w2.ownsRow base 9 1 (.slice (some ⟨g, 0, none⟩) n cap) n (mkRow k xs i) := own_below HO1.out hb2; obtain ⟨u, hu⟩ := hxi.out; have x1 : w2.cell? ⟨g, i, none⟩ = some u := (hw2.cellAt i (by omega)).trans hu; have x2 := hw2.frozenAt i; have HW : Hid _ := hw2; clear hw2 hu)
        go_roundw
        case rel =>
          have st := World.ownsRow.stored HW.out i (.string z)
          refine ⟨i + 1, by omega, by go_num, by go_num, ?_, ?_⟩
          · rw [mkRow, ← Z.out]; exact st.1
          · exact (hbel.trans (hb2.mono (Nat.le_trans hbase hbs))).setCell (p := ⟨g, i, none⟩) hbg _
        case measure => simp [intOf]; omega
      · obtain rfl : i = n := by omega
        go_wp2
        go_ret
        exact ⟨rfl, hown1, hbel⟩

set_option maxHeartbeats 400000 in
theorem heldS_any (ao : Option Addr) (n ca k : Nat) (w : World) (hn : n ≤ 1048576) (hk : k ≤ 1048576) (hk0 : 0 < k) (hA : RdS w ao n (fun j => mkT (k + j))) :
    Calls Try.prog 40 #[.slice ao n ca, .int .i64 k] w fun e w' => e = .returned (.int .i64 ((k : Int) + (n : Int))) ∧ Below w.heap.size w w' := by
  have HA : Hid _ := hA
  clear hA
  go_enter Try.func40, Try.ntmps40
  go_wp2
  go_loopw [1, 5] (fun kv iv wr => ∃ i : Nat, i ≤ n ∧ iv = .int .i64 (i : Int) ∧ kv = .int .i64 ((k : Int) + (i : Int)) ∧ Below w.heap.size w wr) (fun _ iv _ => n - (intOf iv).toNat)
  case atStart => exact ⟨0, by omega, rfl, by simp, Below.refl _ _⟩
  case round =>
    obtain ⟨i, hi, rfl, rfl, hbel⟩ := hrel
    have hbs := hbel.size
    by_cases hlt : i < n
    · obtain ⟨g, rfl, hg, hc⟩ := HA.out i hlt
      have x1 : wr.cell? ⟨g, i, none⟩ = some (.string (mkT (k + i))) := (hbel.cell (p := ⟨g, i, none⟩) hg).trans hc
      clear hc
      have k1 : (i : Int) < (n : Int) := by omega
      have k2 : (0 : Int) ≤ (i : Int) := by omega
      have cc := fun w => markText_any (k + i) w (by omega) (by omega)
      obtain ⟨z, hz⟩ : ∃ z, z = mkT (k + i) := ⟨_, rfl⟩
      rw [← hz] at cc x1
      have CC : Hid _ := cc
      clear hz cc
      have hgr : g < wr.heap.size := Nat.lt_of_lt_of_le hg hbs
      go_wp2_with fail
      go_region_held3 (fun w' => w'.cell? ⟨g, i, none⟩ = some (.string z)) (first | go_keep | exact (hb2.cell (p := ⟨g, i, none⟩) hgr).trans x1) ((go_at_call 67; refine (CC.out _).mono ?_; rintro e w2 ⟨rfl, hb2⟩))
      all_goals
        go_wp2
        go_roundw
        case rel => exact ⟨i + 1, by omega, by go_num, by go_num, hbel.drew.trans (hb2.mono hbs)⟩
        case measure => simp [intOf]; omega
    · obtain rfl : i = n := by omega
      go_wp2
      go_ret
      exact ⟨rfl, hbel⟩
theorem rds_of_own {w : World} {base n ca : Nat} {e : TypeId} {ao : Option Addr} {xs : List Value} {f : Nat → ByteArray} (h : w.ownsRow base e 1 (.slice ao n ca) n xs) (hf : ∀ j, j < n → xs[j]? = some (.string (f j))) : RdS w ao n f := by
  intro j hj
  rcases h.2 with ⟨hv, h0⟩ | ⟨g, cap, cur, hv, _, hh, _⟩
  · omega
  · have hg : (Value.slice ao n ca).ownBlock = some g := by rw [hv]; rfl
    simp only [Value.slice.injEq] at hv
    refine ⟨g, hv.1, (Array.getElem?_eq_some_iff.1 hh).1, ?_⟩
    have := h.cells hg j _ (hf j hj)
    rw [Addr.add_lit, Nat.zero_add] at this
    exact this
theorem sc_at (l : List ByteArray) : ∀ j, j < l.length → (sc l)[j]? = some (.string (l.getD j ⟨#[]⟩)) := by
  intro j hj
  simp [sc, hj]
end Go.Proofs.Ytahglnojllkjdaa
