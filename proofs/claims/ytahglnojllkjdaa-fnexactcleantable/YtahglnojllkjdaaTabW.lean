/- A table given out, by the program. -/
import Derived.Test.YtahglnojllkjdaaTabD
namespace Go.Proofs.Ytahglnojllkjdaa
open Go.RowKit

set_option maxRecDepth 100000 in
set_option maxHeartbeats 1000000 in
theorem newCells_any (ao : Option Addr) (l : List Ce) (ca : Nat) (w : World) (hl : l.length ≤ 1048576) (hA : RdJ w ao l) :
    Calls Try.prog 75 #[.slice ao l.length ca] w fun e w' => ∃ b, e = .returned (.slice (some ⟨b, 0, none⟩) l.length l.length) ∧ w'.ownsRow w.heap.size 65 2 (.slice (some ⟨b, 0, none⟩) l.length l.length) l.length (ces l) ∧ Below w.heap.size w w' := by
  obtain ⟨i0, hi, hz0, hz1, hz2⟩ := info_parts Try.infoCell
  have HA := hide1 hA
  clear hA
  go_enter Try.func75, Try.ntmps75
  go_wp2_with (first | (at_make; refine wpList_make_full _ rfl _ _ 24 rfl w.heap.size 65 i0 (ceV zC) 2 Try.underlying24 hi hz0 hz1 _ _ _ _ l.length rfl rfl rfl rfl (by rw [hz2]; omega) (by unfold maxLen; omega) (Nat.le_refl _) ?_; intro w0 hown0 hg0; rw [made2] at hown0; have K0 := hide1 (blk_of_own hown0).1; have B0 : Hid (Below w.heap.size w w0) := Below.grown (Below.refl _ _) hg0 (Nat.le_refl _) (by intro k hk; cases hk); have A0 := hide1 (HA.out.later B0.out); obtain ⟨w1, hrun, hcr, hne, hsz, hcb⟩ := copyC_run w0 3 (some ⟨w.heap.size, 0, none⟩) ao l.length l.length ca w.heap.size l [] (List.replicate l.length zC) [] rfl (by simp) (fun _ => rfl) (by simpa using K0.out) A0.out; have K1 : Hid (Blk w1 w.heap.size 65 (ces l)) := (by show Blk _ _ _ _; simpa using hcr); have B1 := hide1 (B0.out.trans hcb); clear hown0 hg0 hcr hne hsz hcb))
  clear A0 K0 B0
  go_loopw [13] (fun iv wr => ∃ i : Nat, i ≤ l.length ∧ iv = .int .i64 (i : Int) ∧ Hid (Blk wr w.heap.size 65 (ces l)) ∧ Hid (Below w.heap.size w wr)) (fun iv _ => l.length - (intOf iv).toNat)
  case atStart => exact ⟨0, by omega, rfl, K1, B1⟩
  case round =>
    obtain ⟨i, hi, rfl, hK, hbel⟩ := hrel
    by_cases hlt : i < l.length
    · have k1 : (i : Int) < (l.length : Int) := by omega
      have x0 : wr.cell? ⟨w.heap.size, i * 2, none⟩ = some (.string l[i].key) := by rw [hK.out.cell, ces_at0 hlt]
      have CN := hide1 (fun w => newT_any l[i].key w)
      have HS : Hid (∀ w', Blk w' w.heap.size 65 (ces l) → Blk (w'.setCell ⟨w.heap.size, i * 2, none⟩ (.string l[i].key)) w.heap.size 65 (ces l)) := by
        intro w' h
        have := h.set (i * 2) (.string l[i].key)
        rw [ces_setT hlt] at this
        have e : l.set i ⟨l[i].key, l[i].h⟩ = l := List.set_getElem_self hlt
        rw [e] at this
        exact this
      have HC : Hid (∀ w', Blk w' w.heap.size 65 (ces l) → w'.cell? ⟨w.heap.size, i * 2, none⟩ = some (.string l[i].key)) := fun w' h => by rw [h.cell, ces_at0 hlt]
      generalize l[i].key = ky at *
      go_wp2_with fail
      refine (CN.out _).mono ?_
      rintro e w2 ⟨rfl, hb2⟩
      have K2 := hide1 (hK.out.below hb2 hK.out.lt)
      have B2 := hide1 (hbel.out.trans (hb2.mono hbel.out.size))
      have y0 := HC.out w2 K2.out
      have f0 := K2.out.froz (i * 2)
      have K3 := hide1 (HS.out w2 K2.out)
      have B3 : Hid (Below w.heap.size w (w2.setCell ⟨w.heap.size, i * 2, none⟩ (.string ky))) := B2.out.setCell (p := ⟨w.heap.size, i * 2, none⟩) (Nat.le_refl _) _
      clear hb2 x0 hK hbel HS HC K2 B2
      go_wp2
      go_roundw
      case rel => exact ⟨i + 1, by omega, by go_num, K3, B3⟩
      case measure => simp [intOf]; omega
    · obtain rfl : i = l.length := by omega
      have HO := hide1 (own_of_blk (n := l.length) (size := 2) (base := w.heap.size) hK.out (by rw [ces_length]) (Nat.le_refl _) (by unfold maxLen; omega))
      clear hK
      go_wp2
      go_ret
      exact ⟨_, rfl, HO.out, hbel.out⟩
end Go.Proofs.Ytahglnojllkjdaa
