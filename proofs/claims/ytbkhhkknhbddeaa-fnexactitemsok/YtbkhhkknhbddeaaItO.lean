/- The program's ItemOf. -/
import Derived.Test.YtbkhhkknhbddeaaItI
namespace Go.Proofs.Ytbkhhkknhbddeaa
open Go.RowKit
set_option linter.unusedVariables false

set_option maxRecDepth 100000 in
set_option maxHeartbeats 2000000 in
theorem implItemOf_any (a : Option Addr) (l : List Im) (ca : Nat) (k : ByteArray) (w : World) (hl : l.length ≤ 1048576) (hz : ∀ x ∈ l, x.k.size ≤ 1048576 ∧ x.v.size ≤ 1048576) (hk : k.size ≤ 1048576) (hA : RdG imC 3 w a l) :
    Calls Try.prog 12 #[.slice a l.length ca, .string k] w fun e w' => e = .returned (.agg #[.string (imOf l k).k, .string (imOf l k).v, .int .i64 (imOf l k).n]) ∧ Below w.heap.size w w' := by
  have HA := hide1 hA
  have F0 := hide1 (And.intro (Blk.new w 26 #[.string ⟨#[]⟩, .string ⟨#[]⟩, .int .i64 0]) ((Below.refl w.heap.size w).alloc (Nat.le_refl _) (.cells #[.string ⟨#[]⟩, .string ⟨#[]⟩, .int .i64 0] 26)))
  clear hA hz hk
  go_enter Try.func12, Try.ntmps12
  go_upto_region 1 with fail
  generalize (w.alloc (.cells #[.string ⟨#[]⟩, .string ⟨#[]⟩, .int .i64 0] 26)) = u at F0 ⊢
  obtain ⟨RB, hRB⟩ : ∃ G, G = w.heap.size := ⟨_, rfl⟩
  have KR := hide1 F0.out.1
  rw [← hRB] at KR ⊢
  have lR : RB < u.heap.size := KR.out.lt
  have hRw : w.heap.size ≤ RB := by omega
  have E0 := hide1 F0.out.2
  clear F0 hRB
  go_wp2
  go_loopw [9] (fun iv wr => ∃ i : Nat, i ≤ l.length ∧ iv = .int .i64 (i : Int) ∧ Hid (∀ j (h : j < l.length), j < i → ¬ l[j].k = k) ∧ Hid (Below u.heap.size u wr)) (fun iv _ => l.length - (intOf iv).toNat)
  case atStart => exact ⟨0, Nat.zero_le _, rfl, hide1 (fun j _ h => by omega), hide1 (Below.refl _ _)⟩
  case round =>
    obtain ⟨i, hi, rfl, HS, BB⟩ := hrel
    have BW := hide1 (E0.out.trans (BB.out.mono E0.out.size))
    have RR := hide1 (KR.out.below BB.out lR)
    by_cases hlt : i < l.length
    · have k1 : (i : Int) < (l.length : Int) := by omega
      obtain ⟨b, o, rfl, hb, hc⟩ := HA.out i hlt
      have x0 : wr.cell? ⟨b, o + i * 3, none⟩ = some (.string l[i].k) := (BW.out.cell (p := ⟨b, o + i * 3, none⟩) hb).trans (hc 0 (by omega))
      have x1 : wr.cell? ⟨b, o + i * 3 + 1, none⟩ = some (.string l[i].v) := (BW.out.cell (p := ⟨b, o + i * 3 + 1, none⟩) hb).trans (hc 1 (by omega))
      have x2 : wr.cell? ⟨b, o + i * 3 + 2, none⟩ = some (.int .i64 l[i].n) := (BW.out.cell (p := ⟨b, o + i * 3 + 2, none⟩) hb).trans (hc 2 (by omega))
      have FX := hide1 (And.intro (Blk.new wr 26 #[.string l[i].k, .string l[i].v, .int .i64 l[i].n]) ((Below.refl wr.heap.size wr).alloc (Nat.le_refl _) (.cells #[.string l[i].k, .string l[i].v, .int .i64 l[i].n] 26)))
      by_cases ce : l[i].k = k
      · have RES := hide1 (imOf_at hlt HS.out ce)
        obtain ⟨q, q'⟩ := text_eq ce
        have CC := hide1 (fun w => newItem_any l[i] w)
        generalize l[i] = s at *
        clear hc ce
        go_upto_region 4 with fail
        generalize (wr.alloc (.cells #[.string s.k, .string s.v, .int .i64 s.n] 26)) = v at FX ⊢
        have y0 : v.cell? ⟨wr.heap.size, 0, none⟩ = some (.string s.k) := FX.out.1.cell 0
        have y1 : v.cell? ⟨wr.heap.size, 1, none⟩ = some (.string s.v) := FX.out.1.cell 1
        have y2 : v.cell? ⟨wr.heap.size, 2, none⟩ = some (.int .i64 s.n) := FX.out.1.cell 2
        have lRw : RB < wr.heap.size := Nat.lt_of_lt_of_le lR BB.out.size
        have RV := hide1 (RR.out.below FX.out.2 lRw)
        have BV := hide1 (BW.out.trans (FX.out.2.mono BW.out.size))
        clear x0 x1 x2 FX
        go_wp2_with fail
        refine (CC.out _).mono ?_
        rintro e w2 ⟨rfl, hb2⟩
        have R2 := hide1 (RV.out.below hb2 RV.out.lt)
        have B2 := hide1 (BV.out.trans (hb2.mono BV.out.size))
        have r0 : w2.cell? ⟨RB, 0, none⟩ = some (.string ⟨#[]⟩) := R2.out.cell 0
        have r1 : w2.cell? ⟨RB, 1, none⟩ = some (.string ⟨#[]⟩) := R2.out.cell 1
        have r2 : w2.cell? ⟨RB, 2, none⟩ = some (.int .i64 0) := R2.out.cell 2
        have rf : ∀ j, w2.frozen? ⟨RB, j, none⟩ = false := fun j => R2.out.froz j
        have hb9 : ∀ (p q r : Value), Below w.heap.size w (((w2.setCell ⟨RB, 0, none⟩ p).setCell ⟨RB, 1, none⟩ q).setCell ⟨RB, 2, none⟩ r) := fun p q r => ((B2.out.setCell (p := ⟨RB, 0, none⟩) hRw p).setCell (p := ⟨RB, 1, none⟩) hRw q).setCell (p := ⟨RB, 2, none⟩) hRw r
        clear hb2
        go_wp2
        refine bodyPost_ret (results_cell_row Try.results12 _ _ RB 26 #[.string s.k, .string s.v, .int .i64 s.n] (0, 0) _ rfl (Blk.set (Blk.set (Blk.set R2.out 0 _) 1 _) 2 _) Try.underlying26 rfl (by kernel_rfl)) rfl ?_
        exact ⟨by rw [RES.out], hb9 _ _ _⟩
      · have NX := hide1 (show ∀ j (h : j < l.length), j < i + 1 → ¬ l[j].k = k from fun j h hj => by
          by_cases c : j < i
          · exact HS.out j h c
          · have : j = i := (by omega)
            subst this
            exact ce)
        obtain ⟨q, q'⟩ := text_ne ce
        generalize l[i] = s at *
        clear hc ce
        go_upto_region 4 with fail
        generalize (wr.alloc (.cells #[.string s.k, .string s.v, .int .i64 s.n] 26)) = v at FX ⊢
        have y0 : v.cell? ⟨wr.heap.size, 0, none⟩ = some (.string s.k) := FX.out.1.cell 0
        have BV := hide1 (BB.out.trans (FX.out.2.mono BB.out.size))
        clear x0 x1 x2 FX
        go_wp2
        go_roundw
        case rel => exact ⟨i + 1, by omega, by go_num, NX, BV⟩
        case measure => simp [intOf]; omega
    · obtain rfl : i = l.length := by omega
      have k1 : ¬ ((l.length : Int) < (l.length : Int)) := by omega
      have RES := hide1 (imOf_nil HS.out)
      have r0 : wr.cell? ⟨RB, 0, none⟩ = some (.string ⟨#[]⟩) := RR.out.cell 0
      have r1 : wr.cell? ⟨RB, 1, none⟩ = some (.string ⟨#[]⟩) := RR.out.cell 1
      have r2 : wr.cell? ⟨RB, 2, none⟩ = some (.int .i64 0) := RR.out.cell 2
      have rf : ∀ j, wr.frozen? ⟨RB, j, none⟩ = false := fun j => RR.out.froz j
      have hb9 : ∀ (p q r : Value), Below w.heap.size w (((wr.setCell ⟨RB, 0, none⟩ p).setCell ⟨RB, 1, none⟩ q).setCell ⟨RB, 2, none⟩ r) := fun p q r => ((BW.out.setCell (p := ⟨RB, 0, none⟩) hRw p).setCell (p := ⟨RB, 1, none⟩) hRw q).setCell (p := ⟨RB, 2, none⟩) hRw r
      go_wp2
      refine bodyPost_ret (results_cell_row Try.results12 _ _ RB 26 #[.string ⟨#[]⟩, .string ⟨#[]⟩, .int .i64 0] (0, 0) _ rfl (Blk.set (Blk.set (Blk.set RR.out 0 _) 1 _) 2 _) Try.underlying26 rfl (by kernel_rfl)) rfl ?_
      exact ⟨by rw [RES.out]; rfl, hb9 _ _ _⟩
end Go.Proofs.Ytbkhhkknhbddeaa
