/- A table taken in as a board, by the program. -/
import Derived.Test.YtahglnojllkjdaaTabC
namespace Go.Proofs.Ytahglnojllkjdaa
open Go.RowKit

theorem RdC.toJ {w : World} {a : Option Addr} {l : List Ce} (h : RdC w a l) : RdJ w a l := by
  intro i hi
  obtain ⟨g, ha, hg, hc⟩ := h.at i hi
  exact ⟨g, 0, ha, hg, by rw [Nat.zero_add]; exact hc.1, by rw [Nat.zero_add]; exact hc.2⟩
/-- The numbers of a table are as they should be. -/
def numT (l o : List Ce) (mv : Int) : Prop := (l.length = 4 ∨ l.length = 8 ∨ l.length = 16 ∨ l.length = 32 ∨ l.length = 64) ∧ (o.length = 0 ∨ 2 * o.length = l.length) ∧ 0 ≤ mv ∧ mv ≤ (o.length : Int)
theorem OkT.num {l o : List Ce} {mv : Int} (h : OkT l o mv) : numT l o mv := ⟨h.size, h.half, h.moved.1, h.moved.2⟩
theorem Brd.set {B b g mv : Nat} {w : World} {l o : List Ce} (h : Brd B w b g l o mv) (m : Nat) : Brd B (w.setCell ⟨b, 2, none⟩ (.int .i64 (m : Int))) b g l o m :=
  ⟨h.lb, h.lg, h.ne, h.hd.set 2 _, h.tl.far _ _ (fun e => h.ne e.symm)⟩

set_option maxRecDepth 100000 in
set_option maxHeartbeats 4000000 in
theorem boardOf_any (ao a' : Option Addr) (l o : List Ce) (ca ca' : Nat) (mv : Int) (w : World) (hl : l.length ≤ 1048576) (hl' : o.length ≤ 1048576) (hA : RdJ w ao l) (hA' : RdJ w a' o) :
    Calls Try.prog 55 #[tbV ao l.length ca a' o.length ca' mv] w fun e w' => ((∃ b g m, e = .returned (.tuple #[.pointer (some ⟨b, 0, none⟩), .bool true]) ∧ mv = ((m : Nat) : Int) ∧ OkT l o mv ∧ Brd w.heap.size w' b g l o m) ∨ (∃ v, e = .returned (.tuple #[.pointer v, .bool false]) ∧ ¬ OkT l o mv)) ∧ Below w.heap.size w w' := by
  have CZ := hide1 (fun w => sizeFits_any (l.length : Int) w)
  have HA := hide1 hA
  have HA' := hide1 hA'
  have F0 : Hid (Blk (w.alloc (.cells #[.slice ao l.length ca, .slice a' o.length ca', .int .i64 mv] 26)) w.heap.size 26 [.slice ao l.length ca, .slice a' o.length ca', .int .i64 mv] ∧ Below w.heap.size w (w.alloc (.cells #[.slice ao l.length ca, .slice a' o.length ca', .int .i64 mv] 26))) := ⟨Blk.new w _ _, (Below.refl _ _).alloc (Nat.le_refl _) _⟩
  clear hA hA'
  unfold tbV
  go_enter Try.func55, Try.ntmps55
  go_wp2_with fail
  generalize (w.alloc (.cells #[.slice ao l.length ca, .slice a' o.length ca', .int .i64 mv] 26)) = w0 at F0 ⊢
  obtain ⟨K0, B0⟩ := F0.out
  have v0 : w0.cell? ⟨w.heap.size, 0, none⟩ = some (.slice ao l.length ca) := K0.cell 0
  have v1 : w0.cell? ⟨w.heap.size, 1, none⟩ = some (.slice a' o.length ca') := K0.cell 1
  have v2 : w0.cell? ⟨w.heap.size, 2, none⟩ = some (.int .i64 mv) := K0.cell 2
  have K0 := hide1 K0
  have B0 := hide1 B0
  clear F0
  go_quiet (fail)
  rename_i nq
  have K1 : Hid (Blk (w0.drewN nq) w.heap.size 26 [.slice ao l.length ca, .slice a' o.length ca', .int .i64 mv]) := K0.out.below (below_dr (Below.refl _ _) nq) K0.out.lt
  have B1 := hide1 (below_dr B0.out nq)
  generalize w0.drewN nq = w1 at K1 B1 ⊢
  clear v0 v1 v2 K0 B0
  go_wp2_with fail
  have u2 : w1.cell? ⟨w.heap.size, 2, none⟩ = some (.int .i64 mv) := K1.out.cell 2
  refine (CZ.out w1).mono ?_
  rintro e w2 ⟨x, rfl, hx, rfl⟩
  have HX := hide1 hx
  clear hx CZ
  rcases x with _ | _
  · have HN := hide1 (show ¬ OkT l o mv from fun h => by have h1 := h.size; have := HX.out.2 (by omega); cases this)
    clear HX
    go_wp2
    go_ret2
    exact ⟨.inr ⟨none, rfl, HN.out⟩, B1.out⟩
  have HSZ := hide1 (show l.length = 4 ∨ l.length = 8 ∨ l.length = 16 ∨ l.length = 32 ∨ l.length = 64 by have := HX.out.1 rfl; omega)
  clear HX
  by_cases c2 : o.length = 0 ∨ 2 * o.length = l.length
  · have hgo : Hid (((o.length : Int) != 0) = false ∨ (((o.length : Int) != 0) = true ∧ ((o.length : Int) != (l.length : Int) / 2) = false)) := by
      show _ ∨ _
      by_cases h0 : o.length = 0
      · left; simp [h0]
      · right
        have e : (o.length : Int) = (l.length : Int) / 2 := by omega
        constructor
        · simp; intro e; exact h0 (by rw [e]; rfl)
        · rw [← e]; simp
    have HC2 := hide1 c2
    clear c2
    by_cases c3 : mv < 0
    · have q3 : decide (mv < 0) = true := decide_eq_true c3
      have HN := hide1 (show ¬ OkT l o mv from fun h => by have := h.moved.1; omega)
      clear c3
      rcases hgo.out with g1 | ⟨g1, g2⟩
      · go_wp2
        go_ret2
        exact ⟨.inr ⟨none, rfl, HN.out⟩, B1.out⟩
      · go_wp2
        go_ret2
        exact ⟨.inr ⟨none, rfl, HN.out⟩, B1.out⟩
    · have q3 : decide (mv < 0) = false := decide_eq_false c3
      by_cases c4 : mv ≤ (o.length : Int)
      · have q4 : decide ((o.length : Int) < mv) = false := decide_eq_false (by omega)
        obtain ⟨m, rfl⟩ := Int.eq_ofNat_of_zero_le (show 0 ≤ mv by omega)
        have hmo : m ≤ o.length := by omega
        have CN := hide1 (newBoard_any l.length o.length w1 (by have := HSZ.out; have := HC2.out; omega))
        have OKI := hide1 (okT_iff (mv := m) HSZ.out HC2.out hmo)
        clear c3 c4
        rcases hgo.out with g1 | ⟨g1, g2⟩
        all_goals
          go_wp2_with fail
          refine CN.out.mono ?_
          rintro e w2 ⟨b, g, rfl, hbr, hb2⟩
          have D2 := hide1 hbr
          have K2 := hide1 (K1.out.below hb2 K1.out.lt)
          have B2 := hide1 (B1.out.trans (hb2.mono B1.out.size))
          have hb0 : w1.heap.size ≤ b := hbr.lb
          have hg0 : w1.heap.size ≤ g := hbr.lg
          have hws : w.heap.size < w1.heap.size := K1.out.lt
          clear hbr hb2 CN u2
          go_wp2
          have x0 : w2.cell? ⟨b, 0, none⟩ = some (.slice (some ⟨g, 0, none⟩) l.length l.length) := by have := D2.out.hd.cell 0; rw [List.length_replicate] at this; exact this
          have y0 : w2.cell? ⟨w.heap.size, 0, none⟩ = some (.slice ao l.length ca) := K2.out.cell 0
          have XY := hide1 (And.intro x0 y0)
          have A2 := hide1 (HA.out.later B2.out)
          go_region_held3 (fun w' => w'.cell? ⟨b, 0, none⟩ = some (.slice (some ⟨g, 0, none⟩) l.length l.length) ∧ w'.cell? ⟨w.heap.size, 0, none⟩ = some (.slice ao l.length ca)) (first | go_keep | exact XY.out | exact ⟨(World.cell?_of_block (w := w2) (hne b (fun e => D2.out.ne e))).trans XY.out.1, (World.cell?_of_block (w := w2) (hne w.heap.size (by omega))).trans XY.out.2⟩) ((refine step_copyC rfl (.tmp 43) (.tmp 45) rfl (some ⟨g, 0, none⟩) ao l.length l.length ca g l [] (List.replicate l.length nC) (List.replicate o.length nC) (by rfl) (by rfl) rfl (by simp) (fun _ => rfl) (Blk.below D2.out.tl (Below.refl _ _).drew D2.out.tl.lt) (A2.out.later (Below.refl _ _).drew) ?_; intro w4 hcr hne0 hsz hcb; have hne : ∀ k, k ≠ g → w4.heap[k]? = w2.heap[k]? := hne0))
          have D4 : Hid (Brd w1.heap.size w4 b g l (List.replicate o.length nC) 0) := by
            refine ⟨hb0, hg0, D2.out.ne, ?_, hcr⟩
            have := D2.out.hd
            rw [List.length_replicate] at this
            exact (hne b D2.out.ne).trans this
          have hcc : Hid (Below w1.heap.size w2 w4) := ((Below.refl _ _).drew.trans hcb).mono hg0
          have K4 := hide1 (K2.out.below hcc.out hws)
          have B4 := hide1 (B2.out.trans (hcc.out.mono B1.out.size))
          have A4 := hide1 (HA'.out.later B4.out)
          clear hcr hne0 hne hsz hcb XY A2 x0 y0 K2 D2 hcc
          have x1 : w4.cell? ⟨b, 1, none⟩ = some (.slice (oldP g l.length o.length) o.length o.length) := by have := D4.out.hd.cell 1; rw [List.length_replicate] at this; exact this
          have y1 : w4.cell? ⟨w.heap.size, 1, none⟩ = some (.slice a' o.length ca') := K4.out.cell 1
          have XY := hide1 (And.intro x1 y1)
          obtain ⟨op, hop⟩ : ∃ op, oldP g l.length o.length = op := ⟨_, rfl⟩
          have HOP := hide1 (fun (h : o.length ≠ 0) => show op = some ⟨g, l.length * 2, none⟩ by rw [← hop]; exact if_neg h)
          rw [hop] at x1 XY
          have HOP0 := hide1 hop
          clear hop
          go_wp2
          go_region_held3 (fun w' => w'.cell? ⟨b, 1, none⟩ = some (.slice op o.length o.length) ∧ w'.cell? ⟨w.heap.size, 1, none⟩ = some (.slice a' o.length ca')) (first | go_keep | exact XY.out | exact ⟨(World.cell?_of_block (w := w4) (hne b (fun e => D4.out.ne e))).trans XY.out.1, (World.cell?_of_block (w := w4) (hne w.heap.size (by omega))).trans XY.out.2⟩) ((refine step_copyC rfl (.tmp 50) (.tmp 52) rfl op a' o.length o.length ca' g o l (List.replicate o.length nC) [] (by rfl) (by rfl) rfl (by simp) HOP.out (by rw [List.append_nil]; exact Blk.below D4.out.tl (Below.refl _ _).drew D4.out.tl.lt) (A4.out.later (Below.refl _ _).drew) ?_; intro w5 hcr hne0 hsz hcb; have hne : ∀ k, k ≠ g → w5.heap[k]? = w4.heap[k]? := hne0))
          have D5 : Hid (Brd w1.heap.size w5 b g l o 0) := by
            refine ⟨hb0, hg0, D4.out.ne, ?_, by rw [List.append_nil] at hcr; exact hcr⟩
            have := D4.out.hd
            rw [List.length_replicate] at this
            exact (hne b D4.out.ne).trans this
          have hcc : Hid (Below w1.heap.size w4 w5) := ((Below.refl _ _).drew.trans hcb).mono hg0
          have K5 := hide1 (K4.out.below hcc.out hws)
          have B5 := hide1 (B4.out.trans (hcc.out.mono B1.out.size))
          clear hcr hne0 hne hsz hcb XY A4 x1 y1 K4 D4 hcc HOP HOP0
          have x2 : w5.cell? ⟨b, 2, none⟩ = some (.int .i64 ((0 : Nat) : Int)) := D5.out.hd.cell 2
          have f2 := D5.out.hd.froz 2
          have y2 : w5.cell? ⟨w.heap.size, 2, none⟩ = some (.int .i64 (m : Int)) := K5.out.cell 2
          have D6 := hide1 (D5.out.set m)
          have B6 : Hid (Below w.heap.size w (w5.setCell ⟨b, 2, none⟩ (.int .i64 (m : Int)))) := B5.out.setCell (p := ⟨b, 2, none⟩) (by have := B1.out.size; dsimp only; omega) _
          clear D5 K5
          go_wp2_with fail
          generalize (w5.setCell ⟨b, 2, none⟩ (.int .i64 (m : Int))) = w6 at D6 B6 ⊢
          have CR := hide1 (right_any (some ⟨g, 0, none⟩) (oldP g l.length o.length) l o l.length o.length m D6.out.hd hl hl' hmo (Nat.le_refl _) D6.out.cells D6.out.olds)
          refine CR.out.mono ?_
          rintro e w7 ⟨x, rfl, hx, hb7⟩
          have HX := hide1 hx
          have D7 := hide1 (D6.out.later hb7)
          have B7 := hide1 (B6.out.trans (hb7.mono B6.out.size))
          clear hx hb7 D6 B6 x2 f2 y2
          rcases x with _ | _
          · have HN := hide1 (show ¬ OkT l o (m : Int) from fun h => by have := HX.out.2 (OKI.out.1 h); cases this)
            clear HX
            go_wp2
            go_ret2
            exact ⟨.inr ⟨_, rfl, HN.out⟩, B7.out⟩
          · have HY := hide1 (show OkT l o (m : Int) from OKI.out.2 (HX.out.1 rfl))
            clear HX
            go_wp2
            go_ret2
            exact ⟨.inl ⟨b, g, m, rfl, rfl, HY.out, ⟨by have := B1.out.size; omega, by have := B1.out.size; omega, D7.out.ne, D7.out.hd, D7.out.tl⟩⟩, B7.out⟩
      · have q4 : decide ((o.length : Int) < mv) = true := decide_eq_true (by omega)
        have HN := hide1 (show ¬ OkT l o mv from fun h => by have := h.moved.2; omega)
        clear c4
        rcases hgo.out with g1 | ⟨g1, g2⟩
        · go_wp2
          go_ret2
          exact ⟨.inr ⟨none, rfl, HN.out⟩, B1.out⟩
        · go_wp2
          go_ret2
          exact ⟨.inr ⟨none, rfl, HN.out⟩, B1.out⟩
  · have g1 : ((o.length : Int) != 0) = true := by simp; intro e; exact c2 (.inl (by rw [e]; rfl))
    have g2 : ((o.length : Int) != (l.length : Int) / 2) = true := by simp; have := HSZ.out; omega
    have HN := hide1 (show ¬ OkT l o mv from fun h => c2 h.half)
    clear c2
    go_wp2
    go_ret2
    exact ⟨.inr ⟨none, rfl, HN.out⟩, B1.out⟩
end Go.Proofs.Ytahglnojllkjdaa
