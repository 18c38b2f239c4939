/- What the program answers: a table that begins to grow. -/
import Derived.Test.YtahglnojllkjdaaTabAB
namespace Go.Proofs.Ytahglnojllkjdaa
open Go.RowKit

def growR (l : List Ce) : Option (List Ce × List Ce × Int) := some (List.replicate (2 * l.length) nC, l, 0)
def growOk (l o : List Ce) (mv : Int) : Prop := OkT l o mv ∧ o.length = 0 ∧ 2 * l.length ≤ 64

set_option maxRecDepth 100000 in
set_option maxHeartbeats 4000000 in
theorem implGrow_any (ao a' : Option Addr) (l o : List Ce) (ca ca' : Nat) (mv : Int) (w : World) (hl : l.length ≤ 1048576) (hl' : o.length ≤ 1048576) (hA : RdJ w ao l) (hA' : RdJ w a' o) :
    Calls Try.prog 31 #[tbV ao l.length ca a' o.length ca' mv] w fun e w' => MadeT w w' e (growOk l o mv) (growR l) := by
  have CB := hide1 (fun w' (hb : Below w.heap.size w w') => boardOf_any ao a' l o ca ca' mv w' hl hl' (hA.later hb) (hA'.later hb))
  have F0 := hide1 (boxes w #[.slice ao l.length ca, .slice a' o.length ca', .int .i64 mv] #[.slice none 0 0, .slice none 0 0, .int .i64 0] 26)
  clear hA hA'
  unfold tbV at CB ⊢
  go_enter Try.func31, Try.ntmps31
  go_wp2_with fail
  generalize ((w.alloc (.cells #[.slice ao l.length ca, .slice a' o.length ca', .int .i64 mv] 26)).alloc (.cells #[.slice none 0 0, .slice none 0 0, .int .i64 0] 26)) = w0 at F0 ⊢
  obtain ⟨K0, R0, B0⟩ := F0.out
  have R0 := hide1 R0
  have B0 := hide1 B0
  clear F0 K0
  refine (CB.out w0 B0.out).mono ?_
  rintro e w1 ⟨hr, hb1⟩
  have R1 := hide1 (R0.out.below hb1 R0.out.lt)
  have B1 := hide1 (B0.out.trans (hb1.mono B0.out.size))
  have S1 := hide1 hb1.size
  have HRS := hide1 R0.out.lt
  clear hb1 CB R0
  have hrs : w.heap.size + 1 < w0.heap.size := HRS.out
  rcases hr with ⟨b, g, m, rfl, hm, hok, hbr⟩ | ⟨v, rfl, hn⟩
  · subst hm
    have HOK := hide1 hok
    have hle := hok.len.1
    have D1 := hide1 hbr
    have x0 : w1.cell? ⟨b, 0, none⟩ = some (.slice (some ⟨g, 0, none⟩) l.length l.length) := hbr.hd.cell 0
    have x1 : w1.cell? ⟨b, 1, none⟩ = some (.slice (oldP g l.length o.length) o.length o.length) := hbr.hd.cell 1
    generalize oldP g l.length o.length = op at *
    clear hok hbr
    by_cases c0 : o.length = 0
    · have q0 : ((o.length : Int) != 0) = false := by simp [c0]
      have HC0 := hide1 c0
      clear c0
      by_cases c1 : 2 * l.length ≤ 64
      · have q1 : decide (64 < 2 * (l.length : Int)) = false := decide_eq_false (by omega)
        have HP := hide1 (show growOk l o (m : Int) from ⟨HOK.out, HC0.out, c1⟩)
        have CN := hide1 (fun w' => newBoard_any (2 * l.length) l.length w' (by omega))
        rw [show ((2 * l.length : Nat) : Int) = 2 * (l.length : Int) by omega] at CN
        have hbl := D1.out.hd.lt
        have wm : IntKind.i64.wrap (2 * (l.length : Int)) = 2 * (l.length : Int) := IntWalk.i64_in _ ⟨by omega, by omega⟩
        have X0 := hide1 x0
        clear c1
        go_upto_region 4 with fail
        clear x1 q0 q1
        go_region_held3 (fun w' => w'.cell? ⟨b, 0, none⟩ = some (.slice (some ⟨g, 0, none⟩) l.length l.length)) (first | go_keep | exact (E2.out.cell hbl).trans X0.out) ((go_at_call 45; refine (CN.out _).mono ?_; rintro e w2 ⟨b2, g2, rfl, hbr2, hb2⟩; have E2 : Hid (Below w1.heap.size w1 w2) := (show Below w1.heap.size w1 _ by go_grown).trans hb2; have D2 : Hid (Brd w1.heap.size w2 b2 g2 (List.replicate (2 * l.length) nC) (List.replicate l.length nC) 0) := hbr2; clear hbr2 hb2))
        have F2 := hide1 (D1.out.later E2.out)
        have R2 := hide1 (R1.out.below E2.out R1.out.lt)
        have B2 := hide1 (B1.out.trans (E2.out.mono B1.out.size))
        have z0 : w2.cell? ⟨b, 0, none⟩ = some (.slice (some ⟨g, 0, none⟩) l.length l.length) := F2.out.hd.cell 0
        have z1 : w2.cell? ⟨b2, 1, none⟩ = some (.slice (oldP g2 (2 * l.length) l.length) l.length l.length) := by have := D2.out.hd.cell 1; rw [List.length_replicate, List.length_replicate] at this; exact this
        have hg2 : w1.heap.size ≤ g2 := D2.out.lg
        have hb2 : w1.heap.size ≤ b2 := D2.out.lb
        have hrl := R1.out.lt
        have hne2 := D2.out.ne
        obtain ⟨op2, hop⟩ : ∃ op2, oldP g2 (2 * l.length) l.length = op2 := ⟨_, rfl⟩
        have HOP := hide1 (fun (h : l.length ≠ 0) => show op2 = some ⟨g2, (List.replicate (2 * l.length) nC).length * 2, none⟩ by rw [List.length_replicate, ← hop]; exact if_neg h)
        rw [hop] at z1
        have Z := hide1 (And.intro z0 z1)
        have HNN := hide1 hne2
        have HB2 := hide1 hbl
        clear hop x0 X0 E2 R1 CN hne2
        go_wp2
        go_region_held3 (fun w' => w'.cell? ⟨b, 0, none⟩ = some (.slice (some ⟨g, 0, none⟩) l.length l.length) ∧ w'.cell? ⟨b2, 1, none⟩ = some (.slice op2 l.length l.length)) (first | go_keep | exact Z.out | exact ⟨(World.cell?_of_block (w := w2) (hne b (by have := HB2.out; omega))).trans Z.out.1, (World.cell?_of_block (w := w2) (hne b2 HNN.out)).trans Z.out.2⟩) ((refine step_copyC rfl (.tmp 47) (.tmp 51) rfl op2 (some ⟨g, 0, none⟩) l.length l.length l.length g2 l (List.replicate (2 * l.length) nC) (List.replicate l.length nC) [] (by rfl) (by rfl) rfl (by simp) HOP.out (by rw [List.append_nil]; exact Blk.below D2.out.tl (Below.refl _ _).drew D2.out.tl.lt) (F2.out.cells.later (Below.refl _ _).drew) ?_; intro w3 hcr hne0 hsz hcb; have hne : ∀ k, k ≠ g2 → w3.heap[k]? = w2.heap[k]? := hne0))
        have D3 : Hid (Brd w1.heap.size w3 b2 g2 (List.replicate (2 * l.length) nC) l 0) := by
          refine ⟨hb2, hg2, HNN.out, ?_, by rw [List.append_nil] at hcr; exact hcr⟩
          have := D2.out.hd
          rw [List.length_replicate (n := l.length)] at this
          exact (hne b2 HNN.out).trans this
        have hcc : Hid (Below w1.heap.size w2 w3) := ((Below.refl _ _).drew.trans hcb).mono hg2
        have R3 := hide1 (R2.out.below hcc.out hrl)
        have B3 := hide1 (B2.out.trans (hcc.out.mono B1.out.size))
        have hl2 : (List.replicate (2 * l.length) nC).length ≤ 1048576 := by rw [List.length_replicate]; omega
        clear hcr hne0 hne hsz hcb hcc R2 B2 D2 F2 z0 z1 Z HOP
        go_wp2_with fail
        have CT := hide1 (table_any (some ⟨g2, 0, none⟩) (oldP g2 (List.replicate (2 * l.length) nC).length (l).length) (List.replicate (2 * l.length) nC) (l) _ _ _ D3.out.hd (hl2) (hl) D3.out.cells D3.out.olds)
        have hrr : w.heap.size + 1 < w3.heap.size := R3.out.lt
        refine CT.out.mono ?_
        rintro e w4 ⟨v, rfl, b3, c3, b4, c4, rfl, ho3, ho4, hne, hb3⟩
        have R9 := hide1 (R3.out.below hb3 R3.out.lt)
        have HN := hide1 (MadeT.yes (r := w.heap.size + 1) (ok := growOk l o (m : Int)) (R := growR l) B3.out (by omega) hrr ho3 ho4 hne hb3 (HP.out) (rfl) (.slice (some ⟨b3, 0, none⟩) (List.replicate (2 * l.length) nC).length c3) (.slice (some ⟨b4, 0, none⟩) (l).length c4) (.int .i64 (0)))
        have HH := hide1 (put3_blk R9.out (.slice (some ⟨b3, 0, none⟩) (List.replicate (2 * l.length) nC).length c3) (.slice (some ⟨b4, 0, none⟩) (l).length c4) (.int .i64 (0)))
        have y0 : w4.cell? ⟨w.heap.size + 1, 0, none⟩ = some (.slice none 0 0) := R9.out.cell 0
        have y1 : w4.cell? ⟨w.heap.size + 1, 1, none⟩ = some (.slice none 0 0) := R9.out.cell 1
        have y2 : w4.cell? ⟨w.heap.size + 1, 2, none⟩ = some (.int .i64 0) := R9.out.cell 2
        have yf : ∀ j, w4.frozen? ⟨w.heap.size + 1, j, none⟩ = false := fun j => R9.out.froz j
        unfold put3 at HN HH
        unfold tbV
        generalize (List.replicate (2 * l.length) nC).length = nL at *
        generalize (l).length = nO at *
        clear ho3 ho4 hb3 CT
        go_wp2
        refine bodyPost_ret (res2 Try.results31 _ _ (w.heap.size + 1) 26 #[.slice (some ⟨b3, 0, none⟩) nL c3, .slice (some ⟨b4, 0, none⟩) nO c4, .int .i64 (0)] (0, 0) _ rfl HH.out Try.underlying26 rfl (by kernel_rfl)) rfl ?_
        exact HN.out
      · have q1 : decide (64 < 2 * (l.length : Int)) = true := decide_eq_true (by omega)
        have HNP := hide1 (show ¬ growOk l o (m : Int) from fun hp => c1 hp.2.2)
        clear c1
        have HN := hide1 (MadeT.no (r := w.heap.size + 1) (R := growR l) (ok := growOk l o (m : Int)) B1.out (by omega) (fun hp => HNP.out hp.1) (.slice none 0 0) (.slice none 0 0) (.int .i64 0))
        have HH := hide1 (put3_blk R1.out (.slice none 0 0) (.slice none 0 0) (.int .i64 0))
        have y0 : w1.cell? ⟨w.heap.size + 1, 0, none⟩ = some (.slice none 0 0) := R1.out.cell 0
        have y1 : w1.cell? ⟨w.heap.size + 1, 1, none⟩ = some (.slice none 0 0) := R1.out.cell 1
        have y2 : w1.cell? ⟨w.heap.size + 1, 2, none⟩ = some (.int .i64 0) := R1.out.cell 2
        have yf : ∀ j, w1.frozen? ⟨w.heap.size + 1, j, none⟩ = false := fun j => R1.out.froz j
        unfold put3 at HN HH
        go_wp2
        refine bodyPost_ret (res2 Try.results31 _ _ (w.heap.size + 1) 26 #[.slice none 0 0, .slice none 0 0, .int .i64 0] (0, 0) _ rfl HH.out Try.underlying26 rfl (by kernel_rfl)) rfl ?_
        exact HN.out
    · have q0 : ((o.length : Int) != 0) = true := by simp; intro e; exact c0 (by rw [e]; rfl)
      have HNP := hide1 (show ¬ growOk l o (m : Int) from fun hp => c0 hp.2.1)
      clear c0
      have HN := hide1 (MadeT.no (r := w.heap.size + 1) (R := growR l) (ok := growOk l o (m : Int)) B1.out (by omega) (fun hp => HNP.out hp.1) (.slice none 0 0) (.slice none 0 0) (.int .i64 0))
      have HH := hide1 (put3_blk R1.out (.slice none 0 0) (.slice none 0 0) (.int .i64 0))
      have y0 : w1.cell? ⟨w.heap.size + 1, 0, none⟩ = some (.slice none 0 0) := R1.out.cell 0
      have y1 : w1.cell? ⟨w.heap.size + 1, 1, none⟩ = some (.slice none 0 0) := R1.out.cell 1
      have y2 : w1.cell? ⟨w.heap.size + 1, 2, none⟩ = some (.int .i64 0) := R1.out.cell 2
      have yf : ∀ j, w1.frozen? ⟨w.heap.size + 1, j, none⟩ = false := fun j => R1.out.froz j
      unfold put3 at HN HH
      go_wp2
      refine bodyPost_ret (res2 Try.results31 _ _ (w.heap.size + 1) 26 #[.slice none 0 0, .slice none 0 0, .int .i64 0] (0, 0) _ rfl HH.out Try.underlying26 rfl (by kernel_rfl)) rfl ?_
      exact HN.out
  · have HNO := hide1 hn
    clear hn
    have HN := hide1 (MadeT.no (r := w.heap.size + 1) (R := growR l) (ok := growOk l o mv) B1.out (by omega) (fun hp => HNO.out hp.1.1) (.slice none 0 0) (.slice none 0 0) (.int .i64 0))
    have HH := hide1 (put3_blk R1.out (.slice none 0 0) (.slice none 0 0) (.int .i64 0))
    have y0 : w1.cell? ⟨w.heap.size + 1, 0, none⟩ = some (.slice none 0 0) := R1.out.cell 0
    have y1 : w1.cell? ⟨w.heap.size + 1, 1, none⟩ = some (.slice none 0 0) := R1.out.cell 1
    have y2 : w1.cell? ⟨w.heap.size + 1, 2, none⟩ = some (.int .i64 0) := R1.out.cell 2
    have yf : ∀ j, w1.frozen? ⟨w.heap.size + 1, j, none⟩ = false := fun j => R1.out.froz j
    unfold put3 at HN HH
    go_wp2
    refine bodyPost_ret (res2 Try.results31 _ _ (w.heap.size + 1) 26 #[.slice none 0 0, .slice none 0 0, .int .i64 0] (0, 0) _ rfl HH.out Try.underlying26 rfl (by kernel_rfl)) rfl ?_
    exact HN.out

end Go.Proofs.Ytahglnojllkjdaa
