/- What the model answers: a table that begins to grow. -/
import Derived.Test.YtahglnojllkjdaaTabSD
namespace Go.Proofs.Ytahglnojllkjdaa
open Go.RowKit

set_option maxRecDepth 100000 in
set_option maxHeartbeats 4000000 in
theorem specGrow_any (ao a' : Option Addr) (l o : List Ce) (ca ca' : Nat) (mv : Int) (w : World) (hl : l.length ≤ 1048576) (hl' : o.length ≤ 1048576) (hA : RdC w ao l) (hA' : RdC w a' o) :
    Calls Try.prog 30 #[tbV ao l.length ca a' o.length ca' mv] w fun e w' => MadeT w w' e (growOk l o mv) (growR l) := by
  have CB := hide1 (fun w' (hb : Below w.heap.size w w') => specTOk_any ao a' l o ca ca' mv w' hl hl' (hA.later hb) (hA'.later hb))
  have HA := hide1 hA
  have HA' := hide1 hA'
  have F0 := hide1 (boxes w #[.slice ao l.length ca, .slice a' o.length ca', .int .i64 mv] #[.slice none 0 0, .slice none 0 0, .int .i64 0] 26)
  clear hA hA'
  unfold tbV at CB ⊢
  go_enter Try.func30, Try.ntmps30
  go_wp2_with fail
  generalize ((w.alloc (.cells #[.slice ao l.length ca, .slice a' o.length ca', .int .i64 mv] 26)).alloc (.cells #[.slice none 0 0, .slice none 0 0, .int .i64 0] 26)) = w0 at F0 ⊢
  obtain ⟨K0, R0, B0⟩ := F0.out
  have hs0 : w.heap.size < w0.heap.size := K0.lt
  have hs1 : w.heap.size + 1 < w0.heap.size := R0.lt
  have K0 := hide1 K0
  have R0 := hide1 R0
  have B0 := hide1 B0
  clear F0
  refine (CB.out w0 B0.out).mono ?_
  rintro e w1 ⟨x, rfl, hx, hb1⟩
  have HX := hide1 hx
  have K1 := hide1 (K0.out.below hb1 hs0)
  have R1 := hide1 (R0.out.below hb1 hs1)
  have B1 := hide1 (B0.out.trans (hb1.mono B0.out.size))
  have S1 := hide1 hb1.size
  clear hb1 CB hx K0 R0
  rcases x with _ | _
  · have HNO := hide1 (show ¬ OkT l o mv from fun h => by have := HX.out.2 h; cases this)
    clear HX
    have HN := hide1 (MadeT.no (r := w.heap.size + 1) (R := growR l) (ok := growOk l o mv) B1.out (by omega) (fun h => HNO.out h.1.1) (.slice none 0 0) (.slice none 0 0) (.int .i64 0))
    have HH := hide1 (put3_blk R1.out (.slice none 0 0) (.slice none 0 0) (.int .i64 0))
    have y0 : w1.cell? ⟨w.heap.size + 1, 0, none⟩ = some (.slice none 0 0) := R1.out.cell 0
    have y1 : w1.cell? ⟨w.heap.size + 1, 1, none⟩ = some (.slice none 0 0) := R1.out.cell 1
    have y2 : w1.cell? ⟨w.heap.size + 1, 2, none⟩ = some (.int .i64 0) := R1.out.cell 2
    have yf : ∀ j, w1.frozen? ⟨w.heap.size + 1, j, none⟩ = false := fun j => R1.out.froz j
    unfold put3 at HN HH
    go_wp2
    refine bodyPost_ret (res2 Try.results30 _ _ (w.heap.size + 1) 26 #[.slice none 0 0, .slice none 0 0, .int .i64 0] (0, 0) _ rfl HH.out Try.underlying26 rfl (by kernel_rfl)) rfl ?_
    exact HN.out
  · have HOK := hide1 (HX.out.1 rfl)
    have HLN := hide1 HOK.out.len
    have hle := HLN.out.1
    clear HX
    have x0 : w1.cell? ⟨w.heap.size, 0, none⟩ = some (.slice ao l.length ca) := K1.out.cell 0
    have x1 : w1.cell? ⟨w.heap.size, 1, none⟩ = some (.slice a' o.length ca') := K1.out.cell 1
    by_cases c0 : o.length = 0
    · have q0 : ¬ 0 < o.length := by omega
      have HC0 := hide1 c0
      clear c0
      by_cases c1 : 2 * l.length ≤ 64
      · have q1 : decide (64 < 2 * (l.length : Int)) = false := decide_eq_false (by omega)
        have HP := hide1 (show growOk l o mv from ⟨HOK.out, HC0.out, c1⟩)
        have CN := hide1 (fun w' => specCells_any (2 * l.length) w' (by omega))
        rw [show ((2 * l.length : Nat) : Int) = 2 * (l.length : Int) by omega] at CN
        have wm : IntKind.i64.wrap (2 * (l.length : Int)) = 2 * (l.length : Int) := IntWalk.i64_in _ ⟨by omega, by omega⟩
        have hkl := K1.out.lt
        have hs2 := R1.out.lt
        have X0 := hide1 x0
        have A1 := hide1 (HA.out.later B1.out).toJ
        clear c1
        go_upto_region 3 with fail
        clear x1 q0 q1
        go_region_held3 (fun w' => w'.cell? ⟨w.heap.size, 0, none⟩ = some (.slice ao l.length ca)) (first | go_keep | exact (D3.out.cell hkl).trans X0.out | exact (D2.out.cell hkl).trans X0.out) ((first | (refine step_app rfl (.tmp 26) (.tmp 28) rfl _ ao l.length ca l rfl rfl rfl HLN.out.2.2 (A1.out.later (D2.out.trans ((show Below w2.heap.size w2 _ by go_grown).mono D2.out.size))) (by omega) ?_; intro b2 c2 w3 hbb ho2 hb2; have E3 : Hid (Below w2.heap.size w2 w3) := (show Below w2.heap.size w2 _ by go_grown).trans (hb2.mono (by go_size)); have D3 : Hid (Below w1.heap.size w1 w3) := D2.out.trans (E3.out.mono D2.out.size); have O2 : Hid (w3.ownsRow w2.heap.size 65 2 (.slice (some ⟨b2, 0, none⟩) l.length c2) l.length (ces l)) := own_base ho2 (by go_size); clear ho2 hb2; have r4 := R1.out.below D3.out hs2; have y0 : w3.cell? ⟨w.heap.size + 1, 0, none⟩ = some (.slice none 0 0) := r4.cell 0; have y1 : w3.cell? ⟨w.heap.size + 1, 1, none⟩ = some (.slice none 0 0) := r4.cell 1; have y2 : w3.cell? ⟨w.heap.size + 1, 2, none⟩ = some (.int .i64 0) := r4.cell 2; have yf : ∀ j, w3.frozen? ⟨w.heap.size + 1, j, none⟩ = false := fun j => r4.froz j; have R4 := hide1 r4; clear r4) | (go_at_call 43; refine (CN.out _).mono ?_; rintro e w2 ⟨bo, c1, rfl, ho1, hb1⟩; have D2 : Hid (Below w1.heap.size w1 w2) := (show Below w1.heap.size w1 _ by go_grown).trans (hb1.mono (by go_size)); have O1 : Hid (w2.ownsRow w1.heap.size 65 2 (.slice bo (2 * l.length) c1) (2 * l.length) (ces (List.replicate (2 * l.length) nC))) := own_base ho1 (by go_size); clear ho1 hb1)))
        all_goals go_wp2
        all_goals
          have l2 := O2.out.lt b2 rfl
          have d2 := D2.out.size
          have f0 := B0.out.size
          have f1 := S1.out
          have HN := MadeT.fin (r := w.heap.size + 1) (ok := growOk l o mv) (R := growR l) (M := 0) (L := List.replicate (2 * l.length) nC) (O := l) (B1.out.trans (D3.out.mono B1.out.size)) (by omega) (own_base (own_kept O1.out E3.out) (by omega)) (List.length_replicate ..) (own_base O2.out (by omega)) rfl (fun k hk hk' => by have e : b2 = k := Option.some.inj hk'; have := (O1.out.lt k hk).2; omega) (fun k hk => by have := (O1.out.lt k hk).1; omega) (fun k hk => by have e : b2 = k := Option.some.inj hk; omega) HP.out rfl (.slice bo (2 * l.length) c1) (.slice (some ⟨b2, 0, none⟩) l.length c2) (.int .i64 0)
          have HH := put3_blk R4.out (.slice bo (2 * l.length) c1) (.slice (some ⟨b2, 0, none⟩) l.length c2) (.int .i64 0)
          unfold put3 at HN HH
          refine bodyPost_ret (res2 Try.results30 _ _ (w.heap.size + 1) 26 #[.slice bo (2 * l.length) c1, .slice (some ⟨b2, 0, none⟩) l.length c2, .int .i64 0] (0, 0) _ rfl HH Try.underlying26 rfl (by kernel_rfl)) rfl ?_
          exact HN
      · have q1 : decide (64 < 2 * (l.length : Int)) = true := decide_eq_true (by omega)
        have HNP := hide1 (show ¬ growOk l o mv from fun hp => c1 hp.2.2)
        clear c1
        have HN := hide1 (MadeT.no (r := w.heap.size + 1) (R := growR l) (ok := growOk l o mv) B1.out (by omega) (fun hp => HNP.out hp.1) (.slice none 0 0) (.slice none 0 0) (.int .i64 0))
        have HH := hide1 (put3_blk R1.out (.slice none 0 0) (.slice none 0 0) (.int .i64 0))
        have y0 : w1.cell? ⟨w.heap.size + 1, 0, none⟩ = some (.slice none 0 0) := R1.out.cell 0
        have y1 : w1.cell? ⟨w.heap.size + 1, 1, none⟩ = some (.slice none 0 0) := R1.out.cell 1
        have y2 : w1.cell? ⟨w.heap.size + 1, 2, none⟩ = some (.int .i64 0) := R1.out.cell 2
        have yf : ∀ j, w1.frozen? ⟨w.heap.size + 1, j, none⟩ = false := fun j => R1.out.froz j
        unfold put3 at HN HH
        go_wp2
        refine bodyPost_ret (res2 Try.results30 _ _ (w.heap.size + 1) 26 #[.slice none 0 0, .slice none 0 0, .int .i64 0] (0, 0) _ rfl HH.out Try.underlying26 rfl (by kernel_rfl)) rfl ?_
        exact HN.out
    · have q0 : 0 < o.length := by omega
      have HNP := hide1 (show ¬ growOk l o mv from fun hp => c0 hp.2.1)
      clear c0
      have HN := hide1 (MadeT.no (r := w.heap.size + 1) (R := growR l) (ok := growOk l o mv) B1.out (by omega) (fun hp => HNP.out hp.1) (.slice none 0 0) (.slice none 0 0) (.int .i64 0))
      have HH := hide1 (put3_blk R1.out (.slice none 0 0) (.slice none 0 0) (.int .i64 0))
      have y0 : w1.cell? ⟨w.heap.size + 1, 0, none⟩ = some (.slice none 0 0) := R1.out.cell 0
      have y1 : w1.cell? ⟨w.heap.size + 1, 1, none⟩ = some (.slice none 0 0) := R1.out.cell 1
      have y2 : w1.cell? ⟨w.heap.size + 1, 2, none⟩ = some (.int .i64 0) := R1.out.cell 2
      have yf : ∀ j, w1.frozen? ⟨w.heap.size + 1, j, none⟩ = false := fun j => R1.out.froz j
      unfold put3 at HN HH
      go_wp2
      refine bodyPost_ret (res2 Try.results30 _ _ (w.heap.size + 1) 26 #[.slice none 0 0, .slice none 0 0, .int .i64 0] (0, 0) _ rfl HH.out Try.underlying26 rfl (by kernel_rfl)) rfl ?_
      exact HN.out

end Go.Proofs.Ytahglnojllkjdaa
