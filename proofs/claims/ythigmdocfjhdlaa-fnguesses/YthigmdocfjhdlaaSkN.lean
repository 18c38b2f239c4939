/- The model counts a key. -/
import Derived.Test.YthigmdocfjhdlaaSkM
namespace Go.Proofs.Ythigmdocfjhdlaa
open Go.RowKit

theorem bump_less {l : List Int} {k : Nat} (h : gK l k < 15) : bump l k = l.set k (gK l k + 1) := by
  unfold bump
  rw [show min (gK l k + 1) 15 = gK l k + 1 by omega]
theorem bump_full {l : List Int} {k : Nat} (hk : k < l.length) (h : gK l k = 15) : bump l k = l := by
  unfold bump
  rw [h, show min ((15 : Int) + 1) 15 = 15 by omega, ← h, ← gK_get l k hk]
  exact List.set_getElem_self hk

set_option maxRecDepth 100000 in
set_option maxHeartbeats 8000000 in
theorem specCount_any (ao : Option Addr) (l : List Int) (ca : Nat) (ad : Int) (key : ByteArray) (w : World) (hs : key.size ≤ 1048576) (hl : l.length ≤ 1048576) (hA : RdZ w ao l) :
    Calls Try.prog 34 #[skV ao l.length ca ad, .string key] w fun e w' => MadeK w w' e (cntR l ad key) := by
  have C1 := hide1 (fun w' (h : Below w.heap.size w w') => specSCopy_any ao l ca ad w' hl (hA.later h))
  have C2 := hide1 (fun w' (h : Below w.heap.size w w') => specSOk_any ao l ca ad w' (hA.later h))
  have CC := hide1 (fun (r : Nat) (hr : r < 3) w => specAt_any key r w hs hr)
  have F0 := start2 w ao l.length ca ad
  unfold skV at C1 C2 ⊢
  clear hA
  go_enter Try.func34, Try.ntmps34
  go_wp2_with fail
  generalize ((w.alloc (.cells #[.slice ao l.length ca, .int .i64 ad] 28)).alloc (.cells #[.slice none 0 0, .int .i64 0] 28)) = w0 at F0 ⊢
  obtain ⟨K0, K1, B0⟩ := F0.out
  refine (C1.out w0 B0).mono ?_
  rintro e w1 ⟨bo, c, rfl, ho, hb⟩
  dsimp only at ho
  have F3 := hide1 (MidK.start (ad := ad) (K0.below hb K0.lt) (K1.below hb K1.lt) (B0.trans (hb.mono B0.size)) K1.lt ho)
  have J0 := K0.below hb K0.lt
  have x0 : w1.cell? ⟨w.heap.size, 0, none⟩ = some (.slice ao l.length ca) := J0.cell 0
  have x1 : w1.cell? ⟨w.heap.size, 1, none⟩ = some (.int .i64 ad) := J0.cell 1
  have hx : w.heap.size < w1.heap.size := J0.lt
  clear ho hb K0 K1 B0 F0 J0
  unfold skV
  go_wp2_with fail
  generalize w1.alloc (.cells #[.slice bo l.length c, .int .i64 ad] 28) = w3 at F3 ⊢
  generalize w1.heap.size = q at F3 hx ⊢
  refine (C2.out w3 F3.out.bel).mono ?_
  rintro e w4 ⟨x, rfl, hx2, hb4⟩
  have M4 := hide1 (F3.out.later hb4)
  have HX := hide1 hx2
  clear hb4 hx2 F3 x0 x1 C1 C2
  have z0 : w4.cell? ⟨q, 0, none⟩ = some (.slice bo l.length c) := M4.out.out.cell 0
  have z1 : w4.cell? ⟨q, 1, none⟩ = some (.int .i64 ad) := M4.out.out.cell 1
  rcases x with _ | _
  · have HN := hide1 (show ¬ OkK l ad from fun h => by have := HX.out.2 h; cases this)
    have HF := hide1 (M4.out.fin rfl)
    have HR := hide1 (cntR_no (key := key) HN.out)
    have v0 : w4.cell? ⟨w.heap.size + 1, 0, none⟩ = some (.slice none 0 0) := M4.out.res.cell 0
    have v1 : w4.cell? ⟨w.heap.size + 1, 1, none⟩ = some (.int .i64 0) := M4.out.res.cell 1
    have vf : ∀ j, w4.frozen? ⟨w.heap.size + 1, j, none⟩ = false := fun j => M4.out.res.froz j
    clear HX M4
    go_wp2
    refine bodyPost_ret (results_cell_row Try.results34 _ _ (w.heap.size + 1) 28 #[.slice bo l.length c, .int .i64 ad] (0, 0) _ rfl HF.out.1 Try.underlying28 rfl (by kernel_rfl)) rfl ?_
    rw [HR.out]
    exact HF.out.2
  · have HOK := hide1 (HX.out.1 rfl)
    have HL := hide1 HOK.out.1
    have HY := hide1 (cntR_yes (key := key) HOK.out)
    obtain ⟨b, cc, ho⟩ := own_at1 M4.out.own (by have := HL.out; omega)
    simp only [Value.slice.injEq] at ho
    obtain ⟨rfl, _, rfl⟩ := ho
    have h48 : Hid (l.length = 48) := HL
    clear HX z0 z1
    go_wp2
    go_loopw [6] (fun iv wr => ∃ r : Nat, r ≤ 3 ∧ iv = .int .i64 (r : Int) ∧ Hid (MidK w wr [.slice ao l.length ca, .int .i64 ad] q (some ⟨b, 0, none⟩) l.length c ad (addK l key r))) (fun iv _ => 3 - (intOf iv).toNat)
    case atStart => exact ⟨0, by omega, rfl, M4⟩
    case round =>
      obtain ⟨r, hr, rfl, hM⟩ := hrel
      by_cases hlt : r < 3
      · have k1 : (r : Int) < 3 := by omega
        have CD := hide1 (CC.out r hlt)
        have ha := atK_lt key r hlt
        have hal : atK key r < l.length := by have := HL.out; omega
        have hlen : Hid ((addK l key r).length = l.length) := hide1 (addK_length l key r)
        have u0 : wr.cell? ⟨b, atK key r, none⟩ = some (.int .i64 (gK (addK l key r) (atK key r))) := by
          rw [hM.out.own.cellAt (atK key r) (by omega), iz_get _ _ (by rw [hlen.out]; exact hal), gK_get]
        have uf := hM.out.own.frozenAt (atK key r)
        have y0 : wr.cell? ⟨q, 0, none⟩ = some (.slice (some ⟨b, 0, none⟩) l.length c) := hM.out.out.cell 0
        have hc := (HOK.out.in15.add key r).g (atK key r)
        have HB : Hid (addK l key (r + 1) = bump (addK l key r) (atK key r)) := hide1 rfl
        have HB1 := hide1 (bump_less (l := addK l key r) (k := atK key r))
        have HB2 := hide1 (bump_full (l := addK l key r) (k := atK key r) (by rw [hlen.out]; exact hal))
        generalize gK (addK l key r) (atK key r) = s at *
        generalize atK key r = k at *
        have k2 : (k : Int) < (l.length : Int) := by omega
        have c1 := hc.1
        have c2 := hc.2
        clear hc
        go_wp2_with fail
        refine (CD.out _).mono ?_
        rintro e w5 ⟨rfl, rfl⟩
        by_cases c15 : s < 15
        · have q1 : decide (s < 15) = true := by simp [c15]
          have HB3 := hide1 (HB1.out c15)
          go_wp2
          go_region
          all_goals
            go_wp2
            go_roundw
            case rel =>
              refine ⟨r + 1, by omega, by go_num, ?_⟩
              show MidK _ _ _ _ _ _ _ _ (addK l key (r + 1))
              rw [HB.out, HB3.out]
              exact (hM.out.set k (s + 1)).later (Below.refl _ _).drew
            case measure => simp [intOf]; omega
        · have q1 : decide (s < 15) = false := by simp; omega
          have HB3 := hide1 (HB2.out (by omega))
          go_wp2
          go_roundw
          case rel =>
            refine ⟨r + 1, by omega, by go_num, ?_⟩
            show MidK _ _ _ _ _ _ _ _ (addK l key (r + 1))
            rw [HB.out, HB3.out]
            exact hM.out
          case measure => simp [intOf]; omega
      · obtain rfl : r = 3 := by omega
        obtain ⟨A, hA⟩ : ∃ A, addK l key 3 = A := ⟨_, rfl⟩
        rw [hA] at hM
        have LA := hide1 (show A.length = l.length by rw [← hA, addK_length])
        have IA := hide1 (show InK15 A by rw [← hA]; exact HOK.out.in15.add key 3)
        have HR : Hid (cntK l ad key = if ad + 1 = 100 then (halfK A, 0) else (A, ad + 1)) := by show cntK l ad key = _; rw [cntK, hA]
        have a1 := HOK.out.2.1
        have a2 := HOK.out.2.2.1
        have y1 : wr.cell? ⟨q, 1, none⟩ = some (.int .i64 ad) := hM.out.out.cell 1
        have yf : ∀ j, wr.frozen? ⟨q, j, none⟩ = false := fun j => hM.out.out.froz j
        have hqq := hM.out.hq
        clear hA
        by_cases c9 : ad + 1 = 100
        · obtain rfl : ad = 99 := by omega
          have R9 : Hid (cntR l 99 key = (halfK A, 0)) := by show cntR l 99 key = _; rw [HY.out, HR.out, if_pos c9]
          have F5 := hide1 ((hM.out.setAd 100).setAd 0)
          clear HY HR c9 a1 a2
          go_wp2
          generalize ((wr.setCell ⟨q, 1, none⟩ (.int .i64 100)).setCell ⟨q, 1, none⟩ (.int .i64 0)) = w6 at F5 ⊢
          clear hM M4 y1 yf
          go_loopw [8] (fun iv wt => ∃ i : Nat, i ≤ l.length ∧ iv = .int .i64 (i : Int) ∧ Hid (MidK w wt [.slice ao l.length ca, .int .i64 99] q (some ⟨b, 0, none⟩) l.length c 0 (halfI A i))) (fun iv _ => l.length - (intOf iv).toNat)
          case atStart => exact ⟨0, by omega, rfl, F5⟩
          case round =>
            obtain ⟨i, hi, rfl, hM⟩ := hrel
            have y0 : wr.cell? ⟨q, 0, none⟩ = some (.slice (some ⟨b, 0, none⟩) l.length c) := hM.out.out.cell 0
            by_cases hlt : i < l.length
            · have k1 : (i : Int) < (l.length : Int) := by omega
              have hiA : i < A.length := by have := LA.out; omega
              have hlen : Hid ((halfI A i).length = l.length) := hide1 (by rw [halfI_length A i (by omega)]; exact LA.out)
              have u0 : wr.cell? ⟨b, i, none⟩ = some (.int .i64 (gK A i)) := by
                rw [hM.out.own.cellAt i (by omega), iz_get _ i (by rw [hlen.out]; exact hlt), gK_get, halfI_at A i hiA]
              have uf := hM.out.own.frozenAt i
              have hc := IA.out.g i
              have HNX := hide1 (halfI_next A i hiA)
              generalize gK A i = s at *
              have q2 := quo2 hc.1
              have c1 := hc.1
              have c2 := hc.2
              clear hc
              go_wp2
              go_region
              all_goals
                go_wp2
                go_roundw
                case rel =>
                  refine ⟨i + 1, by omega, by go_num, ?_⟩
                  show MidK _ _ _ _ _ _ _ _ (halfI A (i + 1))
                  rw [← HNX.out]
                  exact (hM.out.set i (s / 2)).later (Below.refl _ _).drew
                case measure => simp [intOf]; omega
            · obtain rfl : i = l.length := by omega
              have HF := hide1 (hM.out.fin (by rw [halfI_length A _ (by have := LA.out; omega)]; exact LA.out))
              have HR : Hid (halfI A l.length = halfK A) := hide1 (halfI_all A _ (by have := LA.out; omega))
              have z1 : wr.cell? ⟨q, 1, none⟩ = some (.int .i64 0) := hM.out.out.cell 1
              have v0 : wr.cell? ⟨w.heap.size + 1, 0, none⟩ = some (.slice none 0 0) := hM.out.res.cell 0
              have v1 : wr.cell? ⟨w.heap.size + 1, 1, none⟩ = some (.int .i64 0) := hM.out.res.cell 1
              have vf : ∀ j, wr.frozen? ⟨w.heap.size + 1, j, none⟩ = false := fun j => hM.out.res.froz j
              clear hM F5
              go_wp2
              refine bodyPost_ret (results_cell_row Try.results34 _ _ (w.heap.size + 1) 28 #[.slice (some ⟨b, 0, none⟩) l.length c, .int .i64 0] (0, 0) _ rfl HF.out.1 Try.underlying28 rfl (by kernel_rfl)) rfl ?_
              rw [R9.out, ← HR.out]
              exact HF.out.2
        · have R9 : Hid (cntR l ad key = (A, ad + 1)) := by show cntR l ad key = _; rw [HY.out, HR.out, if_neg c9]
          have q9 : ((ad + 1) == 100) = false := by simp; omega
          have M6 := hM.out.setAd (ad + 1)
          have HF := hide1 (M6.fin LA.out)
          have v0 : wr.cell? ⟨w.heap.size + 1, 0, none⟩ = some (.slice none 0 0) := hM.out.res.cell 0
          have v1 : wr.cell? ⟨w.heap.size + 1, 1, none⟩ = some (.int .i64 0) := hM.out.res.cell 1
          have vf : ∀ j, wr.frozen? ⟨w.heap.size + 1, j, none⟩ = false := fun j => hM.out.res.froz j
          have y0 : wr.cell? ⟨q, 0, none⟩ = some (.slice (some ⟨b, 0, none⟩) l.length c) := hM.out.out.cell 0
          clear HY HR M6 M4 hM
          go_wp2
          refine bodyPost_ret (results_cell_row Try.results34 _ _ (w.heap.size + 1) 28 #[.slice (some ⟨b, 0, none⟩) l.length c, .int .i64 (ad + 1)] (0, 0) _ rfl HF.out.1 Try.underlying28 rfl (by kernel_rfl)) rfl ?_
          rw [R9.out]
          exact HF.out.2
end Go.Proofs.Ythigmdocfjhdlaa
