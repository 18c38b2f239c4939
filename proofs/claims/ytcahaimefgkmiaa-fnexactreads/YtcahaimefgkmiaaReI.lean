/- The program's Reads. -/
import Derived.Test.YtcahaimefgkmiaaReB
import Derived.Test.YtcahaimefgkmiaaDoC
import Derived.Test.YtcahaimefgkmiaaByE
import Derived.Test.YtcahaimefgkmiaaRfI
namespace Go.Proofs.Ytcahaimefgkmiaa
open Go.RowKit Go.Shelf
set_option linter.unusedVariables false

set_option maxRecDepth 100000 in
theorem isRead_any (g p : Cl) (G : Nat) (w : World) (hG : BlkA w G 26 (clA g)) : Calls Try.prog 58 #[.agg (clA p), .pointer (some ⟨G, 0, none⟩)] w fun e w' => e = .returned (.bool (bo (PutOk g p))) ∧ Below w.heap.size w w' := by
  have F := hide1 (And.intro (BlkA.new w 26 (clA p)) ((Below.refl w.heap.size w).alloc (Nat.le_refl _) (.cells (clA p) 26)))
  have HG := hide1 (hG.below F.out.2 hG.lt)
  have CM := hide1 (fun w => mayRead_any g p w)
  clear hG
  go_enter Try.func58, Try.ntmps58
  go_wp2_with (first | (refine wpList_load_rowG rfl 26 _ rfl G rfl 26 (clA g) _ HG.out Try.underlying26 rfl sizeCl ?_) | (refine wpList_load_rowG rfl 26 _ rfl w.heap.size rfl 26 (clA p) _ F.out.1 Try.underlying26 rfl sizeCl ?_) | (go_at_call 59; refine (CM.out _).mono ?_; rintro e w2 ⟨rfl, hb2⟩; have HB := hide1 (F.out.2.trans (hb2.mono F.out.2.size)); clear hb2))
  go_ret
  exact ⟨rfl, HB.out⟩
set_option maxRecDepth 100000 in
set_option maxHeartbeats 4000000 in
theorem indexRead_any (g : Cl) (G : Nat) (ao : Option Addr) (l : List Cl) (ca : Nat) (w : World) (hl : l.length ≤ 1048576) (hG : BlkA w G 26 (clA g)) (hR : RdG clC 9 w ao l) :
    Calls Try.prog 75 #[.slice ao l.length ca, .func (.func 58) #[] #[.pointer (some ⟨G, 0, none⟩)]] w fun e w' => ∃ z : Int, e = .returned (.int .i64 z) ∧ (0 ≤ z ↔ ∃ p ∈ l, PutOk g p) ∧ Below w.heap.size w w' := by
  have HR := hide1 hR
  have HG := hide1 hG
  clear hR hG
  go_enter Try.func75, Try.ntmps75
  go_wp2
  go_loopw [8] (fun iv wr => ∃ i : Nat, i ≤ l.length ∧ iv = .int .i64 (i : Int) ∧ Hid (∀ a (ha : a < l.length), a < i → ¬ PutOk g l[a]) ∧ Below w.heap.size w wr) (fun iv _ => l.length - (intOf iv).toNat)
  case atStart => exact ⟨0, by omega, rfl, fun a ha h => by omega, Below.refl _ _⟩
  case round =>
    obtain ⟨i, hi, rfl, hD, hbel⟩ := hrel
    by_cases hlt : i < l.length
    · have k1 : (i : Int) < (l.length : Int) := by omega
      obtain ⟨b1, o1, rfl, hb1, hc1⟩ := RdG.at encCl HR.out i hlt
      have C1 := hide1 (show CsAt wr b1 (o1 + i * 9) (clA l[i]) from hc1.later hbel hb1)
      have CI := hide1 (isRead_any g l[i] G wr (HG.out.below hbel HG.out.lt))
      have BB := hide1 hbel
      clear hc1 hbel
      by_cases d : PutOk g l[i]
      · rw [bo_t d] at CI
        go_wp2_with (first | (refine wpList_load_at rfl 26 _ rfl b1 (o1 + i * 9) rfl (clA l[i]) _ C1.out Try.underlying26 rfl sizeCl ?_) | (go_at_call 58; refine CI.out.mono ?_; rintro e w2 ⟨rfl, hb2⟩; have HB := hide1 (BB.out.trans (hb2.mono BB.out.size)); clear hb2))
        go_ret
        exact ⟨(i : Int), rfl, ⟨fun _ => ⟨l[i], List.getElem_mem hlt, d⟩, fun _ => by omega⟩, HB.out⟩
      · rw [bo_f d] at CI
        go_wp2_with (first | (refine wpList_load_at rfl 26 _ rfl b1 (o1 + i * 9) rfl (clA l[i]) _ C1.out Try.underlying26 rfl sizeCl ?_) | (go_at_call 58; refine CI.out.mono ?_; rintro e w2 ⟨rfl, hb2⟩; have HB := hide1 (BB.out.trans (hb2.mono BB.out.size)); clear hb2))
        go_roundw
        case rel => exact ⟨i + 1, by omega, by go_num, (fun a ha hai => by
          by_cases e : a < i
          · exact hD.out a ha e
          · obtain rfl : a = i := by omega
            exact d), HB.out⟩
        case measure => simp [intOf]; omega
    · obtain rfl : i = l.length := by omega
      go_wp2
      go_ret
      exact ⟨-1, rfl, ⟨fun h => by omega, fun ⟨p, hp, h⟩ => by obtain ⟨a, ha, rfl⟩ := List.getElem_of_mem hp; exact absurd h (hD.out a ha ha)⟩, hbel⟩
set_option maxRecDepth 100000 in
theorem containsRead_any (g : Cl) (G : Nat) (ao : Option Addr) (l : List Cl) (ca : Nat) (w : World) (hl : l.length ≤ 1048576) (hG : BlkA w G 26 (clA g)) (hR : RdG clC 9 w ao l) :
    Calls Try.prog 60 #[.slice ao l.length ca, .func (.func 58) #[] #[.pointer (some ⟨G, 0, none⟩)]] w fun e w' => e = .returned (.bool (bo (∃ p ∈ l, PutOk g p))) ∧ Below w.heap.size w w' := by
  have C := hide1 (indexRead_any g G ao l ca w hl hG hR)
  clear hG hR
  go_enter Try.func60, Try.ntmps60
  go_wp2_with fail
  refine C.out.mono ?_
  rintro e w2 ⟨z, rfl, hz, hb⟩
  by_cases d : 0 ≤ z
  · have RES := hide1 (bo_t (hz.1 d))
    have HB := hide1 hb
    clear hz hb C
    go_wp2
    go_ret
    exact ⟨by rw [RES.out]; first | rfl | simp, HB.out⟩
  · have RES := hide1 (bo_f (fun h => d (hz.2 h)))
    have HB := hide1 hb
    clear hz hb C
    go_wp2
    go_ret
    exact ⟨by rw [RES.out]; simp [d], HB.out⟩
set_option maxRecDepth 100000 in
set_option maxHeartbeats 4000000 in
theorem readsRight_any (g : Cl) (ao : Option Addr) (l : List Cl) (ca : Nat) (w : World) (hl : l.length ≤ 1048576) (hR : RdG clC 9 w ao l) :
    Calls Try.prog 36 #[.agg (clA g), .slice ao l.length ca] w fun e w' => e = .returned (.bool (bo (RdOk l g))) ∧ Below w.heap.size w w' := by
  have F := hide1 (And.intro (BlkA.new w 26 (clA g)) ((Below.refl w.heap.size w).alloc (Nat.le_refl _) (.cells (clA g) 26)))
  have HR := hide1 hR
  have CS := hide1 (fun w => implStamp_any g w)
  clear hR
  go_enter Try.func36, Try.ntmps36
  go_upto_region 1 with fail
  generalize (w.alloc (.cells (clA g) 26)) = u at F ⊢
  have CC := hide1 (fun u' (h : Below u.heap.size u u') => containsRead_any g w.heap.size ao l ca u' hl (F.out.1.below h F.out.1.lt) ((HR.out.later F.out.2).later h))
  have x5 : u.cell? ⟨w.heap.size, 5, none⟩ = some (.int .i64 g.vr) := F.out.1.cell 5 rfl
  have x8 : u.cell? ⟨w.heap.size, 8, none⟩ = some (.string g.gt) := F.out.1.cell 8 rfl
  by_cases d1 : g.vr = 0
  · have q1 : (g.vr == 0) = true := by simp [d1]
    by_cases d2 : g.gt = ⟨#[]⟩
    · obtain ⟨t2, r2⟩ := bytes_isE d2
      have RES := hide1 (bo_t (show RdOk l g from ⟨fun _ => d2, fun h => absurd d1 h⟩))
      clear d1 d2
      go_wp2
      go_ret
      exact ⟨by rw [RES.out]; rfl, F.out.2⟩
    · obtain ⟨t2, r2⟩ := bytes_isN d2
      have RES := hide1 (bo_f (show ¬ RdOk l g from fun h => d2 (h.1 d1)))
      clear d1 d2
      go_wp2
      go_ret
      exact ⟨by rw [RES.out]; rfl, F.out.2⟩
  have q1 : (g.vr == 0) = false := by simp [d1]
  have D1 := hide1 d1
  clear d1
  have g5 : ∀ n : Gr u, n.w.cell? ⟨w.heap.size, 5, none⟩ = some (.int .i64 g.vr) := fun n => n.cell x5
  by_cases c : g.vr ≤ stp g
  · generalize hb : bo (∃ p ∈ l, PutOk g p) = q at CC
    have RES := hide1 (show bo (RdOk l g) = q from by rw [← hb]; exact bo_iff ⟨fun h => (h.2 D1.out).1, fun h => ⟨fun h => absurd h D1.out, fun _ => ⟨h, c⟩⟩⟩)
    clear hb
    go_upto_region 4 with fail
    refine wp_region_grown (by kernel_rfl) (by kernel_rfl) ?_
    (repeat (first | go_big_quiet_skip | (go_big_quiet_want; first | (refine quiet_loadA 26 _ rfl w.heap.size 0 rfl (clA g) (gr_load F.out.1 Try.underlying26 rfl sizeCl) ?_; go_simp; go_big_quiet_on) | (go_big_quiet_op; first | go_big_quiet_on | go_big_quiet_call ((first | (go_at_call 11; exact quiet_grown (CS.out _)) | (go_at_call 60; exact quiet_grown (CC.out _ (Gr.b _)))))))))
    refine wpQuiet_nil ?_
    rintro w1 ⟨m1, rfl⟩
    go_wp2
    go_ret
    exact ⟨by rw [RES.out]; rfl, F.out.2.trans (m1.b.mono F.out.2.size)⟩
  · have RES := hide1 (bo_f (show ¬ RdOk l g from fun h => c (h.2 D1.out).2))
    go_upto_region 4 with fail
    refine wp_region_grown (by kernel_rfl) (by kernel_rfl) ?_
    (repeat (first | go_big_quiet_skip | (go_big_quiet_want; first | (refine quiet_loadA 26 _ rfl w.heap.size 0 rfl (clA g) (gr_load F.out.1 Try.underlying26 rfl sizeCl) ?_; go_simp; go_big_quiet_on) | (go_big_quiet_op; first | go_big_quiet_on | go_big_quiet_call ((go_at_call 11; exact quiet_grown (CS.out _)))))))
    refine wpQuiet_nil ?_
    rintro w1 ⟨m1, rfl⟩
    go_wp2
    go_ret
    exact ⟨by rw [RES.out]; rfl, F.out.2.trans (m1.b.mono F.out.2.size)⟩
end Go.Proofs.Ytcahaimefgkmiaa
