/- The model's Reads. -/
import Derived.Test.YtcahaimefgkmiaaReA
import Derived.Test.YtcahaimefgkmiaaRowX
import Derived.Test.YtcahaimefgkmiaaByE
namespace Go.Proofs.Ytcahaimefgkmiaa
open Go.RowKit
set_option linter.unusedVariables false

theorem gr_loadX {P : Program} {u : World} {b o : Nat} {ty : TypeId} {cs : Array Value} {d : TypeDesc} (h : CsAt u b o cs) (hb : b < u.heap.size) (hu : P.underlying ty = some d) (hd : (match d with | .struct _ | .array _ _ => true | _ => false) = true) (hi : (P.info? ty).map (·.size) = some cs.size) :
    ∀ w, (∃ n : Gr u, w = n.w) → (Instr.loadAt ty (.pointer (some ⟨b, o, none⟩))).run P w = .ok (.agg cs) w := fun w ⟨n, e⟩ => by subst e; exact (h.later n.b hb).load hu hd hi
set_option maxRecDepth 100000 in
set_option maxHeartbeats 4000000 in
theorem specReads_any (ao : Option Addr) (l : List Cl) (ca : Nat) (w : World) (hl : l.length ≤ 1048576) (hR : RdG clC 9 w ao l) :
    Calls Try.prog 17 #[.slice ao l.length ca] w fun e w' => e = .returned (.bool (bo (Rds l))) ∧ Below w.heap.size w w' := by
  have HR := hide1 hR
  have CS := hide1 (fun c w => specStamp_any c w)
  have CP := hide1 (fun g p w => l16Put_any g p w)
  clear hR
  go_enter Try.func17, Try.ntmps17
  go_wp2
  go_loopw [3] (fun iv wr => ∃ i : Nat, i ≤ l.length ∧ iv = .int .i64 (i : Int) ∧ Hid (∀ a (ha : a < l.length), a < i → l[a].op = 2 → 0 ≤ l[a].dn → RdOk l l[a]) ∧ Below w.heap.size w wr) (fun iv _ => l.length - (intOf iv).toNat)
  case atStart => exact ⟨0, by omega, rfl, fun a ha h => by omega, Below.refl _ _⟩
  case round =>
    obtain ⟨i, hi, rfl, hD, hbel⟩ := hrel
    by_cases hlt : i < l.length
    · have k1 : (i : Int) < (l.length : Int) := by omega
      obtain ⟨b1, o1, rfl, hb1, hc1⟩ := RdG.at encCl HR.out i hlt
      have C1 := hide1 (show CsAt wr b1 (o1 + i * 9) (clA l[i]) from hc1.later hbel hb1)
      have ONE1 := hide1 (oneCl l[i])
      have F := hide1 (And.intro (BlkA.new wr 26 (clA l[i])) ((Below.refl wr.heap.size wr).alloc (Nat.le_refl _) (.cells (clA l[i]) 26)))
      clear hc1
      go_upto_region 5 with (first | (refine wpList_load_at rfl 26 _ rfl b1 (o1 + i * 9) rfl (clA l[i]) _ C1.out Try.underlying26 rfl sizeCl ?_) | (refine wpList_store_row rfl 26 _ _ rfl wr.heap.size (clA l[i]) rfl rfl 26 _ (heap_alloc_last _ _) sizeCl rfl ONE1.out ?_; rw [World.setRow_alloc_new]))
      clear C1 ONE1
      generalize (wr.alloc (.cells (clA l[i]) 26)) = u at F ⊢
      obtain ⟨X, hX⟩ : ∃ G, G = wr.heap.size := ⟨_, rfl⟩
      have KX := hide1 F.out.1
      have BU := hide1 (hbel.trans (F.out.2.mono hbel.size))
      rw [← hX] at KX ⊢
      clear F hX
      have x0 : u.cell? ⟨X, 0, none⟩ = some (.int .i64 l[i].op) := KX.out.cell 0 rfl
      have x4 : u.cell? ⟨X, 4, none⟩ = some (.int .i64 l[i].dn) := KX.out.cell 4 rfl
      have x5 : u.cell? ⟨X, 5, none⟩ = some (.int .i64 l[i].vr) := KX.out.cell 5 rfl
      have x8 : u.cell? ⟨X, 8, none⟩ = some (.string l[i].gt) := KX.out.cell 8 rfl
      have NX := hide1 (show ∀ u', Below w.heap.size w u' → (l[i].op = 2 → 0 ≤ l[i].dn → RdOk l l[i]) → i + 1 ≤ l.length ∧ Hid (∀ a (ha : a < l.length), a < i + 1 → l[a].op = 2 → 0 ≤ l[a].dn → RdOk l l[a]) ∧ Below w.heap.size w u' from fun u' hb ho => ⟨by omega, fun a ha hai => by
        by_cases e : a < i
        · exact hD.out a ha e
        · obtain rfl : a = i := by omega
          exact ho, hb⟩)
      have NO := hide1 (show l[i].op = 2 → 0 ≤ l[i].dn → ¬ RdOk l l[i] → bo (Rds l) = false from fun h1 h2 h3 => bo_f (fun h => h3 (h l[i] (List.getElem_mem hlt) h1 h2)))
      clear hD
      by_cases d1 : l[i].op = 2
      case neg =>
        have q1 : (l[i].op != 2) = true := by simp [d1]
        have D1 := hide1 d1
        clear d1
        go_wp2
        go_roundw
        case rel => obtain ⟨n1, n2, n3⟩ := NX.out _ BU.out (fun h => absurd h D1.out); exact ⟨i + 1, n1, by go_num, n2, n3⟩
        case measure => simp [intOf]; omega
      have q1 : (l[i].op != 2) = false := by simp [d1]
      have D1 := hide1 d1
      clear d1
      by_cases d2 : l[i].dn < 0
      · go_wp2
        go_roundw
        case rel => obtain ⟨n1, n2, n3⟩ := NX.out _ BU.out (fun _ h => by omega); exact ⟨i + 1, n1, by go_num, n2, n3⟩
        case measure => simp [intOf]; omega
      have D2 := hide1 (show 0 ≤ l[i].dn by omega)
      by_cases d3 : l[i].vr = 0
      · have q3 : (l[i].vr == 0) = true := by simp [d3]
        have D3 := hide1 d3
        clear d3
        by_cases d4 : l[i].gt = ⟨#[]⟩
        · obtain ⟨t4, r4⟩ := bytes_isE d4
          have D4 := hide1 d4
          clear d4
          go_wp2
          go_roundw
          case rel => obtain ⟨n1, n2, n3⟩ := NX.out _ BU.out (fun _ _ => ⟨fun _ => D4.out, fun h => absurd D3.out h⟩); exact ⟨i + 1, n1, by go_num, n2, n3⟩
          case measure => simp [intOf]; omega
        · obtain ⟨t4, r4⟩ := bytes_isN d4
          have D4 := hide1 d4
          clear d4
          go_wp2
          go_ret
          exact ⟨by rw [NO.out D1.out D2.out (fun h => D4.out (h.1 D3.out))]; rfl, BU.out⟩
      have q3 : (l[i].vr == 0) = false := by simp [d3]
      have D3 := hide1 d3
      clear d3
      go_wp2
      clear x0 x4 x8
      go_loopw [5, 6] (fun fv kv wr => ∃ (k : Nat) (f : Bool), k ≤ l.length ∧ fv = .bool f ∧ kv = .int .i64 (k : Int) ∧ Hid (f = true ↔ ∃ j, ∃ hj : j < l.length, j < k ∧ PutOk l[i] l[j]) ∧ Below u.heap.size u wr) (fun _ kv _ => l.length - (intOf kv).toNat)
      case atStart => exact ⟨0, false, by omega, rfl, rfl, ⟨fun h => by simp at h, fun ⟨j, _, h, _⟩ => by omega⟩, Below.refl _ _⟩
      case round =>
        obtain ⟨k, f, hk, rfl, rfl, hE, hb2⟩ := hrel
        by_cases hlk : k < l.length
        · have k2 : (k : Int) < (l.length : Int) := by omega
          obtain ⟨b2, o2, e2, hb3, hc2⟩ := RdG.at encCl HR.out k hlk
          obtain ⟨rfl, rfl⟩ : b1 = b2 ∧ o1 = o2 := by injection e2 with e2; injection e2 with e3 e4; exact ⟨e3, e4⟩
          have BW := hide1 (BU.out.trans (hb2.mono BU.out.size))
          have C2 := hide1 (show CsAt wr b1 (o1 + k * 9) (clA l[k]) from hc2.later BW.out hb1)
          have lb : b1 < wr.heap.size := Nat.lt_of_lt_of_le hb1 BW.out.size
          have KW := hide1 (KX.out.below hb2 KX.out.lt)
          clear hc2
          cases f with
          | true =>
            go_upto_region 13 with fail
            refine wp_region_grown (by kernel_rfl) (by kernel_rfl) ?_
            (repeat (first | go_big_quiet_skip | (go_big_quiet_want; go_big_quiet_op; go_big_quiet_on)))
            refine wpQuiet_nil ?_
            rintro w1 ⟨m1, rfl⟩
            go_wp2
            go_roundw
            case rel => exact ⟨k + 1, true, by omega, rfl, by go_num, ⟨fun _ => by obtain ⟨j, hj, h1, h2⟩ := hE.out.1 rfl; exact ⟨j, hj, by omega, h2⟩, fun _ => rfl⟩, hb2.trans (m1.b.mono hb2.size)⟩
            case measure => simp [intOf]; omega
          | false =>
            have CQ := hide1 (fun w => CP.out l[i] l[k] w)
            have EX := hide1 (show ∀ p : Prop, (PutOk l[i] l[k] ↔ p) → ((∃ j, ∃ hj : j < l.length, j < k + 1 ∧ PutOk l[i] l[j]) ↔ p) from fun p hp => ⟨fun ⟨j, hj, h1, h2⟩ => by
              by_cases e : j < k
              · have := hE.out.2 ⟨j, hj, e, h2⟩
                simp at this
              · obtain rfl : j = k := by omega
                exact hp.1 h2, fun h => ⟨k, hlk, by omega, hp.2 h⟩⟩)
            generalize hbo : bo (PutOk l[i] l[k]) = g at CQ
            go_upto_region 13 with fail
            refine wp_region_grown (by kernel_rfl) (by kernel_rfl) ?_
            (repeat (first | go_big_quiet_skip | (go_big_quiet_want; first | (refine quiet_loadA 26 _ rfl X 0 rfl (clA l[i]) (gr_load KW.out Try.underlying26 rfl sizeCl) ?_; go_simp; go_big_quiet_on) | (refine quiet_loadA 26 _ rfl b1 (o1 + k * 9) rfl (clA l[k]) (gr_loadX C2.out lb Try.underlying26 rfl sizeCl) ?_; go_simp; go_big_quiet_on) | (go_big_quiet_op; first | go_big_quiet_on | go_big_quiet_call ((go_at_call 35; exact quiet_grown (CQ.out _)))))))
            refine wpQuiet_nil ?_
            rintro w1 ⟨m1, rfl⟩
            go_wp2
            go_roundw
            case rel => exact ⟨k + 1, g, by omega, rfl, by go_num, (EX.out (g = true) (by rw [← hbo]; exact bo_true.symm)).symm, hb2.trans (m1.b.mono hb2.size)⟩
            case measure => simp [intOf]; omega
        · obtain rfl : k = l.length := by omega
          have BW := hide1 (BU.out.trans (hb2.mono BU.out.size))
          have KW := hide1 (KX.out.below hb2 KX.out.lt)
          cases f with
          | false =>
            have NP := hide1 (show ¬ RdOk l l[i] from fun h => by
              obtain ⟨⟨p, hp, h1⟩, _⟩ := h.2 D3.out
              obtain ⟨j, hj, rfl⟩ := List.getElem_of_mem hp
              have := hE.out.2 ⟨j, hj, hj, h1⟩
              simp at this)
            go_upto_region 14 with fail
            refine wp_region_grown (by kernel_rfl) (by kernel_rfl) ?_
            (repeat (first | go_big_quiet_skip | (go_big_quiet_want; go_big_quiet_op; go_big_quiet_on)))
            refine wpQuiet_nil ?_
            rintro w1 ⟨m1, rfl⟩
            go_wp2
            go_ret
            exact ⟨by rw [NO.out D1.out D2.out NP.out]; rfl, BW.out.trans (m1.b.mono BW.out.size)⟩
          | true =>
            have g1 : ∀ n : Gr wr, n.w.cell? ⟨X, 5, none⟩ = some (.int .i64 l[i].vr) := fun n => n.cell (KW.out.cell 5 rfl)
            have HP := hide1 (show ∃ p ∈ l, PutOk l[i] p from by obtain ⟨j, hj, _, h⟩ := hE.out.1 rfl; exact ⟨l[j], List.getElem_mem hj, h⟩)
            by_cases c : l[i].vr > stp l[i]
            · have NP := hide1 (show ¬ RdOk l l[i] from fun h => by have := (h.2 D3.out).2; omega)
              go_upto_region 14 with fail
              refine wp_region_grown (by kernel_rfl) (by kernel_rfl) ?_
              (repeat (first | go_big_quiet_skip | (go_big_quiet_want; first | (refine quiet_loadA 26 _ rfl X 0 rfl (clA l[i]) (gr_load KW.out Try.underlying26 rfl sizeCl) ?_; go_simp; go_big_quiet_on) | (go_big_quiet_op; first | go_big_quiet_on | go_big_quiet_call ((go_at_call 9; exact quiet_grown (CS.out _ _)))))))
              refine wpQuiet_nil ?_
              rintro w1 ⟨m1, rfl⟩
              go_wp2
              go_ret
              exact ⟨by rw [NO.out D1.out D2.out NP.out]; rfl, BW.out.trans (m1.b.mono BW.out.size)⟩
            · have YP := hide1 (show RdOk l l[i] from ⟨fun h => absurd h D3.out, fun _ => ⟨HP.out, by omega⟩⟩)
              go_upto_region 14 with fail
              refine wp_region_grown (by kernel_rfl) (by kernel_rfl) ?_
              (repeat (first | go_big_quiet_skip | (go_big_quiet_want; first | (refine quiet_loadA 26 _ rfl X 0 rfl (clA l[i]) (gr_load KW.out Try.underlying26 rfl sizeCl) ?_; go_simp; go_big_quiet_on) | (go_big_quiet_op; first | go_big_quiet_on | go_big_quiet_call ((go_at_call 9; exact quiet_grown (CS.out _ _)))))))
              refine wpQuiet_nil ?_
              rintro w1 ⟨m1, rfl⟩
              go_wp2
              go_roundw
              case rel => obtain ⟨n1, n2, n3⟩ := NX.out _ (BW.out.trans (m1.b.mono BW.out.size)) (fun _ _ => YP.out); exact ⟨i + 1, n1, by go_num, n2, n3⟩
              case measure => simp [intOf]; omega
    · obtain rfl : i = l.length := by omega
      go_wp2
      go_ret
      exact ⟨by rw [bo_t (p := Rds l) (fun g hg h1 h2 => by obtain ⟨a, ha, rfl⟩ := List.getElem_of_mem hg; exact hD.out a ha ha h1 h2)]; rfl, hbel⟩
end Go.Proofs.Ytcahaimefgkmiaa
