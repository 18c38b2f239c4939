/- The model's InTime. -/
import Derived.Test.YtcahaimefgkmiaaStJ
import Derived.Test.YtcahaimefgkmiaaRowX
namespace Go.Proofs.Ytcahaimefgkmiaa
open Go.RowKit
set_option linter.unusedVariables false

def okT (a b : Cl) : Prop := 0 ≤ a.dn → 0 ≤ b.dn → stp a ≠ stp b ∧ (a.dn < b.wh → stp a < stp b)
def InT (l : List Cl) : Prop := ∀ i (hi : i < l.length) k (hk : k < l.length), i ≠ k → okT l[i] l[k]
theorem clE (x : Cl) : (clC x).toArray = clA x := rfl
set_option maxRecDepth 100000 in
set_option maxHeartbeats 4000000 in
theorem specInTime_any (ao : Option Addr) (l : List Cl) (ca : Nat) (w : World) (hl : l.length ≤ 1048576) (hR : RdG clC 9 w ao l) :
    Calls Try.prog 13 #[.slice ao l.length ca] w fun e w' => e = .returned (.bool (bo (InT l))) ∧ Below w.heap.size w w' := by
  have HR := hide1 hR
  have CS := hide1 (fun c w => specStamp_any c w)
  clear hR
  go_enter Try.func13, Try.ntmps13
  go_wp2
  go_loopw [3] (fun iv wr => ∃ i : Nat, i ≤ l.length ∧ iv = .int .i64 (i : Int) ∧ Hid (∀ a (ha : a < l.length), a < i → ∀ k (hk : k < l.length), a ≠ k → okT l[a] l[k]) ∧ Below w.heap.size w wr) (fun iv _ => l.length - (intOf iv).toNat)
  case atStart => exact ⟨0, by omega, rfl, fun a ha h => by omega, Below.refl _ _⟩
  case round =>
    obtain ⟨i, hi, rfl, hD, hbel⟩ := hrel
    by_cases hlt : i < l.length
    · have k1 : (i : Int) < (l.length : Int) := by omega
      obtain ⟨wo, hwo⟩ : ∃ W, W = wr := ⟨_, rfl⟩
      rw [← hwo] at hbel ⊢
      clear hwo
      go_wp2
      go_loopw [4] (fun kv wr => ∃ k : Nat, k ≤ l.length ∧ kv = .int .i64 (k : Int) ∧ Hid (∀ b (hb : b < l.length), b < k → i ≠ b → okT l[i] l[b]) ∧ Below w.heap.size w wr) (fun kv _ => l.length - (intOf kv).toNat)
      case atStart => exact ⟨0, by omega, rfl, fun a ha h => by omega, hbel⟩
      case round =>
        obtain ⟨k, hk, rfl, hE, hbe2⟩ := hrel
        by_cases hlk : k < l.length
        · have k2 : (k : Int) < (l.length : Int) := by omega
          obtain ⟨b1, o1, e1, hb1, hc1⟩ := RdG.at encCl HR.out i hlt
          obtain ⟨b2, o2, e2, hb2, hc2⟩ := RdG.at encCl HR.out k hlk
          rw [e1] at e2
          obtain ⟨rfl, rfl⟩ : b1 = b2 ∧ o1 = o2 := by injection e2 with e2; injection e2 with e3 e4; exact ⟨e3, e4⟩
          have C1 := hide1 (show CsAt wr b1 (o1 + i * 9) (clA l[i]) from hc1.later (hbe2) hb1)
          have hb2' : b1 < wr.heap.size := Nat.lt_of_lt_of_le hb2 hbe2.size
          have C2 := hide1 (show CsAt wr b1 (o1 + k * 9) (clA l[k]) from hc2.later (hbe2) hb2)
          have F := hide1 (two_new wr (clA l[i]) (clA l[k]))
          have C3 := hide1 (show CsAt (wr.alloc (.cells (clA l[i]) 26)) b1 (o1 + k * 9) (clA l[k]) from C2.out.later ((Below.refl wr.heap.size wr).alloc (Nat.le_refl _) _) hb2')
          have ONE1 := hide1 (oneCl l[i])
          have ONE2 := hide1 (oneCl l[k])
          clear hc1 hc2
          go_upto_region 9 with (first | (refine wpList_load_at rfl 26 _ rfl b1 (o1 + i * 9) rfl (clA l[i]) _ C1.out Try.underlying26 rfl sizeCl ?_) | (refine wpList_load_at rfl 26 _ rfl b1 (o1 + k * 9) rfl (clA l[k]) _ C3.out Try.underlying26 rfl sizeCl ?_) | (refine wpList_store_row rfl 26 _ _ rfl wr.heap.size (clA l[i]) rfl rfl 26 _ (heap_alloc_last _ _) sizeCl rfl ONE1.out ?_; rw [World.setRow_alloc_new]) | (refine wpList_store_row rfl 26 _ _ rfl (wr.heap.size + 1) (clA l[k]) rfl rfl 26 _ (heap_alloc_two _ _ _) sizeCl rfl ONE2.out ?_; rw [setRow_alloc_two]))
          clear C1 C2 C3 ONE1 ONE2
          generalize ((wr.alloc (.cells (clA l[i]) 26)).alloc (.cells (clA l[k]) 26)) = u at F ⊢
          obtain ⟨X, hX⟩ : ∃ G, G = wr.heap.size := ⟨_, rfl⟩
          obtain ⟨Y, hY⟩ : ∃ G, G = wr.heap.size + 1 := ⟨_, rfl⟩
          have KX := hide1 F.out.1
          have KY := hide1 F.out.2.1
          have BU := hide1 (hbe2.trans (F.out.2.2.mono hbe2.size))
          rw [← hY] at KY
          rw [← hX] at KX
          rw [← hY, ← hX]
          clear F hX hY
          have x4 : u.cell? ⟨X, 4, none⟩ = some (.int .i64 l[i].dn) := KX.out.cell 4 rfl
          have y4 : u.cell? ⟨Y, 4, none⟩ = some (.int .i64 l[k].dn) := KY.out.cell 4 rfl
          have next : ∀ u', Below w.heap.size w u' → (i ≠ k → okT l[i] l[k]) → k + 1 ≤ l.length ∧ Hid (∀ b (hb : b < l.length), b < k + 1 → i ≠ b → okT l[i] l[b]) ∧ Below w.heap.size w u' := fun u' hb ho => ⟨by omega, fun b hb2 hbk hne => by
            by_cases e : b < k
            · exact hE.out b hb2 e hne
            · obtain rfl : b = k := by omega
              exact ho hne, hb⟩
          have NX := hide1 next
          clear next
          by_cases d1 : l[i].dn < 0
          · go_wp2
            go_roundw
            case rel => obtain ⟨n1, n2, n3⟩ := NX.out _ BU.out (fun _ h => by omega); exact ⟨k + 1, n1, by go_num, n2, n3⟩
            case measure => simp [intOf]; omega
          by_cases d2 : l[k].dn < 0
          · go_wp2
            go_roundw
            case rel => obtain ⟨n1, n2, n3⟩ := NX.out _ BU.out (fun _ h h' => by omega); exact ⟨k + 1, n1, by go_num, n2, n3⟩
            case measure => simp [intOf]; omega
          by_cases d3 : i = k
          · have k3 : ((i : Int) == (k : Int)) = true := by simp [d3]
            have D3 := hide1 d3
            clear d3
            go_wp2
            go_roundw
            case rel => obtain ⟨n1, n2, n3⟩ := NX.out _ BU.out (fun h => absurd D3.out h); exact ⟨k + 1, n1, by go_num, n2, n3⟩
            case measure => simp [intOf]; omega
          have k3 : ((i : Int) == (k : Int)) = false := by simp; omega
          have D3 := hide1 d3
          clear d3
          have D12 := hide1 (And.intro d1 d2)
          go_upto_region 10 with fail
          clear d1 d2
          have y3 : u.cell? ⟨Y, 3, none⟩ = some (.int .i64 l[k].wh) := KY.out.cell 3 rfl
          have g1 : ∀ n : Gr u, n.w.cell? ⟨X, 4, none⟩ = some (.int .i64 l[i].dn) := fun n => n.cell x4
          have g2 : ∀ n : Gr u, n.w.cell? ⟨Y, 3, none⟩ = some (.int .i64 l[k].wh) := fun n => n.cell y3
          by_cases c1 : stp l[i] = stp l[k]
          · have q1 : (stp l[i] == stp l[k]) = true := by simp [c1]
            refine wp_region_grown (by kernel_rfl) (by kernel_rfl) ?_
            (repeat (first | go_big_quiet_skip | (go_big_quiet_want; first | (refine quiet_loadA 26 _ rfl X 0 rfl (clA l[i]) (gr_load KX.out Try.underlying26 rfl sizeCl) ?_; go_simp; go_big_quiet_on) | (refine quiet_loadA 26 _ rfl Y 0 rfl (clA l[k]) (gr_load KY.out Try.underlying26 rfl sizeCl) ?_; go_simp; go_big_quiet_on) | (go_big_quiet_op; first | go_big_quiet_on | go_big_quiet_call ((go_at_call 9; exact quiet_grown (CS.out _ _)))))))
            refine wpQuiet_nil ?_
            rintro w1 ⟨m1, rfl⟩
            go_wp2
            go_ret
            exact ⟨by rw [bo_f (fun h : InT l => absurd c1 (h i hlt k hlk D3.out (by have := D12.out; omega) (by have := D12.out; omega)).1)]; rfl, BU.out.trans (m1.b.mono BU.out.size)⟩
          have q1 : (stp l[i] == stp l[k]) = false := by simp [c1]
          by_cases c2 : l[i].dn < l[k].wh
          · by_cases c3 : stp l[i] ≥ stp l[k]
            · refine wp_region_grown (by kernel_rfl) (by kernel_rfl) ?_
              (repeat (first | go_big_quiet_skip | (go_big_quiet_want; first | (refine quiet_loadA 26 _ rfl X 0 rfl (clA l[i]) (gr_load KX.out Try.underlying26 rfl sizeCl) ?_; go_simp; go_big_quiet_on) | (refine quiet_loadA 26 _ rfl Y 0 rfl (clA l[k]) (gr_load KY.out Try.underlying26 rfl sizeCl) ?_; go_simp; go_big_quiet_on) | (go_big_quiet_op; first | go_big_quiet_on | go_big_quiet_call ((go_at_call 9; exact quiet_grown (CS.out _ _)))))))
              refine wpQuiet_nil ?_
              rintro w1 ⟨m1, rfl⟩
              go_wp2
              go_ret
              exact ⟨by rw [bo_f (fun h : InT l => absurd ((h i hlt k hlk D3.out (by have := D12.out; omega) (by have := D12.out; omega)).2 c2) (by omega))]; rfl, BU.out.trans (m1.b.mono BU.out.size)⟩
            · refine wp_region_grown (by kernel_rfl) (by kernel_rfl) ?_
              (repeat (first | go_big_quiet_skip | (go_big_quiet_want; first | (refine quiet_loadA 26 _ rfl X 0 rfl (clA l[i]) (gr_load KX.out Try.underlying26 rfl sizeCl) ?_; go_simp; go_big_quiet_on) | (refine quiet_loadA 26 _ rfl Y 0 rfl (clA l[k]) (gr_load KY.out Try.underlying26 rfl sizeCl) ?_; go_simp; go_big_quiet_on) | (go_big_quiet_op; first | go_big_quiet_on | go_big_quiet_call ((go_at_call 9; exact quiet_grown (CS.out _ _)))))))
              refine wpQuiet_nil ?_
              rintro w1 ⟨m1, rfl⟩
              go_wp2
              go_roundw
              case rel => obtain ⟨n1, n2, n3⟩ := NX.out _ (BU.out.trans (m1.b.mono BU.out.size)) (fun _ _ _ => ⟨c1, fun _ => by omega⟩); exact ⟨k + 1, n1, by go_num, n2, n3⟩
              case measure => simp [intOf]; omega
          · refine wp_region_grown (by kernel_rfl) (by kernel_rfl) ?_
            (repeat (first | go_big_quiet_skip | (go_big_quiet_want; first | (refine quiet_loadA 26 _ rfl X 0 rfl (clA l[i]) (gr_load KX.out Try.underlying26 rfl sizeCl) ?_; go_simp; go_big_quiet_on) | (refine quiet_loadA 26 _ rfl Y 0 rfl (clA l[k]) (gr_load KY.out Try.underlying26 rfl sizeCl) ?_; go_simp; go_big_quiet_on) | (go_big_quiet_op; first | go_big_quiet_on | go_big_quiet_call ((go_at_call 9; exact quiet_grown (CS.out _ _)))))))
            refine wpQuiet_nil ?_
            rintro w1 ⟨m1, rfl⟩
            go_wp2
            go_roundw
            case rel => obtain ⟨n1, n2, n3⟩ := NX.out _ (BU.out.trans (m1.b.mono BU.out.size)) (fun _ _ _ => ⟨c1, fun h => absurd h (by omega)⟩); exact ⟨k + 1, n1, by go_num, n2, n3⟩
            case measure => simp [intOf]; omega
        · obtain rfl : k = l.length := by omega
          go_wp2
          go_roundw
          case rel => exact ⟨i + 1, by omega, by go_num, fun a ha hai k hk hne => by
            by_cases e : a < i
            · exact hD.out a ha e k hk hne
            · obtain rfl : a = i := by omega
              exact hE.out k hk hk hne, hbe2⟩
          case measure => simp [intOf]; omega
    · obtain rfl : i = l.length := by omega
      go_wp2
      go_ret
      exact ⟨by rw [bo_t (p := InT l) (fun a ha k hk hne => hD.out a ha ha k hk hne)]; rfl, hbel⟩
end Go.Proofs.Ytcahaimefgkmiaa
