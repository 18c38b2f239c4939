/- Rings, by the program: RingOf. -/
import Derived.Test.YtdgpencendphbaaDoorRiC
import Derived.Test.YtdgpencendphbaaDoorRiZa
import Derived.Test.YtdgpencendphbaaDoorHashI
import Derived.Test.YtdgpencendphbaaDoorDecI
namespace Go.Proofs.YtdgpencendphbaaDoor
open Go.RowKit
set_option linter.unusedVariables false

set_option maxRecDepth 100000 in
set_option maxHeartbeats 1000000 in
theorem implFit_any (ao : Option Addr) (L : List Int) (ca : Nat) (w : World) (hl : L.length ≤ 1048576) (hA : RdZ w ao L) :
    Calls Tryd.prog 34 #[.slice ao L.length ca] w fun e w' => ∃ x : Bool, e = .returned (.bool x) ∧ (x = true ↔ okNds L) ∧ w' = w := by
  have HA := hide1 hA
  clear hA
  by_cases c0 : L.length < 1
  · have q0 : (L.length : Int) < 1 := by omega
    have HN := hide1 (show ¬ okNds L from fun h => by have := h.1.1; omega)
    go_enter Tryd.func34, Tryd.ntmps34
    go_wp2
    go_ret
    first | exact ⟨false, rfl, ⟨(fun h => by cases h), fun h => absurd h HN.out⟩, rfl⟩ | exact .inl ⟨rfl, HN.out, rfl⟩
  · have q0 : ¬ (L.length : Int) < 1 := by omega
    by_cases c1 : 6 < L.length
    · have q1 : (6 : Int) < (L.length : Int) := by omega
      have HN := hide1 (show ¬ okNds L from fun h => by have := h.1.2; omega)
      go_enter Tryd.func34, Tryd.ntmps34
      go_wp2
      go_ret
      first | exact ⟨false, rfl, ⟨(fun h => by cases h), fun h => absurd h HN.out⟩, rfl⟩ | exact .inl ⟨rfl, HN.out, rfl⟩
    · have q1 : ¬ (6 : Int) < (L.length : Int) := by omega
      go_enter Tryd.func34, Tryd.ntmps34
      go_wp2
      go_loop [3, 16] (fun bv iv => ∃ (i : Nat) (B : Int), i ≤ L.length ∧ iv = .int .i64 (i : Int) ∧ bv = .int .i64 B ∧ Hid (∀ j, j < i → okNd L j) ∧ Hid (0 ≤ B ∧ (i = 0 → B = 0) ∧ ∀ (h0 : 0 < i) (h1 : i ≤ L.length), B = L[i - 1]'(by omega))) (fun _ iv => L.length - (intOf iv).toNat)
      case atStart => exact ⟨0, 0, by omega, rfl, rfl, fun j hj => by omega, ⟨by omega, fun _ => rfl, fun h => by omega⟩⟩
      case round =>
        obtain ⟨i, B, hi, rfl, rfl, hn, hB⟩ := hrel
        by_cases hlt : i < L.length
        · have k1 : (i : Int) < (L.length : Int) := by omega
          obtain ⟨b, o, rfl, hb, x1⟩ := HA.out i hlt
          have HB := hide1 (show ∀ z, L[i] = z → ((B < z ∧ z ≤ 9) ↔ okNd L i) from fun z hz => by
            have hb0 := hB.out.1
            constructor
            · rintro ⟨h1, h2⟩ _
              refine ⟨by omega, fun h0 => ?_⟩
              have := hB.out.2.2 h0 (by omega)
              rw [← this, hz]
              exact h1
            · intro h
              have h1 := (h hlt).1
              rw [hz] at h1
              refine ⟨?_, h1.2⟩
              by_cases e : 0 < i
              · have h2 := (h hlt).2 e
                have := hB.out.2.2 e (by omega)
                rw [← this, hz] at h2
                exact h2
              · have := hB.out.2.1 (by omega)
                omega)
          obtain ⟨z, hz⟩ : ∃ z, L[i] = z := ⟨_, rfl⟩
          rw [hz] at x1
          have HZ := hide1 (HB.out z hz)
          have HL := hide1 (show L[i] = z from hz)
          have hB0 := hB.out.1
          clear hz HB hB
          by_cases c2 : z ≤ B
          · have HN := hide1 (show ¬ okNds L from fun h => by have := HZ.out.2 (h.2 i hlt); omega)
            go_wp2
            go_ret
            first | exact ⟨false, rfl, ⟨(fun h => by cases h), fun h => absurd h HN.out⟩, rfl⟩ | exact .inl ⟨rfl, HN.out, rfl⟩
          · by_cases c3 : 9 < z
            · have HN := hide1 (show ¬ okNds L from fun h => by have := HZ.out.2 (h.2 i hlt); omega)
              go_wp2
              go_ret
              first | exact ⟨false, rfl, ⟨(fun h => by cases h), fun h => absurd h HN.out⟩, rfl⟩ | exact .inl ⟨rfl, HN.out, rfl⟩
            · have HY := hide1 (HZ.out.1 ⟨by omega, by omega⟩)
              have hz0 : 0 ≤ z := by omega
              go_wp2
              go_round
              case rel =>
                refine ⟨i + 1, z, by omega, by go_num, rfl, fun j hj => ?_, hz0, (fun h => by omega), fun _ _ => HL.out.symm⟩
                by_cases e : j < i
                · exact hn.out j e
                · obtain rfl : j = i := by omega
                  exact HY.out
              case measure => simp [intOf]; omega
        · have HX := hide1 (show okNds L from ⟨⟨by omega, by omega⟩, fun j hj => hn.out j (by omega)⟩)
          go_wp2
          go_ret
          first | exact ⟨true, rfl, ⟨fun _ => HX.out, fun _ => rfl⟩, rfl⟩ | exact .inr ⟨rfl, HX.out, rfl⟩

set_option maxRecDepth 100000 in
set_option maxHeartbeats 1000000 in
theorem implSpot_any (v : Int) (k : Nat) (w : World) (h1 : 1 ≤ v) (h2 : v ≤ 9) (hk : k < 4) (ht : Tens w) :
    Calls Tryd.prog 35 #[.int .i64 v, .int .i64 (k : Int)] w fun e w' => e = .returned (.agg #[.int .i64 (spotF v k), .int .i64 v]) ∧ Below w.heap.size w w' := by
  have hp := ht.pos
  have F0 := hide1 (And.intro (Blk.new w 57 #[.int .i64 0, .int .i64 0]) ((Below.refl w.heap.size w).alloc (Nat.le_refl _) (.cells #[.int .i64 0, .int .i64 0] 57)))
  have C1 := hide1 (fun w' (hb : Below w.heap.size w w') => implDecimal_any v (by omega) (by omega) w' (ht.below hb hp))
  have C2 := hide1 (fun w' (hb : Below w.heap.size w w') => implDecimal_any (k : Int) (by omega) (by omega) w' (ht.below hb hp))
  have hzk : (keyT v k).size ≤ 1048576 := by rw [keyT_size h1 h2 (by omega)]; omega
  have C3 : Hid (∀ w', Calls Tryd.prog 57 #[.string (decB v ++ ⟨#[45]⟩ ++ decB (k : Int)), .int .i64 0] w' fun e w'' => e = .returned (.int .i64 (spotF v k)) ∧ w' = w'') := fun w' => implHash_any (keyT v k) 0 w' hzk (by omega) (by omega)
  have hz3 : (decB v).size ≤ 9 := by
    obtain ⟨n, rfl⟩ : ∃ n : Nat, v = (n : Int) := ⟨v.toNat, by omega⟩
    rw [decB_size n (by omega)]; omega
  have hz4 : (decB (k : Int)).size ≤ 9 := by rw [decB_size k (by omega)]; omega
  change Hid (∀ w', _ → Calls _ _ _ w' fun e w'' => e = .returned (.string (decB v)) ∧ _) at C1
  change Hid (∀ w', _ → Calls _ _ _ w' fun e w'' => e = .returned (.string (decB (k : Int))) ∧ _) at C2
  generalize decB v = s1 at *
  generalize decB (k : Int) = s2 at *
  generalize spotF v k = h at *
  have q1 : ¬ 9223372036854775807 < s1.size + 1 := by omega
  have q2 : ¬ 9223372036854775807 < s1.size + 1 + s2.size := by omega
  clear hzk ht
  go_enter Tryd.func35, Tryd.ntmps35
  go_wp2_with fail
  generalize (w.alloc (.cells #[.int .i64 0, .int .i64 0] 57)) = w0 at F0 ⊢
  refine (C1.out w0 F0.out.2).mono ?_
  rintro e w1 ⟨rfl, hb1⟩
  have R1 := hide1 (F0.out.1.below hb1 F0.out.1.lt)
  have B1 := hide1 (F0.out.2.trans (hb1.mono F0.out.2.size))
  clear hb1 F0 C1
  go_wp2_with fail
  refine (C2.out w1 B1.out).mono ?_
  rintro e w2 ⟨rfl, hb2⟩
  have R2 := hide1 (R1.out.below hb2 R1.out.lt)
  have B2 := hide1 (B1.out.trans (hb2.mono B1.out.size))
  clear hb2 R1 B1 C2
  have z0 : w2.cell? ⟨w.heap.size, 0, none⟩ = some (.int .i64 0) := R2.out.cell 0
  have z1 : w2.cell? ⟨w.heap.size, 1, none⟩ = some (.int .i64 0) := R2.out.cell 1
  have zf : ∀ j, w2.frozen? ⟨w.heap.size, j, none⟩ = false := fun j => R2.out.froz j
  go_wp2_with fail
  refine (C3.out w2).mono ?_
  rintro e w3 ⟨rfl, rfl⟩
  go_wp2
  refine bodyPost_ret (results_cell_row Tryd.results35 _ _ w.heap.size 57 #[.int .i64 h, .int .i64 v] (0, 0) _ rfl (Blk.set (Blk.set R2.out 0 (.int .i64 h)) 1 (.int .i64 v)) Tryd.underlying57 rfl (by kernel_rfl)) rfl ?_
  exact ⟨rfl, (B2.out.setCell (p := ⟨w.heap.size, 0, none⟩) (Nat.le_refl _) _).setCell (p := ⟨w.heap.size, 1, none⟩) (Nat.le_refl _) _⟩

/-- The spots as they are laid, before they are sorted. -/
def rawK (acc : List Sp) (v : Int) (k : Nat) : List Sp := acc ++ (List.range k).map (fun k => (spotF v k, v))
def rawL (nodes : List Int) : List Sp := nodes.foldl (fun acc v => rawK acc v 4) []
theorem rawK_next (acc : List Sp) (v : Int) (k : Nat) : rawK acc v (k + 1) = rawK acc v k ++ [(spotF v k, v)] := by
  unfold rawK
  rw [List.range_succ, List.map_append, ← List.append_assoc]
  rfl
theorem rawK_length (acc : List Sp) (v : Int) (k : Nat) : (rawK acc v k).length = acc.length + k := by simp [rawK]
theorem rawL_next {L : List Int} {i : Nat} (h : i < L.length) : rawL (L.take (i + 1)) = rawK (rawL (L.take i)) L[i] 4 := by
  unfold rawL
  rw [List.take_succ_eq_append_getElem h, List.foldl_append]
  rfl
theorem rawL_length {L : List Int} : ∀ {i : Nat}, i ≤ L.length → (rawL (L.take i)).length = 4 * i
  | 0, _ => rfl
  | i + 1, h => by rw [rawL_next (by omega), rawK_length, rawL_length (by omega)]; omega
theorem raw_perm : ∀ (nodes : List Int) (l m : List Sp), l.Perm m → (nodes.foldl (nodeS spotF) l).Perm (nodes.foldl (fun acc v => rawK acc v 4) m)
  | [], l, m, h => h
  | v :: nodes, l, m, h => by
    rw [List.foldl_cons, List.foldl_cons]
    refine raw_perm nodes _ _ ?_
    have : ∀ k, (nodeK l v k).Perm (rawK m v k) := fun k => by
      induction k with
      | zero => simpa [nodeK, rawK] using h
      | succ k ih =>
        rw [nodeK_next, rawK_next]
        exact (insS_perm _ _).trans (ih.append_right _)
    exact this 4
theorem ring_perm (L : List Int) : (ringL spotF L).Perm (rawL L) := raw_perm L [] [] (List.Perm.refl _)
theorem own_some2 {w : World} {base n : Nat} {e : TypeId} {v : Value} {xs : List Value} (h : w.ownsRow base e 2 v n xs) (hn : 0 < n) : ∃ g cap, v = .slice (some ⟨g, 0, none⟩) n cap := by
  rcases h.2 with ⟨_, h0⟩ | ⟨g, cap, cur, hv, _⟩
  · omega
  · exact ⟨g, cap, hv⟩

set_option maxRecDepth 100000 in
set_option maxHeartbeats 4000000 in
theorem implRing_any (ao : Option Addr) (L : List Int) (ca : Nat) (w : World) (hl : L.length ≤ 1048576) (hA : RdZ w ao L) (ht : Tens w) :
    Calls Tryd.prog 10 #[.slice ao L.length ca] w fun e w' => MadeRg w w' e L := by
  obtain ⟨i0, hi0, hz0, hz1, hz2⟩ := info_parts Tryd.infoSpotR
  have hp := ht.pos
  have F0 := hide1 (And.intro (Blk.new w 28 #[.slice none 0 0]) ((Below.refl w.heap.size w).alloc (Nat.le_refl _) (.cells #[.slice none 0 0] 28)))
  have CN := hide1 (fun w' (hb : Below w.heap.size w w') => implFit_any ao L ca w' hl (hA.later hb))
  have HA := hide1 hA
  have HT := hide1 ht
  clear hA ht
  go_enter Tryd.func10, Tryd.ntmps10
  go_wp2_with fail
  generalize (w.alloc (.cells #[.slice none 0 0] 28)) = w1 at F0 ⊢
  refine (CN.out w1 F0.out.2).mono ?_
  rintro e w1' ⟨x, rfl, hx, hw1⟩
  obtain rfl : w1 = w1' := hw1.symm
  have R1 := hide1 F0.out.1
  have B1 := hide1 F0.out.2
  have HX := hide1 hx
  have hs1 : w.heap.size + 1 ≤ w1.heap.size := R1.out.lt
  clear hx CN F0
  rcases x with _ | _
  · have HN := hide1 (show ¬ okNds L from fun h => by have := HX.out.2 h; cases this)
    have c0 : w1.cell? ⟨w.heap.size, 0, none⟩ = some (.slice none 0 0) := R1.out.cell 0
    have cf : ∀ j, w1.frozen? ⟨w.heap.size, j, none⟩ = false := fun j => R1.out.froz j
    clear HX
    go_wp2
    refine bodyPost_ret (resR2 Tryd.results10 _ _ w.heap.size 28 #[.slice none 0 0] (0, 0) _ rfl (Blk.set R1.out 0 (.slice none 0 0)) Tryd.underlying28 rfl (by kernel_rfl)) rfl ?_
    exact ⟨none, 0, [], false, rfl, .inr ⟨HN.out, rfl, rfl⟩, World.ownsRow_nil _ _ _ _, B1.out.setCell (p := ⟨w.heap.size, 0, none⟩) (Nat.le_refl _) _⟩
  · have HOK := hide1 (HX.out.1 rfl)
    have hL6 := HOK.out.1.2
    have hL1 := HOK.out.1.1
    clear HX
    go_wp2_with (at_make; (refine wpList_make_own _ rfl _ _ 26 rfl (w.heap.size + 1) 57 i0 (spV (0, 0)) 2 Tryd.underlying26 hi0 hz0 hz1 _ _ _ (4 * L.length) rfl rfl (by omega) (by rw [hz2]; omega) (by unfold maxLen; omega) hs1 ?_; intro w2 hown2 hg2))
    have D2 : Hid (Below w1.heap.size w1 w2) := gbelow hg2 (fun g hg => by cases hg) (Nat.le_refl _)
    have O2 := hide1 hown2
    have R2 := hide1 (R1.out.below D2.out R1.out.lt)
    have B2 := hide1 (B1.out.trans (D2.out.mono B1.out.size))
    have hs2 : w.heap.size + 1 ≤ w2.heap.size := Nat.le_trans hs1 D2.out.size
    clear hown2 hg2 R1 B1 D2
    go_loopw [4, 18] (fun v iv wr => ∃ i : Nat, i ≤ L.length ∧ iv = .int .i64 (i : Int) ∧ wr.ownsRow (w.heap.size + 1) 57 2 v (rawL (L.take i)).length (sps (rawL (L.take i))) ∧ Hid (Below (w.heap.size + 1) w2 wr)) (fun _ iv _ => L.length - (intOf iv).toNat)
    case atStart => exact ⟨0, by omega, rfl, O2.out, hide1 (Below.refl _ _)⟩
    case round =>
      obtain ⟨i, hi, rfl, hown, hbel⟩ := hrel
      have hbs := hbel.out.size
      obtain ⟨vo, vc, rfl⟩ := own_slice2 hown
      have HBw := hide1 (B2.out.trans (hbel.out.mono (Nat.le_succ _)))
      by_cases c1 : i < L.length
      · have k1 : (i : Int) < (L.length : Int) := by omega
        obtain ⟨b, o, rfl, hb0, x0⟩ := HA.out i c1
        have hv := (HOK.out.2 i c1 c1).1
        have HN := hide1 (rawL_next (L := L) c1)
        have hrl : (rawL (L.take i)).length ≤ 24 := by rw [rawL_length hi]; omega
        have y0 := (HBw.out.cell (p := ⟨b, o + i, none⟩) hb0).trans x0
        generalize L[i] = v at *
        have HO := hide1 hown
        clear hown x0
        generalize rawL (L.take i) = ls at *
        obtain ⟨WA, hWA⟩ : ∃ W, W = wr := ⟨_, rfl⟩
        subst hWA
        go_wp2
        go_loopw [4, 22] (fun lv kv wv => ∃ k : Nat, k ≤ 4 ∧ kv = .int .i64 (k : Int) ∧ wv.ownsRow (w.heap.size + 1) 57 2 lv (rawK ls v k).length (sps (rawK ls v k)) ∧ Hid (Below (w.heap.size + 1) w2 wv)) (fun _ kv _ => 4 - (intOf kv).toNat)
        case atStart => exact ⟨0, by omega, rfl, by simpa [rawK] using HO.out, hbel⟩
        case round =>
          clear hbel hbs HBw HO y0
          obtain ⟨k, hk, rfl, hown, hbel⟩ := hrel
          have hbs := hbel.out.size
          obtain ⟨po, pc, rfl⟩ := own_slice2 hown
          have HBw := hide1 (B2.out.trans (hbel.out.mono (Nat.le_succ _)))
          by_cases c2 : k < 4
          · have k2 : (k : Int) < 4 := by omega
            have HK := hide1 (rawK_next ls v k)
            have hnl : (rawK ls v k).length ≤ 28 := by rw [rawK_length]; omega
            have CS := hide1 (implSpot_any v k wr hv.1 hv.2 c2 (HT.out.below HBw.out hp))
            generalize spotF v k = h at *
            generalize rawK ls v k = acc at *
            have HO := hide1 hown
            clear hown
            go_wp2_with (first | (at_builtin; (refine wpList_push2 rfl _ _ 26 rfl (w.heap.size + 1) 57 i0 (spV (0, 0)) 16 Tryd.underlying26 hi0 hz0 hz1 hz2 rfl (by decide) _ acc.length (sps acc) rfl o6 _ _ rfl rfl rfl (by omega) hs6 ?_; intro v' w7 hown' hb')) | (go_at_call 35; refine (CS.out).mono ?_; rintro e w6 ⟨rfl, hb6⟩; have o6 := own_kept HO.out hb6; have hs6 : w.heap.size + 1 ≤ w6.heap.size := (by have := hb6.size; omega); have E6 := hide1 (hbel.out.trans (hb6.mono (show w.heap.size + 1 ≤ wr.heap.size by omega))); clear hb6))
            go_roundw
            case rel =>
              refine ⟨k + 1, by omega, by go_num, ?_, hide1 (E6.out.trans hb')⟩
              rw [HK.out, sps_append, List.length_append]
              exact hown'
            case measure => simp [intOf]; omega
          · obtain rfl : k = 4 := by omega
            have HO := hide1 hown
            clear hown
            go_wp2
            go_roundw
            case rel => exact ⟨i + 1, by omega, by go_num, by rw [HN.out]; exact HO.out, hbel⟩
            case measure => simp [intOf]; omega
      · obtain rfl : i = L.length := by omega
        have hrl := rawL_length (L := L) (Nat.le_refl _)
        rw [List.take_length] at hown hrl
        obtain ⟨g, cap, hv⟩ := own_some2 hown (by omega)
        simp only [Value.slice.injEq] at hv
        obtain ⟨rfl, _, rfl⟩ := hv
        have CQ := hide1 (sortP_any (rawL L) (ringL spotF L) (w.heap.size + 1) g vc wr (ringL_srt _ _) (ring_perm L) hown (by omega))
        have HRL := hide1 (show (rawL L).length = (ringL spotF L).length from (ring_perm L).length_eq.symm)
        have hg := (hown.lt g rfl).1
        rw [List.take_length]
        clear hrl hown
        go_wp2_with fail
        refine CQ.out.mono ?_
        rintro e w8 ⟨rfl, ho8, hb8⟩
        have O8 := hide1 ho8
        have R8 := hide1 (R2.out.below (hbel.out.trans hb8) (Nat.lt_succ_self _))
        have B8 := hide1 (HBw.out.trans (hb8.mono (Nat.le_succ _)))
        have c0 : w8.cell? ⟨w.heap.size, 0, none⟩ = some (.slice none 0 0) := R8.out.cell 0
        have cf : ∀ j, w8.frozen? ⟨w.heap.size, j, none⟩ = false := fun j => R8.out.froz j
        clear ho8 hb8 CQ
        go_wp2
        refine bodyPost_ret (resR2 Tryd.results10 _ _ w.heap.size 28 #[.slice (some ⟨g, 0, none⟩) (rawL L).length vc] (0, 0) _ rfl (Blk.set R8.out 0 _) Tryd.underlying28 rfl (by kernel_rfl)) rfl ?_
        refine ⟨some ⟨g, 0, none⟩, vc, ringL spotF L, true, by rw [HRL.out]; rfl, .inl ⟨HOK.out, rfl, rfl⟩, ?_, B8.out.setCell (p := ⟨w.heap.size, 0, none⟩) (Nat.le_refl _) _⟩
        have O9 := own_base (base := w.heap.size) (own_far O8.out ⟨w.heap.size, 0, none⟩ (.slice (some ⟨g, 0, none⟩) (rawL L).length vc) (fun k hk => by have := (World.ownsRow.lt O8.out k hk).1; dsimp only; omega)) (Nat.le_succ _)
        rw [HRL.out] at O9
        rw [HRL.out]
        exact O9
end Go.Proofs.YtdgpencendphbaaDoor
