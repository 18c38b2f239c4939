/- The program's views. -/
import Derived.Test.YtmfpgnoeemjhiaaFiT
import Derived.Test.YtmfpgnoeemjhiaaViS
namespace Go.Proofs.Ytmfpgnoeemjhiaa
open Go.RowKit
set_option linter.unusedVariables false

set_option maxRecDepth 100000 in
set_option maxHeartbeats 1000000 in
theorem indexV_any (a : Option Addr) (ca : Nat) (l : List Int) (f : Int) (w : World) (hl : l.length ≤ 1048576) (hR : RdZ w a l) :
    Calls Try.prog 56 #[.slice a l.length ca, .int .i64 f] w fun e w' => (∃ z : Int, e = .returned (.int .i64 z) ∧ decide (0 ≤ z) = decide (f ∈ l) ∧ -1 ≤ z ∧ z ≤ 1048576) ∧ w' = w := by
  have HR := hide1 hR
  clear hR
  go_enter Try.func56, Try.ntmps56
  go_wp2
  go_loopw [8] (fun iv wr => ∃ i : Nat, i ≤ l.length ∧ iv = .int .i64 (i : Int) ∧ Hid (¬ f ∈ l.take i) ∧ wr = w) (fun iv _ => l.length - (intOf iv).toNat)
  case atStart => exact ⟨0, by omega, rfl, hide1 (by simp), rfl⟩
  case round =>
    obtain ⟨i, hi, rfl, ha, rfl⟩ := hrel
    by_cases hlt : i < l.length
    · have k1 : (i : Int) < (l.length : Int) := by omega
      have k0 : (0 : Int) ≤ (i : Int) := by omega
      obtain ⟨b, q, rfl, hb, x0⟩ := HR.out i hlt
      have HN := hide1 (show ¬ l[i] = f → ¬ f ∈ l.take (i + 1) from fun hne hm => by
        rw [List.take_succ_eq_append_getElem hlt, List.mem_append] at hm
        rcases hm with hm | hm
        · exact ha.out hm
        · exact hne (List.mem_singleton.1 hm).symm)
      have HT := hide1 (show l[i] = f → f ∈ l from fun hq => hq ▸ List.getElem_mem hlt)
      clear ha
      generalize l[i] = s at *
      by_cases cf : s = f
      · have HT2 := hide1 (decide_eq_true (HT.out cf))
        have q1 : (f == s) = true := by simp [cf]
        have q2 : (s == f) = true := by simp [cf]
        clear cf
        go_wp2
        go_ret
        exact ⟨⟨(i : Int), rfl, by rw [HT2.out]; simp, by omega, by omega⟩, rfl⟩
      · have HN2 := hide1 (HN.out cf)
        have q1 : (f == s) = false := by rw [beq_eq_false_iff_ne]; exact fun e => cf e.symm
        have q2 : (s == f) = false := by rw [beq_eq_false_iff_ne]; exact cf
        clear cf
        go_wp2
        go_roundw
        case rel => exact ⟨i + 1, by omega, by go_num, HN2, trivial⟩
        case measure => simp [intOf]; omega
    · obtain rfl : i = l.length := by omega
      have k1 : ¬ ((l.length : Int) < (l.length : Int)) := by omega
      have hz := ha.out
      rw [List.take_length] at hz
      have HZ := hide1 hz
      clear hz ha
      go_wp2
      go_ret
      exact ⟨⟨-1, rfl, by first | exact ⟨fun h => by omega, fun h => absurd h HZ.out⟩ | (rw [decide_eq_false HZ.out]; rfl), by omega, by omega⟩, rfl⟩
set_option maxRecDepth 100000 in
theorem containsV_any (a : Option Addr) (ca : Nat) (l : List Int) (f : Int) (w : World) (hl : l.length ≤ 1048576) (hR : RdZ w a l) :
    Calls Try.prog 47 #[.slice a l.length ca, .int .i64 f] w fun e w' => e = .returned (.bool (decide (f ∈ l))) ∧ w' = w := by
  have C := hide1 (indexV_any a ca l f w hl hR)
  clear hR
  go_enter Try.func47, Try.ntmps47
  go_wp2_with fail
  refine C.out.mono ?_
  rintro e w1 ⟨⟨z, rfl, hz, _, _⟩, rfl⟩
  have HZ := hide1 hz
  clear hz
  go_wp2
  go_ret
  exact ⟨by rw [← HZ.out]; rfl, rfl⟩
set_option maxRecDepth 100000 in
set_option maxHeartbeats 4000000 in
theorem viewFits_any (a : Option Addr) (v : List Int) (ca : Nat) (w : World) (hl : v.length ≤ 1048576) (hca : v.length ≤ ca) (hA : RdZ w a v) :
    Calls Try.prog 46 #[.slice a v.length ca] w fun e w' => e = .returned (.bool (decide (okView v))) ∧ Below w.heap.size w w' := by
  have HA := hide1 hA
  clear hA
  by_cases c0 : 1 ≤ v.length ∧ v.length ≤ 4
  · have q1 : decide ((v.length : Int) < 1) = false := decide_eq_false (by omega)
    have q2 : decide ((4 : Int) < (v.length : Int)) = false := decide_eq_false (by omega)
    have q3 : ¬ ((v.length : Int) < 1) := by omega
    have q4 : ¬ ((4 : Int) < (v.length : Int)) := by omega
    go_enter Try.func46, Try.ntmps46
    go_wp2
    go_loopw [15] (fun iv wr => ∃ i : Nat, i ≤ v.length ∧ iv = .int .i64 (i : Int) ∧ Hid (vwTo v i) ∧ Hid (Below w.heap.size w wr)) (fun iv _ => v.length - (intOf iv).toNat)
    case atStart => exact ⟨0, Nat.zero_le _, rfl, hide1 (fun j _ h => by omega), hide1 (Below.refl _ _)⟩
    case round =>
      obtain ⟨i, hi, rfl, HS, BB⟩ := hrel
      by_cases hlt : i < v.length
      · have k1 : (i : Int) < (v.length : Int) := by omega
        have k0 : (0 : Int) ≤ (i : Int) := by omega
        have hic : (i : Int) ≤ (ca : Int) := by omega
        have hic2 : i ≤ ca := by omega
        obtain ⟨b, o, rfl, hb, hc⟩ := HA.out i hlt
        have x0 : wr.cell? ⟨b, o + i, none⟩ = some (.int .i64 v[i]) := (BB.out.cell (p := ⟨b, o + i, none⟩) hb).trans hc
        have C1 := hide1 (fun w' => nodeFits_any v[i] w')
        have C2 := hide1 (containsV_any (some ⟨b, o, none⟩) ca (v.take i) v[i] wr (by rw [List.length_take]; omega) ((HA.out.later BB.out).takeV i))
        rw [List.length_take, Nat.min_eq_left (Nat.le_of_lt hlt)] at C2
        have NX := hide1 (fun h1 h2 => vwTo_next HS.out hlt h1 h2)
        have NO1 := hide1 (show ¬ (1 ≤ v[i] ∧ v[i] ≤ 6) → decide (okView v) = false from fun h => decide_eq_false (fun e => h (e.2.1 _ (List.getElem_mem hlt))))
        have NO2 := hide1 (show v[i] ∈ v.take i → decide (okView v) = false from fun h => decide_eq_false (fun e => nodup_take e.2.2 hlt h))
        generalize v[i] = z at *
        clear hc
        by_cases c1 : 1 ≤ z ∧ z ≤ 6
        · rw [decide_eq_true c1] at C1
          by_cases c2 : z ∈ v.take i
          · rw [decide_eq_true c2] at C2
            have RES := hide1 (NO2.out c2)
            clear NX NO1 NO2 c2 c1
            go_wp2_with fail
            refine (C1.out _).mono ?_
            rintro e w1 ⟨rfl, rfl⟩
            go_wp2_with fail
            refine C2.out.mono ?_
            rintro e w2 ⟨rfl, rfl⟩
            go_wp2
            go_ret
            exact ⟨by rw [RES.out]; rfl, BB.out⟩
          · rw [decide_eq_false c2] at C2
            have YS := hide1 (NX.out c1 c2)
            clear NX NO1 NO2 c2 c1
            go_wp2_with fail
            refine (C1.out _).mono ?_
            rintro e w1 ⟨rfl, rfl⟩
            go_wp2_with fail
            refine C2.out.mono ?_
            rintro e w2 ⟨rfl, rfl⟩
            go_wp2
            go_roundw
            case rel => exact ⟨i + 1, by omega, by go_num, YS, BB⟩
            case measure => simp [intOf]; omega
        · rw [decide_eq_false c1] at C1
          have RES := hide1 (NO1.out c1)
          clear NX NO1 NO2 c1
          go_wp2_with fail
          refine (C1.out _).mono ?_
          rintro e w1 ⟨rfl, rfl⟩
          go_wp2
          go_ret
          exact ⟨by rw [RES.out]; rfl, BB.out⟩
      · obtain rfl : i = v.length := by omega
        have k1 : ¬ ((v.length : Int) < (v.length : Int)) := by omega
        have RES := hide1 (show decide (okView v) = true from decide_eq_true ⟨c0, (vwTo_all HS.out).1, (vwTo_all HS.out).2⟩)
        go_wp2
        go_ret
        exact ⟨by rw [RES.out]; rfl, BB.out⟩
  · have RES := hide1 (show decide (okView v) = false from decide_eq_false (fun e => c0 e.1))
    by_cases c1 : v.length < 1
    · have q1 : decide ((v.length : Int) < 1) = true := decide_eq_true (by omega)
      have q3 : (v.length : Int) < 1 := by omega
      go_enter Try.func46, Try.ntmps46
      go_wp2
      go_ret
      exact ⟨by rw [RES.out]; rfl, Below.refl _ _⟩
    · have q1 : decide ((v.length : Int) < 1) = false := decide_eq_false (by omega)
      have q3 : ¬ ((v.length : Int) < 1) := by omega
      have q4 : (4 : Int) < (v.length : Int) := by omega
      go_enter Try.func46, Try.ntmps46
      go_wp2
      go_ret
      exact ⟨by rw [RES.out]; rfl, Below.refl _ _⟩
set_option maxRecDepth 100000 in
set_option maxHeartbeats 4000000 in
theorem implViews_any (a : Option Addr) (L : List Vw) (ca : Nat) (w : World) (hl : L.length ≤ 1048576) (hs : ∀ x ∈ L, x.l.length ≤ 1048576) (hA : RdVs w a L) :
    Calls Try.prog 26 #[.slice a L.length ca] w fun e w' => e = .returned (.bool (decide (okViews (L.map (·.l))))) ∧ Below w.heap.size w w' := by
  have HA := hide1 hA
  have HS := hide1 hs
  clear hA hs
  by_cases c0 : 1 ≤ L.length ∧ L.length ≤ 9
  · have q1 : decide ((L.length : Int) < 1) = false := decide_eq_false (by omega)
    have q3 : ¬ ((L.length : Int) < 1) := by omega
    have q4 : ¬ ((9 : Int) < (L.length : Int)) := by omega
    go_enter Try.func26, Try.ntmps26
    go_wp2
    go_loopw [15] (fun iv wr => ∃ i : Nat, i ≤ L.length ∧ iv = .int .i64 (i : Int) ∧ Hid (∀ j (h : j < L.length), j < i → okView L[j].l) ∧ Hid (Below w.heap.size w wr)) (fun iv _ => L.length - (intOf iv).toNat)
    case atStart => exact ⟨0, Nat.zero_le _, rfl, hide1 (fun j _ h => by omega), hide1 (Below.refl _ _)⟩
    case round =>
      obtain ⟨i, hi, rfl, HV, BB⟩ := hrel
      by_cases hlt : i < L.length
      · have k1 : (i : Int) < (L.length : Int) := by omega
        obtain ⟨b, o, hab, hb, hc⟩ := HA.out.r i hlt
        have x0 : wr.cell? ⟨b, o + i, none⟩ = some (.slice L[i].a L[i].l.length L[i].c) := (BB.out.cell (p := ⟨b, o + i, none⟩) hb).trans (by have := hc 0 (by omega); rw [Nat.mul_one] at this; exact this)
        have hm := List.getElem_mem hlt
        have C1 := hide1 (viewFits_any L[i].a L[i].l L[i].c wr (HS.out _ hm) (HA.out.c _ hm) ((HA.out.v _ hm).later BB.out))
        have NO := hide1 (show ¬ okView L[i].l → decide (okViews (L.map (·.l))) = false from fun h => decide_eq_false (fun e => h (e.1 _ (List.mem_map_of_mem hm))))
        have NX := hide1 (show okView L[i].l → ∀ j (h : j < L.length), j < i + 1 → okView L[j].l from fun hk j h hj => by
          by_cases c : j < i
          · exact HV.out j h c
          · have : j = i := (by omega)
            subst this
            exact hk)
        subst hab
        clear hc hm
        generalize L[i] = s at *
        by_cases c1 : okView s.l
        · rw [decide_eq_true c1] at C1
          have N2 := hide1 (NX.out c1)
          clear NX NO c1
          go_wp2_with fail
          refine C1.out.mono ?_
          rintro e w1 ⟨rfl, hb1⟩
          have B1 := hide1 (BB.out.trans (hb1.mono BB.out.size))
          clear hb1
          go_wp2
          go_roundw
          case rel => exact ⟨i + 1, by omega, by go_num, N2, B1⟩
          case measure => simp [intOf]; omega
        · rw [decide_eq_false c1] at C1
          have RES := hide1 (NO.out c1)
          clear NX NO c1
          go_wp2_with fail
          refine C1.out.mono ?_
          rintro e w1 ⟨rfl, hb1⟩
          have B1 := hide1 (BB.out.trans (hb1.mono BB.out.size))
          clear hb1
          go_wp2
          go_ret
          exact ⟨by rw [RES.out]; rfl, B1.out⟩
      · obtain rfl : i = L.length := by omega
        have k1 : ¬ ((L.length : Int) < (L.length : Int)) := by omega
        have RES := hide1 (show decide (okViews (L.map (·.l))) = true from decide_eq_true ⟨fun v hv => by
          obtain ⟨x, hx, rfl⟩ := List.mem_map.1 hv
          obtain ⟨j, hj, rfl⟩ := List.getElem_of_mem hx
          exact HV.out j hj hj, by rw [List.length_map]; exact c0.1, by rw [List.length_map]; exact c0.2⟩)
        go_wp2
        go_ret
        exact ⟨by rw [RES.out]; rfl, BB.out⟩
  · have RES := hide1 (show decide (okViews (L.map (·.l))) = false from decide_eq_false (fun e => c0 (by have h1 := e.2.1; have h2 := e.2.2; rw [List.length_map] at h1 h2; exact ⟨h1, h2⟩)))
    by_cases c1 : L.length < 1
    · have q1 : decide ((L.length : Int) < 1) = true := decide_eq_true (by omega)
      have q3 : (L.length : Int) < 1 := by omega
      go_enter Try.func26, Try.ntmps26
      go_wp2
      go_ret
      exact ⟨by rw [RES.out]; rfl, Below.refl _ _⟩
    · have q1 : decide ((L.length : Int) < 1) = false := decide_eq_false (by omega)
      have q3 : ¬ ((L.length : Int) < 1) := by omega
      have q4 : (9 : Int) < (L.length : Int) := by omega
      go_enter Try.func26, Try.ntmps26
      go_wp2
      go_ret
      exact ⟨by rw [RES.out]; rfl, Below.refl _ _⟩
end Go.Proofs.Ytmfpgnoeemjhiaa
