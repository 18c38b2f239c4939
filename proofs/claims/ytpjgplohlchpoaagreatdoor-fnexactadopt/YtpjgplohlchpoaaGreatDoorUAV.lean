/- The program's views. -/
import Derived.Test.YtpjgplohlchpoaaGreatDoorUAP
import Derived.Test.YtpjgplohlchpoaaGreatDoorUAE
import Derived.Test.YtpjgplohlchpoaaGreatDoorUAU
import Derived.Test.YtpjgplohlchpoaaGreatDoorMbI
import Derived.Test.YtpjgplohlchpoaaGreatDoorUAL
namespace Go.Proofs.YtpjgplohlchpoaaGreatDoor
open Go.RowKit
set_option linter.unusedVariables false

set_option maxRecDepth 100000 in
set_option maxHeartbeats 4000000 in
theorem viewFits_any (a : Option Addr) (v : List Int) (ca : Nat) (w : World) (hl : v.length ≤ 1048576) (hca : v.length ≤ ca) (hA : RdZ w a v) :
    Calls Tryz.prog 96 #[.slice a v.length ca] w fun e w' => e = .returned (.bool (decide (okView v))) ∧ Below w.heap.size w w' := by
  have HA := hide1 hA
  clear hA
  by_cases c0 : 1 ≤ v.length ∧ v.length ≤ 4
  · have q1 : decide ((v.length : Int) < 1) = false := decide_eq_false (by omega)
    have q2 : decide ((4 : Int) < (v.length : Int)) = false := decide_eq_false (by omega)
    have q3 : ¬ ((v.length : Int) < 1) := by omega
    have q4 : ¬ ((4 : Int) < (v.length : Int)) := by omega
    go_enter Tryz.func96, Tryz.ntmps96
    go_wp2
    go_loopw [15] (fun iv wr => ∃ i : Nat, i ≤ v.length ∧ iv = .int .i64 (i : Int) ∧ Hid (vwTo v i) ∧ Hid (Below w.heap.size w wr)) (fun iv _ => v.length - (intOf iv).toNat)
    case atStart => exact ⟨0, Nat.zero_le _, rfl, hide1 (fun j _ h => by omega), hide1 (Below.refl _ _)⟩
    case round =>
      obtain ⟨i, hi, rfl, HS, BB⟩ := hrel
      by_cases hlt : i < v.length
      · have k1 : (i : Int) < (v.length : Int) := by omega
        have k0 : (0 : Int) ≤ (i : Int) := by omega
        have hic : (i : Int) ≤ (ca : Int) := by omega
        have hic2 : i ≤ ca := by omega
        obtain ⟨b, o, rfl, hb, hc⟩ := HA.out i hlt
        have x0 : wr.cell? ⟨b, o + i, none⟩ = some (.int .i64 v[i]) := (BB.out.cell (p := ⟨b, o + i, none⟩) hb).trans hc
        have C1 := hide1 (fun w' => nodeFits_any v[i] w')
        have C2 := hide1 (containsV_any (some ⟨b, o, none⟩) ca (v.take i) v[i] wr (by rw [List.length_take]; omega) ((HA.out.later BB.out).takeV i))
        rw [List.length_take, Nat.min_eq_left (Nat.le_of_lt hlt)] at C2
        have NX := hide1 (fun h1 h2 => vwTo_next HS.out hlt h1 h2)
        have NO1 := hide1 (show ¬ (1 ≤ v[i] ∧ v[i] ≤ 6) → decide (okView v) = false from fun h => decide_eq_false (fun e => h (e.2.1 _ (List.getElem_mem hlt))))
        have NO2 := hide1 (show v[i] ∈ v.take i → decide (okView v) = false from fun h => decide_eq_false (fun e => nodup_take e.2.2 hlt h))
        generalize v[i] = z at *
        clear hc
        by_cases c1 : 1 ≤ z ∧ z ≤ 6
        · rw [decide_eq_true c1] at C1
          by_cases c2 : z ∈ v.take i
          · rw [decide_eq_true c2] at C2
            have RES := hide1 (NO2.out c2)
            clear NX NO1 NO2 c2 c1
            go_wp2_with fail
            refine (C1.out _).mono ?_
            rintro e w1 ⟨rfl, rfl⟩
            go_wp2_with fail
            refine C2.out.mono ?_
            rintro e w2 ⟨rfl, rfl⟩
            go_wp2
            go_ret
            exact ⟨by rw [RES.out]; rfl, BB.out⟩
          · rw [decide_eq_false c2] at C2
            have YS := hide1 (NX.out c1 c2)
            clear NX NO1 NO2 c2 c1
            go_wp2_with fail
            refine (C1.out _).mono ?_
            rintro e w1 ⟨rfl, rfl⟩
            go_wp2_with fail
            refine C2.out.mono ?_
            rintro e w2 ⟨rfl, rfl⟩
            go_wp2
            go_roundw
            case rel => exact ⟨i + 1, by omega, by go_num, YS, BB⟩
            case measure => simp [intOf]; omega
        · rw [decide_eq_false c1] at C1
          have RES := hide1 (NO1.out c1)
          clear NX NO1 NO2 c1
          go_wp2_with fail
          refine (C1.out _).mono ?_
          rintro e w1 ⟨rfl, rfl⟩
          go_wp2
          go_ret
          exact ⟨by rw [RES.out]; rfl, BB.out⟩
      · obtain rfl : i = v.length := by omega
        have k1 : ¬ ((v.length : Int) < (v.length : Int)) := by omega
        have RES := hide1 (show decide (okView v) = true from decide_eq_true ⟨c0, (vwTo_all HS.out).1, (vwTo_all HS.out).2⟩)
        go_wp2
        go_ret
        exact ⟨by rw [RES.out]; rfl, BB.out⟩
  · have RES := hide1 (show decide (okView v) = false from decide_eq_false (fun e => c0 e.1))
    by_cases c1 : v.length < 1
    · have q1 : decide ((v.length : Int) < 1) = true := decide_eq_true (by omega)
      have q3 : (v.length : Int) < 1 := by omega
      go_enter Tryz.func96, Tryz.ntmps96
      go_wp2
      go_ret
      exact ⟨by rw [RES.out]; rfl, Below.refl _ _⟩
    · have q1 : decide ((v.length : Int) < 1) = false := decide_eq_false (by omega)
      have q3 : ¬ ((v.length : Int) < 1) := by omega
      have q4 : (4 : Int) < (v.length : Int) := by omega
      go_enter Tryz.func96, Tryz.ntmps96
      go_wp2
      go_ret
      exact ⟨by rw [RES.out]; rfl, Below.refl _ _⟩
set_option maxRecDepth 100000 in
set_option maxHeartbeats 4000000 in
theorem implViews_any (a : Option Addr) (L : List Vw) (ca : Nat) (w : World) (hl : L.length ≤ 1048576) (hs : ∀ x ∈ L, x.l.length ≤ 1048576) (hA : RdVs w a L) :
    Calls Tryz.prog 74 #[.slice a L.length ca] w fun e w' => e = .returned (.bool (decide (okViews (L.map (·.l))))) ∧ Below w.heap.size w w' := by
  have HA := hide1 hA
  have HS := hide1 hs
  clear hA hs
  by_cases c0 : 1 ≤ L.length ∧ L.length ≤ 9
  · have q1 : decide ((L.length : Int) < 1) = false := decide_eq_false (by omega)
    have q3 : ¬ ((L.length : Int) < 1) := by omega
    have q4 : ¬ ((9 : Int) < (L.length : Int)) := by omega
    go_enter Tryz.func74, Tryz.ntmps74
    go_wp2
    go_loopw [15] (fun iv wr => ∃ i : Nat, i ≤ L.length ∧ iv = .int .i64 (i : Int) ∧ Hid (∀ j (h : j < L.length), j < i → okView L[j].l) ∧ Hid (Below w.heap.size w wr)) (fun iv _ => L.length - (intOf iv).toNat)
    case atStart => exact ⟨0, Nat.zero_le _, rfl, hide1 (fun j _ h => by omega), hide1 (Below.refl _ _)⟩
    case round =>
      obtain ⟨i, hi, rfl, HV, BB⟩ := hrel
      by_cases hlt : i < L.length
      · have k1 : (i : Int) < (L.length : Int) := by omega
        obtain ⟨b, o, hab, hb, hc⟩ := HA.out.r i hlt
        have x0 : wr.cell? ⟨b, o + i, none⟩ = some (.slice L[i].a L[i].l.length L[i].c) := (BB.out.cell (p := ⟨b, o + i, none⟩) hb).trans (by have := hc 0 (by omega); rw [Nat.mul_one] at this; exact this)
        have hm := List.getElem_mem hlt
        have C1 := hide1 (viewFits_any L[i].a L[i].l L[i].c wr (HS.out _ hm) (HA.out.c _ hm) ((HA.out.v _ hm).later BB.out))
        have NO := hide1 (show ¬ okView L[i].l → decide (okViews (L.map (·.l))) = false from fun h => decide_eq_false (fun e => h (e.1 _ (List.mem_map_of_mem hm))))
        have NX := hide1 (show okView L[i].l → ∀ j (h : j < L.length), j < i + 1 → okView L[j].l from fun hk j h hj => by
          by_cases c : j < i
          · exact HV.out j h c
          · have : j = i := (by omega)
            subst this
            exact hk)
        subst hab
        clear hc hm
        generalize L[i] = s at *
        by_cases c1 : okView s.l
        · rw [decide_eq_true c1] at C1
          have N2 := hide1 (NX.out c1)
          clear NX NO c1
          go_wp2_with fail
          refine C1.out.mono ?_
          rintro e w1 ⟨rfl, hb1⟩
          have B1 := hide1 (BB.out.trans (hb1.mono BB.out.size))
          clear hb1
          go_wp2
          go_roundw
          case rel => exact ⟨i + 1, by omega, by go_num, N2, B1⟩
          case measure => simp [intOf]; omega
        · rw [decide_eq_false c1] at C1
          have RES := hide1 (NO.out c1)
          clear NX NO c1
          go_wp2_with fail
          refine C1.out.mono ?_
          rintro e w1 ⟨rfl, hb1⟩
          have B1 := hide1 (BB.out.trans (hb1.mono BB.out.size))
          clear hb1
          go_wp2
          go_ret
          exact ⟨by rw [RES.out]; rfl, B1.out⟩
      · obtain rfl : i = L.length := by omega
        have k1 : ¬ ((L.length : Int) < (L.length : Int)) := by omega
        have RES := hide1 (show decide (okViews (L.map (·.l))) = true from decide_eq_true ⟨fun v hv => by
          obtain ⟨x, hx, rfl⟩ := List.mem_map.1 hv
          obtain ⟨j, hj, rfl⟩ := List.getElem_of_mem hx
          exact HV.out j hj hj, by rw [List.length_map]; exact c0.1, by rw [List.length_map]; exact c0.2⟩)
        go_wp2
        go_ret
        exact ⟨by rw [RES.out]; rfl, BB.out⟩
  · have RES := hide1 (show decide (okViews (L.map (·.l))) = false from decide_eq_false (fun e => c0 (by have h1 := e.2.1; have h2 := e.2.2; rw [List.length_map] at h1 h2; exact ⟨h1, h2⟩)))
    by_cases c1 : L.length < 1
    · have q1 : decide ((L.length : Int) < 1) = true := decide_eq_true (by omega)
      have q3 : (L.length : Int) < 1 := by omega
      go_enter Tryz.func74, Tryz.ntmps74
      go_wp2
      go_ret
      exact ⟨by rw [RES.out]; rfl, Below.refl _ _⟩
    · have q1 : decide ((L.length : Int) < 1) = false := decide_eq_false (by omega)
      have q3 : ¬ ((L.length : Int) < 1) := by omega
      have q4 : (9 : Int) < (L.length : Int) := by omega
      go_enter Tryz.func74, Tryz.ntmps74
      go_wp2
      go_ret
      exact ⟨by rw [RES.out]; rfl, Below.refl _ _⟩
end Go.Proofs.YtpjgplohlchpoaaGreatDoor
namespace Go.Proofs.YtpjgplohlchpoaaGreatDoor
open Go.RowKit
set_option linter.unusedVariables false

theorem head_getI (l : List Int) (h : 0 < l.length) : l.headD 0 = l[0] := by cases l with | nil => simp at h | cons x l => rfl
def refA (k : Int) : Value := .iface 96 (.agg #[.int .i64 k])
/-- mayAdopt's answer. -/
def mayA (m : Mb) (vs : List (List Int)) (e : Int) : Value := if okMb m ∧ okViews vs ∧ 2 ≤ e ∧ e ≤ vs.length then (if m.ep < e ∧ (vwA vs e).headD 0 = m.id then .nilIface else refA 2) else refA 1
theorem seat_mb {w : World} {X : Nat} {q0 q1 v td sd : Value} {m : Mb} {A : MA} (h : BlkA w X 94 (seatA q0 q1 v m A td sd)) : CsAt w X 3 (mbA m A) := fun j hj => by
  have h16 : (mbA m A).size = 16 := rfl
  have := h.cell (3 + j) (v := (mbA m A)[j]) (by
    rw [h16] at hj
    have : j = 0 ∨ j = 1 ∨ j = 2 ∨ j = 3 ∨ j = 4 ∨ j = 5 ∨ j = 6 ∨ j = 7 ∨ j = 8 ∨ j = 9 ∨ j = 10 ∨ j = 11 ∨ j = 12 ∨ j = 13 ∨ j = 14 ∨ j = 15 := by omega
    rcases this with h | h | h | h | h | h | h | h | h | h | h | h | h | h | h | h <;> subst h <;> rfl)
  rw [this]
set_option maxRecDepth 100000 in
set_option maxHeartbeats 4000000 in
theorem implMayAdopt_no (X : Nat) (q0 q1 td sd : Value) (m : Mb) (A : MA) (va : Option Addr) (L : List Vw) (vc : Nat) (e : Int) (w : World) (hno : ¬ (okMb m ∧ okViews (L.map (·.l)) ∧ 2 ≤ e ∧ e ≤ (L.length : Int))) (hX : BlkA w X 94 (seatA q0 q1 (.slice va L.length vc) m A td sd)) (hL : L.length ≤ 1048576) (hs : ∀ x ∈ L, x.l.length ≤ 1048576) (hV : RdVs w va L)
    (hz : SzMb m) (hzi : ∀ x ∈ m.is, x.k.size ≤ 1048576 ∧ x.v.size ≤ 1048576) (hA : RdMb w m A) :
    Calls Tryz.prog 55 #[.pointer (some ⟨X, 0, none⟩), .int .i64 e] w fun r w' => r = .returned (refA 1) ∧ Below w.heap.size w w' := by
  have CM := hide1 (show Calls Tryz.prog 73 #[.agg (mbA m A)] w _ from implMemberOk_any m A w hz hzi hA)
  have CV := hide1 (fun w' (h : Below w.heap.size w w') => implViews_any va L vc w' hL hs (hV.later h))
  have SM := hide1 (seat_mb hX)
  have x2 : ∀ w', Below w.heap.size w w' → w'.cell? ⟨X, 2, none⟩ = some (.slice va L.length vc) := fun w' h => (hX.below h hX.lt).cell 2 rfl
  have X2 := hide1 x2
  clear hX hV hA hz hzi hs x2
  by_cases h1 : okMb m
  case neg =>
    rw [decide_eq_false h1] at CM
    clear h1 hno
    go_enter Tryz.func55, Tryz.ntmps55
    go_wp2_with (first | (refine wpList_load_at rfl 38 _ rfl X 3 rfl (mbA m A) _ SM.out Tryz.underlying38 rfl sizeMb ?_) | (go_at_call 73; refine CM.out.mono ?_; rintro r w2 ⟨rfl, hb⟩; have HB := hide1 hb; clear hb))
    go_ret
    exact ⟨rfl, HB.out⟩
  rw [decide_eq_true h1] at CM
  by_cases h2 : okViews (L.map (·.l))
  case neg =>
    rw [decide_eq_false h2] at CV
    clear h1 h2 hno
    go_enter Tryz.func55, Tryz.ntmps55
    go_wp2_with (first | (refine wpList_load_at rfl 38 _ rfl X 3 rfl (mbA m A) _ SM.out Tryz.underlying38 rfl sizeMb ?_) | (go_at_call 73; refine CM.out.mono ?_; rintro r w2 ⟨rfl, hb⟩; have HB := hide1 hb; have y2 := X2.out _ hb; clear hb) | (go_at_call 74; refine (CV.out _ HB.out).mono ?_; rintro r w3 ⟨rfl, hb⟩; have HC := hide1 (HB.out.trans (hb.mono HB.out.size)); have y3 := X2.out _ HC.out; clear hb))
    go_ret
    exact ⟨rfl, HC.out⟩
  rw [decide_eq_true h2] at CV
  by_cases h3 : e < 2
  · clear h1 h2 hno
    go_enter Tryz.func55, Tryz.ntmps55
    go_wp2_with (first | (refine wpList_load_at rfl 38 _ rfl X 3 rfl (mbA m A) _ SM.out Tryz.underlying38 rfl sizeMb ?_) | (go_at_call 73; refine CM.out.mono ?_; rintro r w2 ⟨rfl, hb⟩; have HB := hide1 hb; have y2 := X2.out _ hb; clear hb) | (go_at_call 74; refine (CV.out _ HB.out).mono ?_; rintro r w3 ⟨rfl, hb⟩; have HC := hide1 (HB.out.trans (hb.mono HB.out.size)); have y3 := X2.out _ HC.out; clear hb))
    go_ret
    exact ⟨rfl, HC.out⟩
  have h4 : (L.length : Int) < e := by
    rcases Int.lt_or_le (L.length : Int) e with h | h
    · exact h
    · exact absurd ⟨h1, h2, by omega, h⟩ hno
  clear h1 h2 hno
  go_enter Tryz.func55, Tryz.ntmps55
  go_wp2_with (first | (refine wpList_load_at rfl 38 _ rfl X 3 rfl (mbA m A) _ SM.out Tryz.underlying38 rfl sizeMb ?_) | (go_at_call 73; refine CM.out.mono ?_; rintro r w2 ⟨rfl, hb⟩; have HB := hide1 hb; have y2 := X2.out _ hb; clear hb) | (go_at_call 74; refine (CV.out _ HB.out).mono ?_; rintro r w3 ⟨rfl, hb⟩; have HC := hide1 (HB.out.trans (hb.mono HB.out.size)); have y3 := X2.out _ HC.out; clear hb))
  go_ret
  exact ⟨rfl, HC.out⟩
set_option maxRecDepth 100000 in
set_option maxHeartbeats 4000000 in
theorem implMayAdopt_yes (X : Nat) (q0 q1 td sd : Value) (m : Mb) (A : MA) (va : Option Addr) (L : List Vw) (vc : Nat) (k : Nat) (hk1 : 1 ≤ k) (hk : k < L.length) (w : World) (h1 : okMb m) (h2 : okViews (L.map (·.l))) (hX : BlkA w X 94 (seatA q0 q1 (.slice va L.length vc) m A td sd)) (hL : L.length ≤ 1048576) (hs : ∀ x ∈ L, x.l.length ≤ 1048576) (hV : RdVs w va L)
    (hz : SzMb m) (hzi : ∀ x ∈ m.is, x.k.size ≤ 1048576 ∧ x.v.size ≤ 1048576) (hA : RdMb w m A) :
    Calls Tryz.prog 55 #[.pointer (some ⟨X, 0, none⟩), .int .i64 ((k : Int) + 1)] w fun r w' => r = .returned (if m.ep < (k : Int) + 1 ∧ L[k].l.headD 0 = m.id then .nilIface else refA 2) ∧ Below w.heap.size w w' := by
  have CM := hide1 (show Calls Tryz.prog 73 #[.agg (mbA m A)] w _ from implMemberOk_any m A w hz hzi hA)
  have CV := hide1 (fun w' (h : Below w.heap.size w w') => implViews_any va L vc w' hL hs (hV.later h))
  have CO := hide1 (fun w' (h : Below w.heap.size w w') => implViewOf_any X q0 q1 td sd m A va L vc k hk w' (hX.below h hX.lt) hL (hV.later h))
  have SM := hide1 (seat_mb hX)
  have X2 := hide1 (show ∀ w', Below w.heap.size w w' → w'.cell? ⟨X, 2, none⟩ = some (.slice va L.length vc) from fun w' h => (hX.below h hX.lt).cell 2 rfl)
  have KX := hide1 hX
  have hvk : okView L[k].l := h2.1 _ (List.mem_map_of_mem (List.getElem_mem hk))
  have hln : 0 < L[k].l.length := hvk.1.1
  obtain ⟨b1, o1, ea, hb1, hc1⟩ := hV.v _ (List.getElem_mem hk) 0 hln
  have C1 := hide1 (show ∀ w', Below w.heap.size w w' → w'.cell? ⟨b1, o1, none⟩ = some (.int .i64 (L[k].l.headD 0)) from fun w' h => by
    rw [head_getI _ hln]
    exact (h.cell (p := ⟨b1, o1, none⟩) hb1).trans (by simpa using hc1))
  rw [ea] at CO
  obtain ⟨xl, hxl⟩ : ∃ z, z = L[k].l.length := ⟨_, rfl⟩
  obtain ⟨xc, hxc⟩ : ∃ z, z = L[k].c := ⟨_, rfl⟩
  obtain ⟨hd, hhd⟩ : ∃ z, z = L[k].l.headD 0 := ⟨_, rfl⟩
  rw [← hxl, ← hxc] at CO
  rw [← hxl] at hln
  rw [← hhd] at C1 ⊢
  obtain ⟨r0, hr0⟩ : ∃ r0, r0 = (if m.ep < (k : Int) + 1 ∧ hd = m.id then Value.nilIface else refA 2) := ⟨_, rfl⟩
  rw [← hr0]
  have k0 : (0 : Int) < (xl : Int) := by omega
  have e2 : ¬ ((k : Int) + 1 < 2) := by omega
  have e3 : ¬ ((k : Int) + 1 > (L.length : Int)) := by omega
  rw [decide_eq_true h1] at CM
  rw [decide_eq_true h2] at CV
  clear hX hV hA hz hzi hs hvk hc1 hxl hxc hhd h1 h2 ea
  by_cases h4 : (k : Int) + 1 ≤ m.ep
  · have RES := hide1 (show r0 = refA 2 from by rw [hr0]; exact if_neg (by omega))
    clear hr0
    go_enter Tryz.func55, Tryz.ntmps55
    go_upto_region 3 with (first | (refine wpList_load_at rfl 38 _ rfl X 3 rfl (mbA m A) _ SM.out Tryz.underlying38 rfl sizeMb ?_) | (go_at_call 73; refine CM.out.mono ?_; rintro r w2 ⟨rfl, hb⟩; have HB := hide1 hb; have y2 := X2.out _ hb; clear hb) | (go_at_call 74; refine (CV.out _ HB.out).mono ?_; rintro r w3 ⟨rfl, hb⟩; have HC := hide1 (HB.out.trans (hb.mono HB.out.size)); have y3 := X2.out _ HC.out; clear hb))
    have z4 : ∀ n : Gr w3, n.w.cell? ⟨X, 4, none⟩ = some (.int .i64 m.ep) := fun n => n.cell ((KX.out.below HC.out KX.out.lt).cell 4 rfl)
    refine wp_region_grown (by kernel_rfl) (by kernel_rfl) ?_
    (repeat (first | go_big_quiet_skip | (go_big_quiet_want; go_big_quiet_op; go_big_quiet_on)))
    refine wpQuiet_nil ?_
    rintro w4 ⟨m1, rfl⟩
    go_wp2
    go_ret
    exact ⟨by rw [RES.out]; rfl, HC.out.trans (m1.b.mono HC.out.size)⟩
  have q4 : decide ((k : Int) + 1 ≤ m.ep) = false := decide_eq_false h4
  by_cases h5 : hd = m.id
  case neg =>
    have q5 : (hd != m.id) = true := by simp [h5]
    have RES := hide1 (show r0 = refA 2 from by rw [hr0]; exact if_neg (fun h => h5 h.2))
    clear h5 hr0
    go_enter Tryz.func55, Tryz.ntmps55
    go_upto_region 3 with (first | (refine wpList_load_at rfl 38 _ rfl X 3 rfl (mbA m A) _ SM.out Tryz.underlying38 rfl sizeMb ?_) | (go_at_call 73; refine CM.out.mono ?_; rintro r w2 ⟨rfl, hb⟩; have HB := hide1 hb; have y2 := X2.out _ hb; clear hb) | (go_at_call 74; refine (CV.out _ HB.out).mono ?_; rintro r w3 ⟨rfl, hb⟩; have HC := hide1 (HB.out.trans (hb.mono HB.out.size)); have y3 := X2.out _ HC.out; clear hb))
    have CO3 := hide1 (fun w' (h : Below w3.heap.size w3 w') => CO.out w' (HC.out.trans (h.mono HC.out.size)))
    have z3 : ∀ n : Gr w3, n.w.cell? ⟨X, 3, none⟩ = some (.int .i64 m.id) := fun n => n.cell ((KX.out.below HC.out KX.out.lt).cell 3 rfl)
    have z4 : ∀ n : Gr w3, n.w.cell? ⟨X, 4, none⟩ = some (.int .i64 m.ep) := fun n => n.cell ((KX.out.below HC.out KX.out.lt).cell 4 rfl)
    have z5 : ∀ n : Gr w3, n.w.cell? ⟨b1, o1, none⟩ = some (.int .i64 hd) := fun n => n.cell (C1.out _ HC.out)
    refine wp_region_grown (by kernel_rfl) (by kernel_rfl) ?_
    (repeat (first | go_big_quiet_skip | (go_big_quiet_want; go_big_quiet_op; first | go_big_quiet_on | go_big_quiet_call (first | (go_at_call 60; exact quiet_grownS (CO3.out _ (Gr.b _)))))))
    refine wpQuiet_nil ?_
    rintro w4 ⟨m1, rfl⟩
    go_wp2
    go_ret
    exact ⟨by rw [RES.out]; rfl, HC.out.trans (m1.b.mono HC.out.size)⟩
  have q5 : (hd != m.id) = false := by simp [h5]
  have RES := hide1 (show r0 = .nilIface from by rw [hr0]; exact if_pos ⟨by omega, h5⟩)
  clear h5 hr0
  go_enter Tryz.func55, Tryz.ntmps55
  go_upto_region 3 with (first | (refine wpList_load_at rfl 38 _ rfl X 3 rfl (mbA m A) _ SM.out Tryz.underlying38 rfl sizeMb ?_) | (go_at_call 73; refine CM.out.mono ?_; rintro r w2 ⟨rfl, hb⟩; have HB := hide1 hb; have y2 := X2.out _ hb; clear hb) | (go_at_call 74; refine (CV.out _ HB.out).mono ?_; rintro r w3 ⟨rfl, hb⟩; have HC := hide1 (HB.out.trans (hb.mono HB.out.size)); have y3 := X2.out _ HC.out; clear hb))
  have CO3 := hide1 (fun w' (h : Below w3.heap.size w3 w') => CO.out w' (HC.out.trans (h.mono HC.out.size)))
  have z3 : ∀ n : Gr w3, n.w.cell? ⟨X, 3, none⟩ = some (.int .i64 m.id) := fun n => n.cell ((KX.out.below HC.out KX.out.lt).cell 3 rfl)
  have z4 : ∀ n : Gr w3, n.w.cell? ⟨X, 4, none⟩ = some (.int .i64 m.ep) := fun n => n.cell ((KX.out.below HC.out KX.out.lt).cell 4 rfl)
  have z5 : ∀ n : Gr w3, n.w.cell? ⟨b1, o1, none⟩ = some (.int .i64 hd) := fun n => n.cell (C1.out _ HC.out)
  refine wp_region_grown (by kernel_rfl) (by kernel_rfl) ?_
  (repeat (first | go_big_quiet_skip | (go_big_quiet_want; go_big_quiet_op; first | go_big_quiet_on | go_big_quiet_call (first | (go_at_call 60; exact quiet_grownS (CO3.out _ (Gr.b _)))))))
  refine wpQuiet_nil ?_
  rintro w4 ⟨m1, rfl⟩
  go_wp2
  go_ret
  exact ⟨by rw [RES.out]; rfl, HC.out.trans (m1.b.mono HC.out.size)⟩
end Go.Proofs.YtpjgplohlchpoaaGreatDoor
