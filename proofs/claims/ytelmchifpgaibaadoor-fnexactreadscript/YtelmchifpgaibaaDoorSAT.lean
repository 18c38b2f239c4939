/- The program's views. -/
import Derived.Test.YtelmchifpgaibaaDoorSAQ
import Derived.Test.YtelmchifpgaibaaDoorSAH
import Derived.Test.YtelmchifpgaibaaDoorSAS
import Derived.Test.YtelmchifpgaibaaDoorScN
namespace Go.Proofs.YtelmchifpgaibaaDoor
open Go.RowKit
set_option linter.unusedVariables false

set_option maxRecDepth 100000 in
set_option maxHeartbeats 4000000 in
theorem viewFits_any (a : Option Addr) (v : List Int) (ca : Nat) (w : World) (hl : v.length ≤ 1048576) (hca : v.length ≤ ca) (hA : RdZ w a v) :
    Calls Tryd.prog 56 #[.slice a v.length ca] w fun e w' => e = .returned (.bool (decide (okView v))) ∧ Below w.heap.size w w' := by
  have HA := hide1 hA
  clear hA
  by_cases c0 : 1 ≤ v.length ∧ v.length ≤ 4
  · have q1 : decide ((v.length : Int) < 1) = false := decide_eq_false (by omega)
    have q2 : decide ((4 : Int) < (v.length : Int)) = false := decide_eq_false (by omega)
    have q3 : ¬ ((v.length : Int) < 1) := by omega
    have q4 : ¬ ((4 : Int) < (v.length : Int)) := by omega
    go_enter Tryd.func56, Tryd.ntmps56
    go_wp2
    go_loopw [15] (fun iv wr => ∃ i : Nat, i ≤ v.length ∧ iv = .int .i64 (i : Int) ∧ Hid (vwTo v i) ∧ Hid (Below w.heap.size w wr)) (fun iv _ => v.length - (intOf iv).toNat)
    case atStart => exact ⟨0, Nat.zero_le _, rfl, hide1 (fun j _ h => by omega), hide1 (Below.refl _ _)⟩
    case round =>
      obtain ⟨i, hi, rfl, HS, BB⟩ := hrel
      by_cases hlt : i < v.length
      · have k1 : (i : Int) < (v.length : Int) := by omega
        have k0 : (0 : Int) ≤ (i : Int) := by omega
        have hic : (i : Int) ≤ (ca : Int) := by omega
        have hic2 : i ≤ ca := by omega
        obtain ⟨b, o, rfl, hb, hc⟩ := HA.out i hlt
        have x0 : wr.cell? ⟨b, o + i, none⟩ = some (.int .i64 v[i]) := (BB.out.cell (p := ⟨b, o + i, none⟩) hb).trans hc
        have C1 := hide1 (fun w' => nodeFits_any v[i] w')
        have C2 := hide1 (containsV_any (some ⟨b, o, none⟩) ca (v.take i) v[i] wr (by rw [List.length_take]; omega) ((HA.out.later BB.out).takeV i))
        rw [List.length_take, Nat.min_eq_left (Nat.le_of_lt hlt)] at C2
        have NX := hide1 (fun h1 h2 => vwTo_next HS.out hlt h1 h2)
        have NO1 := hide1 (show ¬ (1 ≤ v[i] ∧ v[i] ≤ 6) → decide (okView v) = false from fun h => decide_eq_false (fun e => h (e.2.1 _ (List.getElem_mem hlt))))
        have NO2 := hide1 (show v[i] ∈ v.take i → decide (okView v) = false from fun h => decide_eq_false (fun e => nodup_take e.2.2 hlt h))
        generalize v[i] = z at *
        clear hc
        by_cases c1 : 1 ≤ z ∧ z ≤ 6
        · rw [decide_eq_true c1] at C1
          by_cases c2 : z ∈ v.take i
          · rw [decide_eq_true c2] at C2
            have RES := hide1 (NO2.out c2)
            clear NX NO1 NO2 c2 c1
            go_wp2_with fail
            refine (C1.out _).mono ?_
            rintro e w1 ⟨rfl, rfl⟩
            go_wp2_with fail
            refine C2.out.mono ?_
            rintro e w2 ⟨rfl, rfl⟩
            go_wp2
            go_ret
            exact ⟨by rw [RES.out]; rfl, BB.out⟩
          · rw [decide_eq_false c2] at C2
            have YS := hide1 (NX.out c1 c2)
            clear NX NO1 NO2 c2 c1
            go_wp2_with fail
            refine (C1.out _).mono ?_
            rintro e w1 ⟨rfl, rfl⟩
            go_wp2_with fail
            refine C2.out.mono ?_
            rintro e w2 ⟨rfl, rfl⟩
            go_wp2
            go_roundw
            case rel => exact ⟨i + 1, by omega, by go_num, YS, BB⟩
            case measure => simp [intOf]; omega
        · rw [decide_eq_false c1] at C1
          have RES := hide1 (NO1.out c1)
          clear NX NO1 NO2 c1
          go_wp2_with fail
          refine (C1.out _).mono ?_
          rintro e w1 ⟨rfl, rfl⟩
          go_wp2
          go_ret
          exact ⟨by rw [RES.out]; rfl, BB.out⟩
      · obtain rfl : i = v.length := by omega
        have k1 : ¬ ((v.length : Int) < (v.length : Int)) := by omega
        have RES := hide1 (show decide (okView v) = true from decide_eq_true ⟨c0, (vwTo_all HS.out).1, (vwTo_all HS.out).2⟩)
        go_wp2
        go_ret
        exact ⟨by rw [RES.out]; rfl, BB.out⟩
  · have RES := hide1 (show decide (okView v) = false from decide_eq_false (fun e => c0 e.1))
    by_cases c1 : v.length < 1
    · have q1 : decide ((v.length : Int) < 1) = true := decide_eq_true (by omega)
      have q3 : (v.length : Int) < 1 := by omega
      go_enter Tryd.func56, Tryd.ntmps56
      go_wp2
      go_ret
      exact ⟨by rw [RES.out]; rfl, Below.refl _ _⟩
    · have q1 : decide ((v.length : Int) < 1) = false := decide_eq_false (by omega)
      have q3 : ¬ ((v.length : Int) < 1) := by omega
      have q4 : (4 : Int) < (v.length : Int) := by omega
      go_enter Tryd.func56, Tryd.ntmps56
      go_wp2
      go_ret
      exact ⟨by rw [RES.out]; rfl, Below.refl _ _⟩
set_option maxRecDepth 100000 in
set_option maxHeartbeats 4000000 in
theorem implViews_any (a : Option Addr) (L : List Vw) (ca : Nat) (w : World) (hl : L.length ≤ 1048576) (hs : ∀ x ∈ L, x.l.length ≤ 1048576) (hA : RdVs w a L) :
    Calls Tryd.prog 48 #[.slice a L.length ca] w fun e w' => e = .returned (.bool (decide (okViews (L.map (·.l))))) ∧ Below w.heap.size w w' := by
  have HA := hide1 hA
  have HS := hide1 hs
  clear hA hs
  by_cases c0 : 1 ≤ L.length ∧ L.length ≤ 9
  · have q1 : decide ((L.length : Int) < 1) = false := decide_eq_false (by omega)
    have q3 : ¬ ((L.length : Int) < 1) := by omega
    have q4 : ¬ ((9 : Int) < (L.length : Int)) := by omega
    go_enter Tryd.func48, Tryd.ntmps48
    go_wp2
    go_loopw [15] (fun iv wr => ∃ i : Nat, i ≤ L.length ∧ iv = .int .i64 (i : Int) ∧ Hid (∀ j (h : j < L.length), j < i → okView L[j].l) ∧ Hid (Below w.heap.size w wr)) (fun iv _ => L.length - (intOf iv).toNat)
    case atStart => exact ⟨0, Nat.zero_le _, rfl, hide1 (fun j _ h => by omega), hide1 (Below.refl _ _)⟩
    case round =>
      obtain ⟨i, hi, rfl, HV, BB⟩ := hrel
      by_cases hlt : i < L.length
      · have k1 : (i : Int) < (L.length : Int) := by omega
        obtain ⟨b, o, hab, hb, hc⟩ := HA.out.r i hlt
        have x0 : wr.cell? ⟨b, o + i, none⟩ = some (.slice L[i].a L[i].l.length L[i].c) := (BB.out.cell (p := ⟨b, o + i, none⟩) hb).trans (by have := hc 0 (by omega); rw [Nat.mul_one] at this; exact this)
        have hm := List.getElem_mem hlt
        have C1 := hide1 (viewFits_any L[i].a L[i].l L[i].c wr (HS.out _ hm) (HA.out.c _ hm) ((HA.out.v _ hm).later BB.out))
        have NO := hide1 (show ¬ okView L[i].l → decide (okViews (L.map (·.l))) = false from fun h => decide_eq_false (fun e => h (e.1 _ (List.mem_map_of_mem hm))))
        have NX := hide1 (show okView L[i].l → ∀ j (h : j < L.length), j < i + 1 → okView L[j].l from fun hk j h hj => by
          by_cases c : j < i
          · exact HV.out j h c
          · have : j = i := (by omega)
            subst this
            exact hk)
        subst hab
        clear hc hm
        generalize L[i] = s at *
        by_cases c1 : okView s.l
        · rw [decide_eq_true c1] at C1
          have N2 := hide1 (NX.out c1)
          clear NX NO c1
          go_wp2_with fail
          refine C1.out.mono ?_
          rintro e w1 ⟨rfl, hb1⟩
          have B1 := hide1 (BB.out.trans (hb1.mono BB.out.size))
          clear hb1
          go_wp2
          go_roundw
          case rel => exact ⟨i + 1, by omega, by go_num, N2, B1⟩
          case measure => simp [intOf]; omega
        · rw [decide_eq_false c1] at C1
          have RES := hide1 (NO.out c1)
          clear NX NO c1
          go_wp2_with fail
          refine C1.out.mono ?_
          rintro e w1 ⟨rfl, hb1⟩
          have B1 := hide1 (BB.out.trans (hb1.mono BB.out.size))
          clear hb1
          go_wp2
          go_ret
          exact ⟨by rw [RES.out]; rfl, B1.out⟩
      · obtain rfl : i = L.length := by omega
        have k1 : ¬ ((L.length : Int) < (L.length : Int)) := by omega
        have RES := hide1 (show decide (okViews (L.map (·.l))) = true from decide_eq_true ⟨fun v hv => by
          obtain ⟨x, hx, rfl⟩ := List.mem_map.1 hv
          obtain ⟨j, hj, rfl⟩ := List.getElem_of_mem hx
          exact HV.out j hj hj, by rw [List.length_map]; exact c0.1, by rw [List.length_map]; exact c0.2⟩)
        go_wp2
        go_ret
        exact ⟨by rw [RES.out]; rfl, BB.out⟩
  · have RES := hide1 (show decide (okViews (L.map (·.l))) = false from decide_eq_false (fun e => c0 (by have h1 := e.2.1; have h2 := e.2.2; rw [List.length_map] at h1 h2; exact ⟨h1, h2⟩)))
    by_cases c1 : L.length < 1
    · have q1 : decide ((L.length : Int) < 1) = true := decide_eq_true (by omega)
      have q3 : (L.length : Int) < 1 := by omega
      go_enter Tryd.func48, Tryd.ntmps48
      go_wp2
      go_ret
      exact ⟨by rw [RES.out]; rfl, Below.refl _ _⟩
    · have q1 : decide ((L.length : Int) < 1) = false := decide_eq_false (by omega)
      have q3 : ¬ ((L.length : Int) < 1) := by omega
      have q4 : (9 : Int) < (L.length : Int) := by omega
      go_enter Tryd.func48, Tryd.ntmps48
      go_wp2
      go_ret
      exact ⟨by rw [RES.out]; rfl, Below.refl _ _⟩
end Go.Proofs.YtelmchifpgaibaaDoor
namespace Go.Proofs.YtelmchifpgaibaaDoor
open Go.RowKit
set_option linter.unusedVariables false

def ofNode (st : Sc) (t : ByteArray) (x : Ev) : Option Sc := if rdB t = true then evSc st { x with n := numOf t } else none
def ofMsg (st : Sc) (t : ByteArray) (k : Int) : Option Sc := if rdB t = true then evSc st ⟨k, 1, numOf t, 0, ⟨#[]⟩, ⟨#[]⟩⟩ else none

set_option maxRecDepth 100000 in
set_option maxHeartbeats 4000000 in
theorem addOfMsg_any (X : Nat → Prop) (S G : Nat) (a : Sca) (st : Sc) (t : ByteArray) (k : Int) (w : World) (h : ScA S G w a st) (hk : st.Ok) (hO : OffA X G w a st) (hs : t.size ≤ 4000) (ht : Tens w) :
    Calls Tryd.prog 37 #[.pointer (some ⟨G, 0, none⟩), .string t, .int .i64 k] w fun e w' => e = .returned (.bool (ofMsg st t k).isSome) ∧ (∀ st', ofMsg st t k = some st' → ∃ a', ScA S G w' a' st') ∧ ScF X w w' := by
  have C := hide1 (implReadDec_any t w (by omega) ht)
  have CE := hide1 (fun (z : Int) w' (hb : Below w.heap.size w w') => addEvent_any X S G a st ⟨k, 1, z, 0, ⟨#[]⟩, ⟨#[]⟩⟩ w' (h.later hb) hk (hO.later hb))
  have HO := hide1 hO.lt
  clear h hk ht hO
  cases hx : rdB t with
  | false =>
    have HY := hide1 (show rdDec t = .tuple #[.int .i64 0, .bool false] by unfold rdDec; rw [hx]; rfl)
    have RES := hide1 (show ofMsg st t k = none by unfold ofMsg; rw [hx]; rfl)
    rw [HY.out] at C
    clear HY hx
    go_enter Tryd.func37, Tryd.ntmps37
    go_wp2_with fail
    refine C.out.mono ?_
    rintro e w2 ⟨rfl, hb2⟩
    go_wp2
    go_ret
    rw [RES.out]
    exact ⟨rfl, (fun _ h => by cases h), ScF.of hb2 HO.out⟩
  | true =>
    have HY := hide1 (show rdDec t = .tuple #[.int .i64 (numOf t), .bool true] by unfold rdDec; rw [hx]; rfl)
    have RES := hide1 (show ofMsg st t k = evSc st ⟨k, 1, numOf t, 0, ⟨#[]⟩, ⟨#[]⟩⟩ by unfold ofMsg; rw [hx]; rfl)
    rw [HY.out] at C
    generalize numOf t = z at C RES
    clear HY hx
    go_enter Tryd.func37, Tryd.ntmps37
    go_wp2_with fail
    refine C.out.mono ?_
    rintro e w2 ⟨rfl, hb2⟩
    go_wp2_with fail
    refine (CE.out z _ hb2).mono ?_
    rintro e w3 ⟨rfl, h3, f3⟩
    go_wp2
    go_ret
    rw [RES.out]
    exact ⟨rfl, h3, (ScF.of hb2 HO.out).trans f3⟩

set_option maxRecDepth 100000 in
set_option maxHeartbeats 4000000 in
theorem addOfNode_any (X : Nat → Prop) (S G : Nat) (a : Sca) (st : Sc) (t : ByteArray) (x : Ev) (w : World) (h : ScA S G w a st) (hk : st.Ok) (hO : OffA X G w a st) (hs : t.size ≤ 4000) (ht : Tens w) :
    Calls Tryd.prog 34 #[.pointer (some ⟨G, 0, none⟩), .string t, .agg #[.int .i64 x.k, .int .i64 x.n, .int .i64 x.pl, .int .i64 x.op, .string x.key, .string x.val]] w fun e w' => e = .returned (.bool (ofNode st t x).isSome) ∧ (∀ st', ofNode st t x = some st' → ∃ a', ScA S G w' a' st') ∧ ScF X w w' := by
  have HO := hide1 hO.lt
  have F0 := hide1 (And.intro (Blk.new w 40 #[.int .i64 x.k, .int .i64 x.n, .int .i64 x.pl, .int .i64 x.op, .string x.key, .string x.val]) ((Below.refl w.heap.size w).alloc (Nat.le_refl _) (.cells #[.int .i64 x.k, .int .i64 x.n, .int .i64 x.pl, .int .i64 x.op, .string x.key, .string x.val] 40)))
  have CE := hide1 (fun (z : Int) w' (hb : Below w.heap.size w w') => addEvent_any X S G a st ⟨x.k, z, x.pl, x.op, x.key, x.val⟩ w' (h.later hb) hk (hO.later hb))
  have HT := hide1 ht
  clear h hk ht hO
  go_enter Tryd.func34, Tryd.ntmps34
  go_upto_region 1 with fail
  generalize (w.alloc (.cells #[.int .i64 x.k, .int .i64 x.n, .int .i64 x.pl, .int .i64 x.op, .string x.key, .string x.val] 40)) = u at F0 ⊢
  obtain ⟨X, hX⟩ : ∃ X, X = w.heap.size := ⟨_, rfl⟩
  have FX := hide1 F0.out.1
  have E0 := hide1 F0.out.2
  rw [← hX] at FX
  rw [← hX]
  have su : w.heap.size ≤ u.heap.size := E0.out.size
  have lX : X < u.heap.size := FX.out.lt
  have leX : w.heap.size ≤ X := by omega
  clear hX F0
  have C := hide1 (implReadDec_any t u (by omega) (Tens.later (show Tens w from HT.out) E0.out))
  cases hx : rdB t with
  | false =>
    have HY := hide1 (show rdDec t = .tuple #[.int .i64 0, .bool false] by unfold rdDec; rw [hx]; rfl)
    have RES := hide1 (show ofNode st t x = none by unfold ofNode; rw [hx]; rfl)
    rw [HY.out] at C
    clear HY hx
    go_wp2_with fail
    refine C.out.mono ?_
    rintro e w2 ⟨rfl, hb2⟩
    have KX := hide1 (FX.out.below hb2 lX)
    have x1 : w2.cell? ⟨X, 1, none⟩ = some (.int .i64 x.n) := KX.out.cell 1
    have xf : w2.frozen? ⟨X, 1, none⟩ = false := KX.out.froz 1
    have B2 := hide1 (E0.out.trans (hb2.mono su))
    go_wp2
    go_ret
    rw [RES.out]
    exact ⟨rfl, (fun _ h => by cases h), ScF.of (B2.out.setCell (p := ⟨X, 1, none⟩) leX _) HO.out⟩
  | true =>
    have HY := hide1 (show rdDec t = .tuple #[.int .i64 (numOf t), .bool true] by unfold rdDec; rw [hx]; rfl)
    have RES := hide1 (show ofNode st t x = evSc st ⟨x.k, numOf t, x.pl, x.op, x.key, x.val⟩ by unfold ofNode; rw [hx]; rfl)
    rw [HY.out] at C
    generalize numOf t = z at C RES
    clear HY hx
    go_wp2_with fail
    refine C.out.mono ?_
    rintro e w2 ⟨rfl, hb2⟩
    have KX := hide1 (FX.out.below hb2 lX)
    have x1 : w2.cell? ⟨X, 1, none⟩ = some (.int .i64 x.n) := KX.out.cell 1
    have xf : w2.frozen? ⟨X, 1, none⟩ = false := KX.out.froz 1
    have B2 := hide1 (E0.out.trans (hb2.mono su))
    go_upto_region 3 with fail
    have F3 := hide1 (And.intro (KX.out.set 1 (.int .i64 z)) (B2.out.setCell (p := ⟨X, 1, none⟩) leX (.int .i64 z)))
    clear x1 xf KX B2 C FX E0
    generalize (w2.setCell ⟨X, 1, none⟩ (.int .i64 z)) = w3 at F3 ⊢
    have K3 := hide1 F3.out.1
    have y0 : w3.cell? ⟨X, 0, none⟩ = some (.int .i64 x.k) := K3.out.cell 0
    have y1 : w3.cell? ⟨X, 1, none⟩ = some (.int .i64 z) := K3.out.cell 1
    have y2 : w3.cell? ⟨X, 2, none⟩ = some (.int .i64 x.pl) := K3.out.cell 2
    have y3 : w3.cell? ⟨X, 3, none⟩ = some (.int .i64 x.op) := K3.out.cell 3
    have y4 : w3.cell? ⟨X, 4, none⟩ = some (.string x.key) := K3.out.cell 4
    have y5 : w3.cell? ⟨X, 5, none⟩ = some (.string x.val) := K3.out.cell 5
    go_wp2_with fail
    refine (CE.out z _ F3.out.2).mono ?_
    rintro e w4 ⟨rfl, h4, f4⟩
    go_wp2
    go_ret
    rw [RES.out]
    exact ⟨rfl, h4, (ScF.of F3.out.2 HO.out).trans f4⟩
end Go.Proofs.YtelmchifpgaibaaDoor
namespace Go.Proofs.YtelmchifpgaibaaDoor
open Go.RowKit
set_option linter.unusedVariables false

theorem viewSc_bad {st : Sc} {t : ByteArray} (h : viewOf t = none) : viewSc st t = none := by unfold viewSc; rw [h]
theorem viewSc_no {st : Sc} {t : ByteArray} {v : List Int} (hv : viewOf t = some v) (h : ¬ (st.es = [] ∧ okViews (st.vs ++ [v]))) : viewSc st t = none := by unfold viewSc; rw [hv]; exact if_neg h
theorem viewSc_yes {st : Sc} {t : ByteArray} {v : List Int} (hv : viewOf t = some v) (h : st.es = [] ∧ okViews (st.vs ++ [v])) : viewSc st t = some ⟨st.vs ++ [v], st.es⟩ := by unfold viewSc; rw [hv]; exact if_pos h
theorem viewOf_len {t : ByteArray} {v : List Int} (h : viewOf t = some v) : v.length ≤ t.size + 1 := by
  have h1 := numsL_len h
  have h2 := (cuS_le 44 t (t.size + 1)).2
  unfold piecesL at h1
  omega

set_option maxRecDepth 100000 in
set_option maxHeartbeats 8000000 in
theorem addView_any (X : Nat → Prop) (S G : Nat) (a : Sca) (st : Sc) (t : ByteArray) (w : World) (h : ScA S G w a st) (hk : st.Ok) (hO : OffA X G w a st) (hs : t.size ≤ 4000) (ht : Tens w) (hm : MaxL w) :
    Calls Tryd.prog 39 #[.pointer (some ⟨G, 0, none⟩), .string t] w fun e w' => e = .returned (.bool (viewSc st t).isSome) ∧ (∀ st', viewSc st t = some st' → ∃ a', ScA S G w' a' st') ∧ ScF X w w' := by
  have C := hide1 (readView_any t w hs ht hm)
  have H := hide1 h
  have HO := hide1 hO
  have HK := hide1 hk
  have hSw : S ≤ w.heap.size := h.hS
  have HVL := hide1 (fun v => viewOf_len (t := t) (v := v))
  obtain ⟨nv, hnv⟩ : ∃ nv, nv = a.M.length := ⟨_, rfl⟩
  obtain ⟨ne, hne⟩ : ∃ ne, ne = st.es.length := ⟨_, rfl⟩
  have HNV := hide1 hnv
  have HNE := hide1 hne
  have nvle : nv ≤ 9 := by rw [hnv, h.nv]; exact hk.n
  clear h hnv hne hk ht hm hO
  cases hv : viewOf t with
  | none =>
    have RES := hide1 (viewSc_bad (st := st) hv)
    rw [hv] at C
    clear hv
    go_enter Tryd.func39, Tryd.ntmps39
    go_wp2_with fail
    refine C.out.mono ?_
    rintro e w2 ⟨b, c, rfl, hO, hb2⟩
    go_wp2
    go_ret
    rw [RES.out]
    exact ⟨rfl, (fun _ h => by cases h), ScF.of hb2 HO.out.lt⟩
  | some v =>
    have vl : v.length ≤ 4001 := by have := HVL.out v hv; omega
    have NO := hide1 (viewSc_no (st := st) hv)
    have YES := hide1 (viewSc_yes (st := st) hv)
    rw [hv] at C
    clear hv HVL
    go_enter Tryd.func39, Tryd.ntmps39
    go_wp2_with fail
    refine C.out.mono ?_
    rintro e w2 ⟨b, c, rfl, hO, hb2⟩
    have s2 : w.heap.size ≤ w2.heap.size := hb2.size
    have HV := hide1 (H.out.later hb2)
    have B2 := hide1 hb2
    have OX := hide1 (show OwnK w2 w.heap.size b c v from hO)
    have g0 : w2.cell? ⟨G, 0, none⟩ = some (.slice a.va nv a.vc) := by rw [HNV.out]; exact HV.out.bx.cell 0
    have g1 : w2.cell? ⟨G, 1, none⟩ = some (.slice a.ea ne a.ec) := by rw [HNE.out]; exact HV.out.bx.cell 1
    have gf : w2.frozen? ⟨G, 0, none⟩ = false := HV.out.bx.froz 0
    clear hO hb2 C
    by_cases c1 : 0 < ne
    · have k1 : (0 : Int) < (ne : Int) := by omega
      have RES := hide1 (NO.out (fun h => by have := h.1; have h2 := HNE.out; rw [this] at h2; simp at h2; omega))
      clear c1
      go_wp2
      go_ret
      rw [RES.out]
      exact ⟨rfl, (fun _ h => by cases h), ScF.of B2.out HO.out.lt⟩
    · have k1 : ¬ ((0 : Int) < (ne : Int)) := by omega
      have ES := hide1 (show st.es = [] from List.eq_nil_of_length_eq_zero (by rw [← HNE.out]; omega))
      clear c1
      have B3 := hide1 ((Below.refl w2.heap.size w2).alloc (Nat.le_refl _) (.cells #[.slice b v.length c] 35))
      have T1 := hide1 (own_kept HV.out.vs.o B3.out)
      rw [← HNV.out] at T1
      have T2 := hide1 (rd_one (y := (⟨b, c, v⟩ : Vw)) encVw (Blk.new w2 35 #[.slice b v.length c]))
      have T4 := hide1 (Nat.le_trans HV.out.hS B3.out.size)
      have lt2 : ∀ g, (Value.slice b v.length c).ownBlock = some g → w.heap.size ≤ g := fun g hg => (OX.out.lt g hg).1
      have XN := hide1 (show ∀ g, (Value.slice b v.length c).ownBlock = some g → (Value.slice a.va a.M.length a.vc).ownBlock ≠ some g ∧ (Value.slice a.ea st.es.length a.ec).ownBlock ≠ some g ∧ ∀ y ∈ a.M, (Value.slice y.a y.l.length y.c).ownBlock ≠ some g from fun g hg => ⟨fun e => by have := (H.out.vs.o.lt g e).2; have := lt2 g hg; omega, fun e => by have := (H.out.es.lt g e).2; have := lt2 g hg; omega, fun y hy e => by have := ((H.out.vs.r y hy).lt g e).2; have := lt2 g hg; omega⟩)
      clear lt2
      go_upto_region 4 with fail
      go_wp2_with (at_builtin; refine wpList_appA encVw rowVw rfl _ _ rfl S (.slice a.va nv a.vc) nv a.M rfl T1.out (some ⟨w2.heap.size, 0, none⟩) 1 1 [⟨b, c, v⟩] rfl rfl T2.out (by omega) T4.out ?_; intro b5 c5 w5 ho5 hg5 hl5; have HA5 := hide1 ((HV.out.later B3.out).view (x := ⟨b, c, v⟩) ((HO.out.later B2.out).later B3.out) ((OX.out.later B3.out).base hSw) XN.out (by rw [← HNV.out]; exact ho5) (by rw [← HNV.out]; exact hg5) (by rw [← HNV.out]; exact hl5)); rw [← HNV.out] at HA5; have GB := hide1 (gblk hg5 (HV.out.later B3.out).bx (fun e => by have h1 := (T1.out.lt G e).1; have := HV.out.lt; omega)); clear g0 g1 gf ho5 hg5 hl5; have g0 : w5.cell? ⟨G, 0, none⟩ = some (.slice a.va nv a.vc) := (by rw [HNV.out]; exact GB.out.cell 0); have gf : w5.frozen? ⟨G, 0, none⟩ = false := GB.out.froz 0)
      have VL := hide1 (HA5.out.1.vs.rd)
      have ML := hide1 (show ((⟨b5, c5, a.ea, a.ec, a.M ++ [⟨b, c, v⟩]⟩ : Sca).M.map (·.l)) = st.vs ++ [v] from HA5.out.1.ml)
      have FR := hide1 ((ScF.of B2.out HO.out.lt).trans ((ScF.of B3.out (fun k hk => Nat.lt_of_lt_of_le (HO.out.lt k hk) s2)).trans HA5.out.2))
      have HB5 := hide1 HA5.out.1
      have CV := hide1 (implViews_any b5 (a.M ++ [⟨b, c, v⟩]) c5 _ (by rw [List.length_append, ← HNV.out, List.length_cons, List.length_nil]; omega) (fun x hx => by
        rcases List.mem_append.1 hx with h1 | h1
        · have h2 : x.l ∈ st.vs := by rw [← H.out.ml]; exact List.mem_map.2 ⟨x, h1, rfl⟩
          have := HK.out.v _ h2
          omega
        · rw [List.mem_singleton.1 h1]
          show v.length ≤ _
          omega) VL.out)
      rw [show (a.M ++ [(⟨b, c, v⟩ : Vw)]).length = nv + 1 by rw [List.length_append, ← HNV.out]; rfl, show (a.M ++ [(⟨b, c, v⟩ : Vw)]).map (·.l) = st.vs ++ [v] from ML.out] at CV
      clear HA5 g0 gf T1 T2 T4
      generalize (w5.setCell ⟨G, 0, none⟩ (.slice b5 (nv + 1) c5)) = W at VL FR HB5 CV ⊢
      refine CV.out.mono ?_
      rintro e w6 ⟨rfl, hb6⟩
      by_cases c2 : okViews (st.vs ++ [v])
      · have RES := hide1 (YES.out ⟨ES.out, c2⟩)
        rw [decide_eq_true c2]
        clear c2
        go_wp2
        go_ret
        rw [RES.out]
        exact ⟨rfl, fun s hs => (by injection hs with hs; subst hs; exact ⟨_, HB5.out.later hb6⟩), FR.out.trans (ScF.of hb6 (fun k hk => Nat.lt_of_lt_of_le (HO.out.lt k hk) FR.out.size))⟩
      · have RES := hide1 (NO.out (fun h => c2 h.2))
        rw [decide_eq_false c2]
        clear c2
        go_wp2
        go_ret
        rw [RES.out]
        exact ⟨rfl, (fun _ h => by cases h), FR.out.trans (ScF.of hb6 (fun k hk => Nat.lt_of_lt_of_le (HO.out.lt k hk) FR.out.size))⟩
end Go.Proofs.YtelmchifpgaibaaDoor
