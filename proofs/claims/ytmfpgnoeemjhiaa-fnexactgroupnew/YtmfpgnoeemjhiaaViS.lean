/- Views: right ones, and the model's ViewsOk. -/
import Derived.Test.YtmfpgnoeemjhiaaRiT
import Derived.Test.YtmfpgnoeemjhiaaInv
import Derived.Deep.DeepCutAuto
namespace Go.Proofs.Ytmfpgnoeemjhiaa
open Go.RowKit
set_option linter.unusedVariables false

def okView (v : List Int) : Prop := (1 ≤ v.length ∧ v.length ≤ 4) ∧ (∀ x ∈ v, 1 ≤ x ∧ x ≤ 6) ∧ v.Nodup
instance (v : List Int) : Decidable (okView v) := by unfold okView; infer_instance
def okViews (l : List (List Int)) : Prop := (∀ v ∈ l, okView v) ∧ 1 ≤ l.length ∧ l.length ≤ 9
instance (l : List (List Int)) : Decidable (okViews l) := by unfold okViews; infer_instance
def vwTo (v : List Int) (i : Nat) : Prop := ∀ j (h : j < v.length), j < i → (1 ≤ v[j] ∧ v[j] ≤ 6) ∧ ¬ v[j] ∈ v.take j
theorem vwTo_next {v : List Int} {i : Nat} (h : vwTo v i) (hi : i < v.length) (h1 : 1 ≤ v[i] ∧ v[i] ≤ 6) (h2 : ¬ v[i] ∈ v.take i) : vwTo v (i + 1) := fun j hj hlt => by
  by_cases c : j < i
  · exact h j hj c
  · have : j = i := (by omega)
    subst this
    exact ⟨h1, h2⟩
theorem vwTo_all {v : List Int} (h : vwTo v v.length) : (∀ x ∈ v, 1 ≤ x ∧ x ≤ 6) ∧ v.Nodup := by
  refine ⟨fun x hx => ?_, ?_⟩
  · obtain ⟨j, hj, rfl⟩ := List.getElem_of_mem hx
    exact (h j hj hj).1
  · unfold List.Nodup
    rw [List.pairwise_iff_getElem]
    intro i j hi hj hij e
    refine (h j hj hj).2 ?_
    rw [← e]
    exact List.mem_take_iff_getElem.2 ⟨i, by omega, rfl⟩
theorem nodup_take {v : List Int} (h : v.Nodup) {i : Nat} (hi : i < v.length) : ¬ v[i] ∈ v.take i := fun e => by
  obtain ⟨j, hj, e2⟩ := List.mem_take_iff_getElem.1 e
  unfold List.Nodup at h
  rw [List.pairwise_iff_getElem] at h
  exact h j i (by omega) hi (by omega) e2
theorem in_yesV {x lo hi : Int} (h : lo ≤ x ∧ x ≤ hi) : (decide (lo ≤ x) && decide (x ≤ hi)) = true := by rw [Bool.and_eq_true, decide_eq_true_iff, decide_eq_true_iff]; exact h
theorem in_noV {x lo hi : Int} (h : ¬ (lo ≤ x ∧ x ≤ hi)) : (decide (lo ≤ x) && decide (x ≤ hi)) = false := by rw [Bool.and_eq_false_iff, decide_eq_false_iff_not, decide_eq_false_iff_not]; omega
theorem in_anyV (x lo hi : Int) (w : World) : Calls Try.prog 18 #[.int .i64 x, .int .i64 lo, .int .i64 hi] w fun e w' => e = .returned (.bool (decide (lo ≤ x) && decide (x ≤ hi))) ∧ w' = w := (in_any x lo hi w).mono (fun e w' h => ⟨h.1, h.2.symm⟩)
theorem RdZ.takeV {w : World} {a : Option Addr} {v : List Int} (h : RdZ w a v) (i : Nat) : RdZ w a (v.take i) := fun j hj => by
  have hj2 : j < v.length := by rw [List.length_take] at hj; omega
  obtain ⟨b, o, h1, h2, h3⟩ := h j hj2
  exact ⟨b, o, h1, h2, by rw [h3, List.getElem_take]⟩
set_option maxRecDepth 100000 in
set_option maxHeartbeats 4000000 in
theorem specView_any (a : Option Addr) (v : List Int) (ca : Nat) (w : World) (hl : v.length ≤ 1048576) (hca : v.length ≤ ca) (hA : RdZ w a v) :
    Calls Try.prog 44 #[.slice a v.length ca] w fun e w' => e = .returned (.bool (decide (okView v))) ∧ Below w.heap.size w w' := by
  have HA := hide1 hA
  have C0 := hide1 (fun w' => in_anyV (v.length : Int) 1 4 w')
  clear hA
  by_cases c0 : 1 ≤ v.length ∧ v.length ≤ 4
  · rw [in_yesV (show (1 : Int) ≤ (v.length : Int) ∧ (v.length : Int) ≤ 4 by omega)] at C0
    go_enter Try.func44, Try.ntmps44
    go_upto_region 3 with (go_at_call 18; refine (C0.out _).mono ?_; rintro e w1 ⟨rfl, rfl⟩)
    go_wp2
    go_loopw [3] (fun iv wr => ∃ i : Nat, i ≤ v.length ∧ iv = .int .i64 (i : Int) ∧ Hid (vwTo v i) ∧ Hid (Below w1.heap.size w1 wr)) (fun iv _ => v.length - (intOf iv).toNat)
    case atStart => exact ⟨0, Nat.zero_le _, rfl, hide1 (fun j _ h => by omega), hide1 (Below.refl _ _)⟩
    case round =>
      obtain ⟨i, hi, rfl, HS, BB⟩ := hrel
      by_cases hlt : i < v.length
      · have k1 : (i : Int) < (v.length : Int) := by omega
        have hic : (i : Int) ≤ (ca : Int) := by omega
        have hic2 : i ≤ ca := by omega
        obtain ⟨b, o, rfl, hb, hc⟩ := HA.out i hlt
        have x0 : wr.cell? ⟨b, o + i, none⟩ = some (.int .i64 v[i]) := (BB.out.cell (p := ⟨b, o + i, none⟩) hb).trans hc
        have C1 := hide1 (fun w' => in_anyV v[i] 1 6 w')
        have C2 := hide1 (fun w' (hb : Below w1.heap.size w1 w') => (specIn_any (some ⟨b, o, none⟩) (v.take i) ca v[i] w' (by rw [List.length_take]; omega) ((HA.out.later hb).takeV i)).mono (fun e w'' h => (⟨h.1, h.2.symm⟩ : _ ∧ w'' = w')))
        rw [List.length_take, Nat.min_eq_left (Nat.le_of_lt hlt)] at C2
        have NX := hide1 (fun h1 h2 => vwTo_next HS.out hlt h1 h2)
        have NO1 := hide1 (show ¬ (1 ≤ v[i] ∧ v[i] ≤ 6) → decide (okView v) = false from fun h => decide_eq_false (fun e => h (e.2.1 _ (List.getElem_mem hlt))))
        have NO2 := hide1 (show v[i] ∈ v.take i → decide (okView v) = false from fun h => decide_eq_false (fun e => nodup_take e.2.2 hlt h))
        generalize v[i] = z at *
        clear hc
        by_cases c1 : 1 ≤ z ∧ z ≤ 6
        · rw [in_yesV c1] at C1
          by_cases c2 : z ∈ v.take i
          · rw [decide_eq_true c2] at C2
            have RES := hide1 (NO2.out c2)
            clear NX NO1 NO2 c2
            go_wp2_with fail
            go_quiet ((first | (go_at_call 18; exact Calls.quiet_of_same (C1.out _)) | (go_at_call 45; exact Calls.quiet_of_same (C2.out _ (below_drewN BB.out _)))))
            go_wp2
            go_ret
            exact ⟨by rw [RES.out]; rfl, below_drewN BB.out _⟩
          · rw [decide_eq_false c2] at C2
            have YS := hide1 (NX.out c1 c2)
            clear NX NO1 NO2 c2
            go_wp2_with fail
            go_quiet ((first | (go_at_call 18; exact Calls.quiet_of_same (C1.out _)) | (go_at_call 45; exact Calls.quiet_of_same (C2.out _ (below_drewN BB.out _)))))
            go_wp2
            go_roundw
            case rel => exact ⟨i + 1, by omega, by go_num, YS, hide1 (below_drewN BB.out _)⟩
            case measure => simp [intOf]; omega
        · rw [in_noV c1] at C1
          have RES := hide1 (NO1.out c1)
          clear NX NO1 NO2
          go_wp2_with fail
          go_quiet ((go_at_call 18; exact Calls.quiet_of_same (C1.out _)))
          go_wp2
          go_ret
          exact ⟨by rw [RES.out]; rfl, below_drewN BB.out _⟩
      · obtain rfl : i = v.length := by omega
        have k1 : ¬ ((v.length : Int) < (v.length : Int)) := by omega
        have RES := hide1 (show decide (okView v) = true from decide_eq_true ⟨c0, (vwTo_all HS.out).1, (vwTo_all HS.out).2⟩)
        go_wp2
        go_ret
        exact ⟨by rw [RES.out]; rfl, BB.out⟩
  · rw [in_noV (show ¬ ((1 : Int) ≤ (v.length : Int) ∧ (v.length : Int) ≤ 4) by omega)] at C0
    have RES := hide1 (show decide (okView v) = false from decide_eq_false (fun e => c0 e.1))
    go_enter Try.func44, Try.ntmps44
    go_wp2_with (go_at_call 18; refine (C0.out _).mono ?_; rintro e w1 ⟨rfl, rfl⟩)
    go_ret
    exact ⟨by rw [RES.out]; rfl, Below.refl _ _⟩
/-- A view in memory. -/
structure Vw where
  a : Option Addr
  c : Nat
  l : List Int
def vwC (x : Vw) : List Value := [.slice x.a x.l.length x.c]
theorem encVw : EncK vwC 1 := ⟨fun _ => rfl, fun x u hu => by simp only [vwC, List.mem_cons, List.not_mem_nil, or_false] at hu; rcases hu with rfl; rfl⟩
/-- A row of views that is read. -/
structure RdVs (w : World) (a : Option Addr) (L : List Vw) : Prop where
  r : RdG vwC 1 w a L
  v : ∀ x ∈ L, RdZ w x.a x.l
  c : ∀ x ∈ L, x.l.length ≤ x.c
theorem RdVs.later {w w' : World} {a : Option Addr} {L : List Vw} (h : RdVs w a L) (hb : Below w.heap.size w w') : RdVs w' a L := ⟨h.r.later hb, fun x hx => (h.v x hx).later hb, h.c⟩
set_option maxRecDepth 100000 in
set_option maxHeartbeats 4000000 in
theorem specViews_any (a : Option Addr) (L : List Vw) (ca : Nat) (w : World) (hl : L.length ≤ 1048576) (hs : ∀ x ∈ L, x.l.length ≤ 1048576) (hA : RdVs w a L) :
    Calls Try.prog 22 #[.slice a L.length ca] w fun e w' => e = .returned (.bool (decide (okViews (L.map (·.l))))) ∧ Below w.heap.size w w' := by
  have HA := hide1 hA
  have HS := hide1 hs
  clear hA hs
  go_enter Try.func22, Try.ntmps22
  go_wp2
  go_loopw [3] (fun iv wr => ∃ i : Nat, i ≤ L.length ∧ iv = .int .i64 (i : Int) ∧ Hid (∀ j (h : j < L.length), j < i → okView L[j].l) ∧ Hid (Below w.heap.size w wr)) (fun iv _ => L.length - (intOf iv).toNat)
  case atStart => exact ⟨0, Nat.zero_le _, rfl, hide1 (fun j _ h => by omega), hide1 (Below.refl _ _)⟩
  case round =>
    obtain ⟨i, hi, rfl, HO, BB⟩ := hrel
    by_cases hlt : i < L.length
    · have k1 : (i : Int) < (L.length : Int) := by omega
      obtain ⟨b, o, rfl, hb, hc⟩ := HA.out.r i hlt
      have x0 : wr.cell? ⟨b, o + i, none⟩ = some (.slice L[i].a L[i].l.length L[i].c) := (BB.out.cell (p := ⟨b, o + i, none⟩) hb).trans (by have := hc 0 (by omega); rwa [Nat.mul_one, Nat.add_zero] at this)
      have hm := List.getElem_mem hlt
      have CV := hide1 (specView_any L[i].a L[i].l L[i].c wr (HS.out _ hm) (HA.out.c _ hm) ((HA.out.v _ hm).later BB.out))
      have NO := hide1 (show ¬ okView L[i].l → decide (okViews (L.map (·.l))) = false from fun h => decide_eq_false (fun e => h (e.1 _ (List.mem_map.2 ⟨_, hm, rfl⟩))))
      have YS := hide1 (show okView L[i].l → ∀ j (h : j < L.length), j < i + 1 → okView L[j].l from fun h j hj hlt2 => by
        by_cases c : j < i
        · exact HO.out j hj c
        · have : j = i := (by omega)
          subst this
          exact h)
      generalize L[i] = s at *
      clear hc hm
      by_cases c1 : okView s.l
      · rw [decide_eq_true c1] at CV
        have YS2 := hide1 (YS.out c1)
        clear YS NO c1
        go_wp2_with fail
        refine CV.out.mono ?_
        rintro e w2 ⟨rfl, hb2⟩
        have B2 := hide1 (BB.out.trans (hb2.mono BB.out.size))
        clear hb2
        go_wp2
        go_roundw
        case rel => exact ⟨i + 1, by omega, by go_num, YS2, B2⟩
        case measure => simp [intOf]; omega
      · rw [decide_eq_false c1] at CV
        have RES := hide1 (NO.out c1)
        clear YS NO c1
        go_wp2_with fail
        refine CV.out.mono ?_
        rintro e w2 ⟨rfl, hb2⟩
        have B2 := hide1 (BB.out.trans (hb2.mono BB.out.size))
        clear hb2
        go_wp2
        go_ret
        exact ⟨by rw [RES.out]; rfl, B2.out⟩
    · obtain rfl : i = L.length := by omega
      have k1 : ¬ ((L.length : Int) < (L.length : Int)) := by omega
      have CI := hide1 (fun w' => in_anyV (L.length : Int) 1 9 w')
      have AL : ∀ v ∈ L.map (·.l), okView v := fun v hv => by
        obtain ⟨x, hx, rfl⟩ := List.mem_map.1 hv
        obtain ⟨j, hj, rfl⟩ := List.getElem_of_mem hx
        exact HO.out j hj hj
      have RES := hide1 (show (decide ((1 : Int) ≤ (L.length : Int)) && decide ((L.length : Int) ≤ 9)) = decide (okViews (L.map (·.l))) by
        by_cases c : 1 ≤ L.length ∧ L.length ≤ 9
        · rw [in_yesV (show (1 : Int) ≤ (L.length : Int) ∧ (L.length : Int) ≤ 9 by omega), decide_eq_true (show okViews (L.map (·.l)) from ⟨AL, by rw [List.length_map]; exact c⟩)]
        · rw [in_noV (show ¬ ((1 : Int) ≤ (L.length : Int) ∧ (L.length : Int) ≤ 9) by omega), decide_eq_false (fun e : okViews (L.map (·.l)) => c (by have := e.2; rwa [List.length_map] at this))])
      rw [RES.out] at CI
      obtain ⟨r, hr⟩ : ∃ r, decide (okViews (L.map (·.l))) = r := ⟨_, rfl⟩
      rw [hr] at CI
      have HR := hide1 hr
      clear AL HO hr RES
      go_wp2_with fail
      refine (CI.out _).mono ?_
      rintro e w2 ⟨rfl, rfl⟩
      go_wp2
      go_ret
      exact ⟨by rw [HR.out]; rfl, BB.out⟩
end Go.Proofs.Ytmfpgnoeemjhiaa
