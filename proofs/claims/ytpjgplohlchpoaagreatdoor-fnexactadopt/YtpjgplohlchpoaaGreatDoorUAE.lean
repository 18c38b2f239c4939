/- A region that draws its order, by an invariant: one obligation an operation instead of one an order. -/
import Derived.Test.YtpjgplohlchpoaaGreatDoorUAD
import Derived.Deep.RegionLaw
import Derived.ArgAppend
import Derived.Deep.DeepCutAuto
import Derived.Deep.SlicePairs
import Derived.Lib.SmallJoins
import Derived.ProofKit
import Derived.OpenShut
namespace Go.Proofs.YtpjgplohlchpoaaGreatDoor
open Go.RowKit
set_option linter.unusedVariables false

theorem cnt_set (l : Array Bool) (i : Nat) (h : l.getD i true = false) : (l.setIfInBounds i true).toList.count false + 1 = l.toList.count false := by
  have hi : i < l.size := by
    by_cases c : i < l.size
    · exact c
    · rw [Array.getD_eq_getD_getElem?, Array.getElem?_eq_none (by omega)] at h
      cases h
  have hv : l.toList[i]'(by simpa using hi) = false := by
    rw [Array.getD_eq_getD_getElem?, Array.getElem?_eq_getElem hi] at h
    simpa using h
  rw [Array.toList_setIfInBounds, List.count_set (by simpa using hi), hv]
  have hp : 0 < l.toList.count false := List.count_pos_iff.2 (hv ▸ List.getElem_mem _)
  rw [if_pos (by rfl), if_neg (by decide)]
  omega
theorem set_at {l : Array Bool} {i k : Nat} (h : (l.setIfInBounds i true).getD k false = true) (hk : k ≠ i) : l.getD k false = true := by
  rw [Array.getD_eq_getD_getElem?, Array.getElem?_setIfInBounds, if_neg (fun e => hk e.symm)] at h
  rwa [Array.getD_eq_getD_getElem?]
theorem set_get {l : Array Bool} {i k : Nat} : (l.setIfInBounds i true).getD k false = true → k = i ∨ l.getD k false = true := fun h => by
  by_cases c : k = i
  · exact .inl c
  · exact .inr (set_at h c)
section
variable {P : Program} {ops : Array Oper} {Q : Exit → Act → World → Prop} {md : Region.Mode}
theorem ready_at {l : Array Bool} {i : Nat} (h : i ∈ Region.ready md ops l) : i < ops.size ∧ l.getD i true = false ∧ ∃ o, ops[i]? = some o ∧ ∀ e ∈ o.after, Region.binds md e = true → l.getD e.on false = true := by
  unfold Region.ready at h
  rw [List.mem_filter, List.mem_range] at h
  obtain ⟨h1, h2⟩ := h
  rw [Bool.and_eq_true] at h2
  obtain ⟨h2, h3⟩ := h2
  refine ⟨h1, by simpa using h2, ?_⟩
  cases ho : ops[i]? with
  | none => rw [ho] at h3; cases h3
  | some o =>
    rw [ho] at h3
    refine ⟨o, rfl, fun e he hb => ?_⟩
    simp only [Option.map_some, Option.getD_some, Array.all_eq_true'] at h3
    have := h3 e he
    rw [hb] at this
    simpa using this
theorem ready_nil {l : Array Bool} (h : Region.ready md ops l = []) {i : Nat} {o : Oper} (ho : ops[i]? = some o) (hd : ∀ e ∈ o.after, l.getD e.on false = true) : l.getD i true = true := by
  have hi : i < ops.size := (Array.getElem?_eq_some_iff.1 ho).1
  cases c : l.getD i true with
  | true => rfl
  | false =>
    have : i ∈ Region.ready md ops l := by
      unfold Region.ready
      rw [List.mem_filter, List.mem_range]
      refine ⟨hi, ?_⟩
      rw [c, ho]
      simp only [Bool.not_false, Bool.true_and, Option.map_some, Option.getD_some, Array.all_eq_true']
      intro e he
      rw [hd e he]
      simp
    rw [h] at this
    cases this
theorem getD_tt {l : Array Bool} {i : Nat} (hi : i < l.size) (h : l.getD i true = true) : l.getD i false = true := by
  rw [Array.getD_eq_getD_getElem?, Array.getElem?_eq_getElem hi] at h ⊢
  simpa using h
/-- What holds at the beginning and is kept by each operation that may come up, holds at the end. -/
theorem wpAny_inv (I : Array Bool → Act → World → Prop)
    (hs : ∀ l a w i, l.size = ops.size → I l a w → i ∈ Region.ready md ops l → wpOp P ops Q i (fun a w => I (l.setIfInBounds i true) a w) a w)
    (hf : ∀ l a w, l.size = ops.size → I l a w → Region.ready md ops l = [] → Q .normal a w) :
    ∀ (fuel : Nat) (l : Array Bool) (a : Act) (w : World), l.size = ops.size → l.toList.count false ≤ fuel → I l a w → wpAny P md ops Q fuel l a w
  | 0, l, a, w, hl, hc, h => by
    have hn : Region.ready md ops l = [] := by
      cases hr : Region.ready md ops l with
      | nil => rfl
      | cons i t =>
        have hi : i ∈ Region.ready md ops l := by rw [hr]; simp
        obtain ⟨_, h2, _⟩ := ready_at hi
        have := cnt_set l i h2
        omega
    exact ⟨hn, hf l a w hl h hn⟩
  | fuel + 1, l, a, w, hl, hc, h => by
    refine ⟨fun hn => hf l a w hl h hn, fun i hi => ?_⟩
    obtain ⟨_, h2, _⟩ := ready_at hi
    have := cnt_set l i h2
    exact wpOp_mono (fun a w h' => wpAny_inv I hs hf fuel _ a w (by rw [Array.size_setIfInBounds]; exact hl) (by omega) h') (hs l a w i hl h hi)
end
section
variable {P : Program} {α : Type} {enc : α → List Value} {k : Nat} {t e : TypeId}
theorem own_leI {w : World} {base n ca : Nat} {a : Option Addr} {xs : List Value} (h : w.ownsRow base e k (.slice a n ca) n xs) : n ≤ ca := by
  rcases h.2 with ⟨hv, h0⟩ | ⟨g, cap, cur, hv, _, _, hc, _⟩
  · omega
  · injection hv with h1 h2 h3
    omega
/-- Others put behind an empty row that has no room: new memory alone. -/
theorem cpE_run (E : EncK enc k) (R : RowK P t e k) (w : World) (ty : TypeId) (g : Nat) (ao : Option Addr) (m c : Nat) (l : List α) (hm : l.length = m) (hA : RdG enc k w ao l) (hlen : m ≤ 1048576) :
    ∃ b' c' w', (Builtin.append_ #[t, t] ty #[.slice (some ⟨g, 0, none⟩) 0 0, .slice ao m c]).run P w = .ok (.slice b' m c') w' ∧ RdG enc k w' b' l ∧ Below w.heap.size w w' ∧ (∀ b o, b' = some ⟨b, o, none⟩ → 0 < m → w.heap.size ≤ b) ∧ m ≤ c' := by
  obtain ⟨i0, z, b, hi, hz0, hz1, hz2, hz3, hb⟩ := R.inf
  by_cases h0 : m = 0
  · subst h0
    have e0 : l = [] := List.eq_nil_of_length_eq_zero hm
    subst e0
    refine ⟨some ⟨g, 0, none⟩, 0, w, ?_, RdG.nil _ _, Below.refl _ _, fun _ _ _ h => by omega, Nat.le_refl _⟩
    cases ao <;> simp [Builtin.append_, run_underlying R.sl, sizeOf, typeInfo, hi, Builtin.lenOf, Builtin.firstCells, loadCells, loadCellsFrom, storeCells]
  · obtain ⟨g2, o, rfl, hg, _⟩ := hA 0 (by omega)
    have hl : (rowG enc l).length = m * k := by rw [rowG_length enc k E.len, hm]
    have hAt : ∀ j v, (rowG enc l)[j]? = some v → w.cell? ((⟨g2, o, none⟩ : Addr).add j) = some v := fun j v hj => by
      have hj' : j < m * k := by have := (List.getElem?_eq_some_iff.1 hj).1; omega
      have hk0 := R.pos
      have hd : j / k < l.length := by rw [hm]; exact Nat.div_lt_of_lt_mul (by rw [Nat.mul_comm]; exact hj')
      have hr : j % k < k := Nat.mod_lt _ hk0
      have hjk : j = j / k * k + j % k := by rw [Nat.mul_comm]; exact (Nat.div_add_mod j k).symm
      obtain ⟨b', o', e', _, h⟩ := hA (j / k) hd
      simp only [Option.some.injEq, Addr.mk.injEq, and_true] at e'
      obtain ⟨rfl, rfl⟩ := e'
      have h1 := h (j % k) hr
      have h2 := rowG_at enc k E.len l (j / k) (j % k) hd hr
      rw [← hjk] at h2
      rw [Addr.add_lit, show o + j = o + j / k * k + j % k by omega, h1, ← h2]
      exact hj
    have hbl : (0 + m) * b ≤ (0 + m) * 256 := Nat.mul_le_mul_left _ hb
    obtain ⟨v', w', h1, h2, h3⟩ := run_append_arg_grows (P := P) (w := w) t ty e i0 z k b R.sl hi hz0 hz1 hz2 hz3 R.pos ⟨g, 0, none⟩ 0 0 [] (by simp) (by simp) ⟨g2, o, none⟩ m c (rowG enc l) hl hAt (by omega) (by unfold maxLen; omega) (by omega)
    rw [Nat.zero_add, List.nil_append] at h2
    obtain ⟨b', c', rfl⟩ := form_of h2
    refine ⟨b', c', w', h1, rdG_of_own E.len h2 hm, gbelow h3 (fun q hq => by cases hq) (Nat.le_refl _), fun b2 o2 hb2 _ => (h2.lt b2 (by subst hb2; rfl)).1, own_leI h2⟩
end
end Go.Proofs.YtpjgplohlchpoaaGreatDoor
namespace Go.Proofs.YtpjgplohlchpoaaGreatDoor
open Go.RowKit
set_option linter.unusedVariables false

def okView (v : List Int) : Prop := (1 ≤ v.length ∧ v.length ≤ 4) ∧ (∀ x ∈ v, 1 ≤ x ∧ x ≤ 6) ∧ v.Nodup
instance (v : List Int) : Decidable (okView v) := by unfold okView; infer_instance
def okViews (l : List (List Int)) : Prop := (∀ v ∈ l, okView v) ∧ 1 ≤ l.length ∧ l.length ≤ 9
instance (l : List (List Int)) : Decidable (okViews l) := by unfold okViews; infer_instance
def vwTo (v : List Int) (i : Nat) : Prop := ∀ j (h : j < v.length), j < i → (1 ≤ v[j] ∧ v[j] ≤ 6) ∧ ¬ v[j] ∈ v.take j
theorem vwTo_next {v : List Int} {i : Nat} (h : vwTo v i) (hi : i < v.length) (h1 : 1 ≤ v[i] ∧ v[i] ≤ 6) (h2 : ¬ v[i] ∈ v.take i) : vwTo v (i + 1) := fun j hj hlt => by
  by_cases c : j < i
  · exact h j hj c
  · have : j = i := (by omega)
    subst this
    exact ⟨h1, h2⟩
theorem vwTo_all {v : List Int} (h : vwTo v v.length) : (∀ x ∈ v, 1 ≤ x ∧ x ≤ 6) ∧ v.Nodup := by
  refine ⟨fun x hx => ?_, ?_⟩
  · obtain ⟨j, hj, rfl⟩ := List.getElem_of_mem hx
    exact (h j hj hj).1
  · unfold List.Nodup
    rw [List.pairwise_iff_getElem]
    intro i j hi hj hij e
    refine (h j hj hj).2 ?_
    rw [← e]
    exact List.mem_take_iff_getElem.2 ⟨i, by omega, rfl⟩
theorem nodup_take {v : List Int} (h : v.Nodup) {i : Nat} (hi : i < v.length) : ¬ v[i] ∈ v.take i := fun e => by
  obtain ⟨j, hj, e2⟩ := List.mem_take_iff_getElem.1 e
  unfold List.Nodup at h
  rw [List.pairwise_iff_getElem] at h
  exact h j i (by omega) hi (by omega) e2
theorem in_yesV {x lo hi : Int} (h : lo ≤ x ∧ x ≤ hi) : (decide (lo ≤ x) && decide (x ≤ hi)) = true := by rw [Bool.and_eq_true, decide_eq_true_iff, decide_eq_true_iff]; exact h
theorem in_noV {x lo hi : Int} (h : ¬ (lo ≤ x ∧ x ≤ hi)) : (decide (lo ≤ x) && decide (x ≤ hi)) = false := by rw [Bool.and_eq_false_iff, decide_eq_false_iff_not, decide_eq_false_iff_not]; omega
theorem in_anyV (x lo hi : Int) (w : World) : Calls Tryz.prog 23 #[.int .i64 x, .int .i64 lo, .int .i64 hi] w fun e w' => e = .returned (.bool (decide (lo ≤ x) && decide (x ≤ hi))) ∧ w' = w := (in_any x lo hi w).mono (fun e w' h => ⟨h.1, h.2.symm⟩)
theorem RdZ.takeV {w : World} {a : Option Addr} {v : List Int} (h : RdZ w a v) (i : Nat) : RdZ w a (v.take i) := fun j hj => by
  have hj2 : j < v.length := by rw [List.length_take] at hj; omega
  obtain ⟨b, o, h1, h2, h3⟩ := h j hj2
  exact ⟨b, o, h1, h2, by rw [h3, List.getElem_take]⟩
set_option maxRecDepth 100000 in
set_option maxHeartbeats 4000000 in
theorem specView_any (a : Option Addr) (v : List Int) (ca : Nat) (w : World) (hl : v.length ≤ 1048576) (hca : v.length ≤ ca) (hA : RdZ w a v) :
    Calls Tryz.prog 48 #[.slice a v.length ca] w fun e w' => e = .returned (.bool (decide (okView v))) ∧ Below w.heap.size w w' := by
  have HA := hide1 hA
  have C0 := hide1 (fun w' => in_anyV (v.length : Int) 1 4 w')
  clear hA
  by_cases c0 : 1 ≤ v.length ∧ v.length ≤ 4
  · rw [in_yesV (show (1 : Int) ≤ (v.length : Int) ∧ (v.length : Int) ≤ 4 by omega)] at C0
    go_enter Tryz.func48, Tryz.ntmps48
    go_upto_region 3 with (go_at_call 23; refine (C0.out _).mono ?_; rintro e w1 ⟨rfl, rfl⟩)
    go_wp2
    go_loopw [3] (fun iv wr => ∃ i : Nat, i ≤ v.length ∧ iv = .int .i64 (i : Int) ∧ Hid (vwTo v i) ∧ Hid (Below w1.heap.size w1 wr)) (fun iv _ => v.length - (intOf iv).toNat)
    case atStart => exact ⟨0, Nat.zero_le _, rfl, hide1 (fun j _ h => by omega), hide1 (Below.refl _ _)⟩
    case round =>
      obtain ⟨i, hi, rfl, HS, BB⟩ := hrel
      by_cases hlt : i < v.length
      · have k1 : (i : Int) < (v.length : Int) := by omega
        have hic : (i : Int) ≤ (ca : Int) := by omega
        have hic2 : i ≤ ca := by omega
        obtain ⟨b, o, rfl, hb, hc⟩ := HA.out i hlt
        have x0 : wr.cell? ⟨b, o + i, none⟩ = some (.int .i64 v[i]) := (BB.out.cell (p := ⟨b, o + i, none⟩) hb).trans hc
        have C1 := hide1 (fun w' => in_anyV v[i] 1 6 w')
        have C2 := hide1 (fun w' (hb : Below w1.heap.size w1 w') => (specIn_any (some ⟨b, o, none⟩) (v.take i) ca v[i] w' (by rw [List.length_take]; omega) ((HA.out.later hb).takeV i)).mono (fun e w'' h => (⟨h.1, h.2.symm⟩ : _ ∧ w'' = w')))
        rw [List.length_take, Nat.min_eq_left (Nat.le_of_lt hlt)] at C2
        have NX := hide1 (fun h1 h2 => vwTo_next HS.out hlt h1 h2)
        have NO1 := hide1 (show ¬ (1 ≤ v[i] ∧ v[i] ≤ 6) → decide (okView v) = false from fun h => decide_eq_false (fun e => h (e.2.1 _ (List.getElem_mem hlt))))
        have NO2 := hide1 (show v[i] ∈ v.take i → decide (okView v) = false from fun h => decide_eq_false (fun e => nodup_take e.2.2 hlt h))
        generalize v[i] = z at *
        clear hc
        by_cases c1 : 1 ≤ z ∧ z ≤ 6
        · rw [in_yesV c1] at C1
          by_cases c2 : z ∈ v.take i
          · rw [decide_eq_true c2] at C2
            have RES := hide1 (NO2.out c2)
            clear NX NO1 NO2 c2
            go_wp2_with fail
            go_quiet ((first | (go_at_call 23; exact Calls.quiet_of_same (C1.out _)) | (go_at_call 24; exact Calls.quiet_of_same (C2.out _ (below_drewN BB.out _)))))
            go_wp2
            go_ret
            exact ⟨by rw [RES.out]; rfl, below_drewN BB.out _⟩
          · rw [decide_eq_false c2] at C2
            have YS := hide1 (NX.out c1 c2)
            clear NX NO1 NO2 c2
            go_wp2_with fail
            go_quiet ((first | (go_at_call 23; exact Calls.quiet_of_same (C1.out _)) | (go_at_call 24; exact Calls.quiet_of_same (C2.out _ (below_drewN BB.out _)))))
            go_wp2
            go_roundw
            case rel => exact ⟨i + 1, by omega, by go_num, YS, hide1 (below_drewN BB.out _)⟩
            case measure => simp [intOf]; omega
        · rw [in_noV c1] at C1
          have RES := hide1 (NO1.out c1)
          clear NX NO1 NO2
          go_wp2_with fail
          go_quiet ((go_at_call 23; exact Calls.quiet_of_same (C1.out _)))
          go_wp2
          go_ret
          exact ⟨by rw [RES.out]; rfl, below_drewN BB.out _⟩
      · obtain rfl : i = v.length := by omega
        have k1 : ¬ ((v.length : Int) < (v.length : Int)) := by omega
        have RES := hide1 (show decide (okView v) = true from decide_eq_true ⟨c0, (vwTo_all HS.out).1, (vwTo_all HS.out).2⟩)
        go_wp2
        go_ret
        exact ⟨by rw [RES.out]; rfl, BB.out⟩
  · rw [in_noV (show ¬ ((1 : Int) ≤ (v.length : Int) ∧ (v.length : Int) ≤ 4) by omega)] at C0
    have RES := hide1 (show decide (okView v) = false from decide_eq_false (fun e => c0 e.1))
    go_enter Tryz.func48, Tryz.ntmps48
    go_wp2_with (go_at_call 23; refine (C0.out _).mono ?_; rintro e w1 ⟨rfl, rfl⟩)
    go_ret
    exact ⟨by rw [RES.out]; rfl, Below.refl _ _⟩
/-- A view in memory. -/
structure Vw where
  a : Option Addr
  c : Nat
  l : List Int
def vwC (x : Vw) : List Value := [.slice x.a x.l.length x.c]
theorem encVw : EncK vwC 1 := ⟨fun _ => rfl, fun x u hu => by simp only [vwC, List.mem_cons, List.not_mem_nil, or_false] at hu; rcases hu with rfl; rfl⟩
/-- A row of views that is read. -/
structure RdVs (w : World) (a : Option Addr) (L : List Vw) : Prop where
  r : RdG vwC 1 w a L
  v : ∀ x ∈ L, RdZ w x.a x.l
  c : ∀ x ∈ L, x.l.length ≤ x.c
theorem RdVs.later {w w' : World} {a : Option Addr} {L : List Vw} (h : RdVs w a L) (hb : Below w.heap.size w w') : RdVs w' a L := ⟨h.r.later hb, fun x hx => (h.v x hx).later hb, h.c⟩
set_option maxRecDepth 100000 in
set_option maxHeartbeats 4000000 in
theorem specViews_any (a : Option Addr) (L : List Vw) (ca : Nat) (w : World) (hl : L.length ≤ 1048576) (hs : ∀ x ∈ L, x.l.length ≤ 1048576) (hA : RdVs w a L) :
    Calls Tryz.prog 22 #[.slice a L.length ca] w fun e w' => e = .returned (.bool (decide (okViews (L.map (·.l))))) ∧ Below w.heap.size w w' := by
  have HA := hide1 hA
  have HS := hide1 hs
  clear hA hs
  go_enter Tryz.func22, Tryz.ntmps22
  go_wp2
  go_loopw [3] (fun iv wr => ∃ i : Nat, i ≤ L.length ∧ iv = .int .i64 (i : Int) ∧ Hid (∀ j (h : j < L.length), j < i → okView L[j].l) ∧ Hid (Below w.heap.size w wr)) (fun iv _ => L.length - (intOf iv).toNat)
  case atStart => exact ⟨0, Nat.zero_le _, rfl, hide1 (fun j _ h => by omega), hide1 (Below.refl _ _)⟩
  case round =>
    obtain ⟨i, hi, rfl, HO, BB⟩ := hrel
    by_cases hlt : i < L.length
    · have k1 : (i : Int) < (L.length : Int) := by omega
      obtain ⟨b, o, rfl, hb, hc⟩ := HA.out.r i hlt
      have x0 : wr.cell? ⟨b, o + i, none⟩ = some (.slice L[i].a L[i].l.length L[i].c) := (BB.out.cell (p := ⟨b, o + i, none⟩) hb).trans (by have := hc 0 (by omega); rwa [Nat.mul_one, Nat.add_zero] at this)
      have hm := List.getElem_mem hlt
      have CV := hide1 (specView_any L[i].a L[i].l L[i].c wr (HS.out _ hm) (HA.out.c _ hm) ((HA.out.v _ hm).later BB.out))
      have NO := hide1 (show ¬ okView L[i].l → decide (okViews (L.map (·.l))) = false from fun h => decide_eq_false (fun e => h (e.1 _ (List.mem_map.2 ⟨_, hm, rfl⟩))))
      have YS := hide1 (show okView L[i].l → ∀ j (h : j < L.length), j < i + 1 → okView L[j].l from fun h j hj hlt2 => by
        by_cases c : j < i
        · exact HO.out j hj c
        · have : j = i := (by omega)
          subst this
          exact h)
      generalize L[i] = s at *
      clear hc hm
      by_cases c1 : okView s.l
      · rw [decide_eq_true c1] at CV
        have YS2 := hide1 (YS.out c1)
        clear YS NO c1
        go_wp2_with fail
        refine CV.out.mono ?_
        rintro e w2 ⟨rfl, hb2⟩
        have B2 := hide1 (BB.out.trans (hb2.mono BB.out.size))
        clear hb2
        go_wp2
        go_roundw
        case rel => exact ⟨i + 1, by omega, by go_num, YS2, B2⟩
        case measure => simp [intOf]; omega
      · rw [decide_eq_false c1] at CV
        have RES := hide1 (NO.out c1)
        clear YS NO c1
        go_wp2_with fail
        refine CV.out.mono ?_
        rintro e w2 ⟨rfl, hb2⟩
        have B2 := hide1 (BB.out.trans (hb2.mono BB.out.size))
        clear hb2
        go_wp2
        go_ret
        exact ⟨by rw [RES.out]; rfl, B2.out⟩
    · obtain rfl : i = L.length := by omega
      have k1 : ¬ ((L.length : Int) < (L.length : Int)) := by omega
      have CI := hide1 (fun w' => in_anyV (L.length : Int) 1 9 w')
      have AL : ∀ v ∈ L.map (·.l), okView v := fun v hv => by
        obtain ⟨x, hx, rfl⟩ := List.mem_map.1 hv
        obtain ⟨j, hj, rfl⟩ := List.getElem_of_mem hx
        exact HO.out j hj hj
      have RES := hide1 (show (decide ((1 : Int) ≤ (L.length : Int)) && decide ((L.length : Int) ≤ 9)) = decide (okViews (L.map (·.l))) by
        by_cases c : 1 ≤ L.length ∧ L.length ≤ 9
        · rw [in_yesV (show (1 : Int) ≤ (L.length : Int) ∧ (L.length : Int) ≤ 9 by omega), decide_eq_true (show okViews (L.map (·.l)) from ⟨AL, by rw [List.length_map]; exact c⟩)]
        · rw [in_noV (show ¬ ((1 : Int) ≤ (L.length : Int) ∧ (L.length : Int) ≤ 9) by omega), decide_eq_false (fun e : okViews (L.map (·.l)) => c (by have := e.2; rwa [List.length_map] at this))])
      rw [RES.out] at CI
      obtain ⟨r, hr⟩ : ∃ r, decide (okViews (L.map (·.l))) = r := ⟨_, rfl⟩
      rw [hr] at CI
      have HR := hide1 hr
      clear AL HO hr RES
      go_wp2_with fail
      refine (CI.out _).mono ?_
      rintro e w2 ⟨rfl, rfl⟩
      go_wp2
      go_ret
      exact ⟨by rw [HR.out]; rfl, BB.out⟩
end Go.Proofs.YtpjgplohlchpoaaGreatDoor
namespace Go.Proofs.YtpjgplohlchpoaaGreatDoor
open Go.ChangeShapes Go.WideShapes Go.ChangeAt Go.RowKit Go.Deep Go.Joins
set_option linter.unusedVariables false

section
variable {α : Type} {enc : α → List Value} {k : Nat}
theorem madeG (E : EncK enc k) (hk : 0 < k) (z : α) (n : Nat) : (madeCells (Value.agg (enc z).toArray).cells (n * k)).toList = rowG enc (List.replicate n z) := by
  have hz : (Value.agg (enc z).toArray).cells = (enc z).toArray := rfl
  have hs : (enc z).toArray.size = k := by simp [E.len]
  refine List.ext_getElem? fun j => ?_
  by_cases hj : j < n * k
  · have h5 : j % k < k := Nat.mod_lt _ hk
    have hd : j / k < n := Nat.div_lt_of_lt_mul (by rw [Nat.mul_comm]; exact hj)
    have hr := rowG_at enc k E.len (List.replicate n z) (j / k) (j % k) (by simpa using hd) h5
    rw [show j / k * k + j % k = j by rw [Nat.mul_comm]; exact Nat.div_add_mod j k, List.getElem_replicate] at hr
    rw [hr, hz]
    simp only [madeCells, Array.getElem?_toList]
    rw [Array.getElem?_map, Array.getElem?_range, if_pos hj]
    simp only [Option.map_some]
    rw [hs]
    have hl : j % k < (enc z).length := by rw [E.len]; exact h5
    rw [List.getElem?_eq_getElem hl]
    simp [hl]
  · rw [List.getElem?_eq_none (by simp [madeCells]; omega), List.getElem?_eq_none (by rw [rowG_length enc k E.len]; simp; omega)]
theorem open_rowG {w : World} {a : Addr} {len cap m : Nat} [Inhabited α] {P : α → Prop} (E : EncK enc k) (hk : 0 < k) (hl : len ≤ cap ∧ cap ≤ maxLen ∨ len ≤ maxLen) (hlm : len ≤ m) (each : ∀ i, i < m → ∃ s : α, P s ∧ ∀ j, j < k → w.cell? ((a.add (i * k)).add j) = (enc s)[j]?) :
    ∃ (ao : Option Addr) (l : List α) (ca : Nat), [Value.slice (some a) len cap] = [.slice ao l.length ca] ∧ RdG enc k w ao l ∧ l.length ≤ maxLen ∧ ∀ s ∈ l, P s := by
  obtain ⟨S, hS⟩ := choose_lt each
  refine ⟨some a, (List.range len).map S, cap, by simp, ?_, by simp; omega, ?_⟩
  · intro i hi
    have hi' : i < len := by simpa using hi
    have hc5 := (hS i (by omega)).2
    obtain ⟨b, o, spot⟩ := a
    have hz : ∃ v, (enc (S 0))[0]? = some v := ⟨_, List.getElem?_eq_getElem (by rw [E.len]; exact hk)⟩
    obtain ⟨v0, hv0⟩ := hz
    have hspot : spot = none := by
      have := (hS 0 (by omega)).2 0 hk
      rw [hv0] at this
      simpa [Addr.add] using World.cell?_spot this
    subst hspot
    simp only [Addr.add_lit] at hc5
    have hz : ∃ v, (enc (S i))[0]? = some v := ⟨_, List.getElem?_eq_getElem (by rw [E.len]; exact hk)⟩
    obtain ⟨vi, hvi⟩ := hz
    have hlt : b < w.heap.size := World.block_lt_of_cell? w _ ((hc5 0 hk).trans hvi)
    refine ⟨b, o, rfl, hlt, fun j hj => ?_⟩
    simp only [List.getElem_map, List.getElem_range]
    exact hc5 j hj
  · intro s hs
    obtain ⟨i, hi, rfl⟩ := List.mem_map.1 hs
    exact (hS i (by have := List.mem_range.1 hi; omega)).1
end
end Go.Proofs.YtpjgplohlchpoaaGreatDoor
