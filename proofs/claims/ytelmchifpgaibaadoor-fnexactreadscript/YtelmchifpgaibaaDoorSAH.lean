/- Views: right ones, and the model's ViewsOk. -/
import Derived.Test.YtelmchifpgaibaaDoorSAF
import Derived.Test.YtelmchifpgaibaaDoorSAG
import Derived.Deep.DeepCutAuto
import Derived.Deep.SlicePairs
import Derived.Lib.SmallJoins
import Derived.ProofKit
import Derived.OpenShut
import Derived.Maps.AppendAt
import Derived.Test.YtelmchifpgaibaaDoorSAA
namespace Go.Proofs.YtelmchifpgaibaaDoor
open Go.RowKit
set_option linter.unusedVariables false

def okView (v : List Int) : Prop := (1 ≤ v.length ∧ v.length ≤ 4) ∧ (∀ x ∈ v, 1 ≤ x ∧ x ≤ 6) ∧ v.Nodup
instance (v : List Int) : Decidable (okView v) := by unfold okView; infer_instance
def okViews (l : List (List Int)) : Prop := (∀ v ∈ l, okView v) ∧ 1 ≤ l.length ∧ l.length ≤ 9
instance (l : List (List Int)) : Decidable (okViews l) := by unfold okViews; infer_instance
def vwTo (v : List Int) (i : Nat) : Prop := ∀ j (h : j < v.length), j < i → (1 ≤ v[j] ∧ v[j] ≤ 6) ∧ ¬ v[j] ∈ v.take j
theorem vwTo_next {v : List Int} {i : Nat} (h : vwTo v i) (hi : i < v.length) (h1 : 1 ≤ v[i] ∧ v[i] ≤ 6) (h2 : ¬ v[i] ∈ v.take i) : vwTo v (i + 1) := fun j hj hlt => by
  by_cases c : j < i
  · exact h j hj c
  · have : j = i := (by omega)
    subst this
    exact ⟨h1, h2⟩
theorem vwTo_all {v : List Int} (h : vwTo v v.length) : (∀ x ∈ v, 1 ≤ x ∧ x ≤ 6) ∧ v.Nodup := by
  refine ⟨fun x hx => ?_, ?_⟩
  · obtain ⟨j, hj, rfl⟩ := List.getElem_of_mem hx
    exact (h j hj hj).1
  · unfold List.Nodup
    rw [List.pairwise_iff_getElem]
    intro i j hi hj hij e
    refine (h j hj hj).2 ?_
    rw [← e]
    exact List.mem_take_iff_getElem.2 ⟨i, by omega, rfl⟩
theorem nodup_take {v : List Int} (h : v.Nodup) {i : Nat} (hi : i < v.length) : ¬ v[i] ∈ v.take i := fun e => by
  obtain ⟨j, hj, e2⟩ := List.mem_take_iff_getElem.1 e
  unfold List.Nodup at h
  rw [List.pairwise_iff_getElem] at h
  exact h j i (by omega) hi (by omega) e2
theorem in_yesV {x lo hi : Int} (h : lo ≤ x ∧ x ≤ hi) : (decide (lo ≤ x) && decide (x ≤ hi)) = true := by rw [Bool.and_eq_true, decide_eq_true_iff, decide_eq_true_iff]; exact h
theorem in_noV {x lo hi : Int} (h : ¬ (lo ≤ x ∧ x ≤ hi)) : (decide (lo ≤ x) && decide (x ≤ hi)) = false := by rw [Bool.and_eq_false_iff, decide_eq_false_iff_not, decide_eq_false_iff_not]; omega
theorem in_anyV (x lo hi : Int) (w : World) : Calls Tryd.prog 26 #[.int .i64 x, .int .i64 lo, .int .i64 hi] w fun e w' => e = .returned (.bool (decide (lo ≤ x) && decide (x ≤ hi))) ∧ w' = w := (in_any x lo hi w).mono (fun e w' h => ⟨h.1, h.2.symm⟩)
theorem RdZ.takeV {w : World} {a : Option Addr} {v : List Int} (h : RdZ w a v) (i : Nat) : RdZ w a (v.take i) := fun j hj => by
  have hj2 : j < v.length := by rw [List.length_take] at hj; omega
  obtain ⟨b, o, h1, h2, h3⟩ := h j hj2
  exact ⟨b, o, h1, h2, by rw [h3, List.getElem_take]⟩
set_option maxRecDepth 100000 in
set_option maxHeartbeats 4000000 in
theorem specView_any (a : Option Addr) (v : List Int) (ca : Nat) (w : World) (hl : v.length ≤ 1048576) (hca : v.length ≤ ca) (hA : RdZ w a v) :
    Calls Tryd.prog 25 #[.slice a v.length ca] w fun e w' => e = .returned (.bool (decide (okView v))) ∧ Below w.heap.size w w' := by
  have HA := hide1 hA
  have C0 := hide1 (fun w' => in_anyV (v.length : Int) 1 4 w')
  clear hA
  by_cases c0 : 1 ≤ v.length ∧ v.length ≤ 4
  · rw [in_yesV (show (1 : Int) ≤ (v.length : Int) ∧ (v.length : Int) ≤ 4 by omega)] at C0
    go_enter Tryd.func25, Tryd.ntmps25
    go_upto_region 3 with (go_at_call 26; refine (C0.out _).mono ?_; rintro e w1 ⟨rfl, rfl⟩)
    go_wp2
    go_loopw [3] (fun iv wr => ∃ i : Nat, i ≤ v.length ∧ iv = .int .i64 (i : Int) ∧ Hid (vwTo v i) ∧ Hid (Below w1.heap.size w1 wr)) (fun iv _ => v.length - (intOf iv).toNat)
    case atStart => exact ⟨0, Nat.zero_le _, rfl, hide1 (fun j _ h => by omega), hide1 (Below.refl _ _)⟩
    case round =>
      obtain ⟨i, hi, rfl, HS, BB⟩ := hrel
      by_cases hlt : i < v.length
      · have k1 : (i : Int) < (v.length : Int) := by omega
        have hic : (i : Int) ≤ (ca : Int) := by omega
        have hic2 : i ≤ ca := by omega
        obtain ⟨b, o, rfl, hb, hc⟩ := HA.out i hlt
        have x0 : wr.cell? ⟨b, o + i, none⟩ = some (.int .i64 v[i]) := (BB.out.cell (p := ⟨b, o + i, none⟩) hb).trans hc
        have C1 := hide1 (fun w' => in_anyV v[i] 1 6 w')
        have C2 := hide1 (fun w' (hb : Below w1.heap.size w1 w') => (specIn_any (some ⟨b, o, none⟩) (v.take i) ca v[i] w' (by rw [List.length_take]; omega) ((HA.out.later hb).takeV i)).mono (fun e w'' h => (⟨h.1, h.2.symm⟩ : _ ∧ w'' = w')))
        rw [List.length_take, Nat.min_eq_left (Nat.le_of_lt hlt)] at C2
        have NX := hide1 (fun h1 h2 => vwTo_next HS.out hlt h1 h2)
        have NO1 := hide1 (show ¬ (1 ≤ v[i] ∧ v[i] ≤ 6) → decide (okView v) = false from fun h => decide_eq_false (fun e => h (e.2.1 _ (List.getElem_mem hlt))))
        have NO2 := hide1 (show v[i] ∈ v.take i → decide (okView v) = false from fun h => decide_eq_false (fun e => nodup_take e.2.2 hlt h))
        generalize v[i] = z at *
        clear hc
        by_cases c1 : 1 ≤ z ∧ z ≤ 6
        · rw [in_yesV c1] at C1
          by_cases c2 : z ∈ v.take i
          · rw [decide_eq_true c2] at C2
            have RES := hide1 (NO2.out c2)
            clear NX NO1 NO2 c2
            go_wp2_with fail
            go_quiet ((first | (go_at_call 26; exact Calls.quiet_of_same (C1.out _)) | (go_at_call 31; exact Calls.quiet_of_same (C2.out _ (below_drewN BB.out _)))))
            go_wp2
            go_ret
            exact ⟨by rw [RES.out]; rfl, below_drewN BB.out _⟩
          · rw [decide_eq_false c2] at C2
            have YS := hide1 (NX.out c1 c2)
            clear NX NO1 NO2 c2
            go_wp2_with fail
            go_quiet ((first | (go_at_call 26; exact Calls.quiet_of_same (C1.out _)) | (go_at_call 31; exact Calls.quiet_of_same (C2.out _ (below_drewN BB.out _)))))
            go_wp2
            go_roundw
            case rel => exact ⟨i + 1, by omega, by go_num, YS, hide1 (below_drewN BB.out _)⟩
            case measure => simp [intOf]; omega
        · rw [in_noV c1] at C1
          have RES := hide1 (NO1.out c1)
          clear NX NO1 NO2
          go_wp2_with fail
          go_quiet ((go_at_call 26; exact Calls.quiet_of_same (C1.out _)))
          go_wp2
          go_ret
          exact ⟨by rw [RES.out]; rfl, below_drewN BB.out _⟩
      · obtain rfl : i = v.length := by omega
        have k1 : ¬ ((v.length : Int) < (v.length : Int)) := by omega
        have RES := hide1 (show decide (okView v) = true from decide_eq_true ⟨c0, (vwTo_all HS.out).1, (vwTo_all HS.out).2⟩)
        go_wp2
        go_ret
        exact ⟨by rw [RES.out]; rfl, BB.out⟩
  · rw [in_noV (show ¬ ((1 : Int) ≤ (v.length : Int) ∧ (v.length : Int) ≤ 4) by omega)] at C0
    have RES := hide1 (show decide (okView v) = false from decide_eq_false (fun e => c0 e.1))
    go_enter Tryd.func25, Tryd.ntmps25
    go_wp2_with (go_at_call 26; refine (C0.out _).mono ?_; rintro e w1 ⟨rfl, rfl⟩)
    go_ret
    exact ⟨by rw [RES.out]; rfl, Below.refl _ _⟩
/-- A view in memory. -/
structure Vw where
  a : Option Addr
  c : Nat
  l : List Int
def vwC (x : Vw) : List Value := [.slice x.a x.l.length x.c]
theorem encVw : EncK vwC 1 := ⟨fun _ => rfl, fun x u hu => by simp only [vwC, List.mem_cons, List.not_mem_nil, or_false] at hu; rcases hu with rfl; rfl⟩
/-- A row of views that is read. -/
structure RdVs (w : World) (a : Option Addr) (L : List Vw) : Prop where
  r : RdG vwC 1 w a L
  v : ∀ x ∈ L, RdZ w x.a x.l
  c : ∀ x ∈ L, x.l.length ≤ x.c
theorem RdVs.later {w w' : World} {a : Option Addr} {L : List Vw} (h : RdVs w a L) (hb : Below w.heap.size w w') : RdVs w' a L := ⟨h.r.later hb, fun x hx => (h.v x hx).later hb, h.c⟩
set_option maxRecDepth 100000 in
set_option maxHeartbeats 4000000 in
theorem specViews_any (a : Option Addr) (L : List Vw) (ca : Nat) (w : World) (hl : L.length ≤ 1048576) (hs : ∀ x ∈ L, x.l.length ≤ 1048576) (hA : RdVs w a L) :
    Calls Tryd.prog 15 #[.slice a L.length ca] w fun e w' => e = .returned (.bool (decide (okViews (L.map (·.l))))) ∧ Below w.heap.size w w' := by
  have HA := hide1 hA
  have HS := hide1 hs
  clear hA hs
  go_enter Tryd.func15, Tryd.ntmps15
  go_wp2
  go_loopw [3] (fun iv wr => ∃ i : Nat, i ≤ L.length ∧ iv = .int .i64 (i : Int) ∧ Hid (∀ j (h : j < L.length), j < i → okView L[j].l) ∧ Hid (Below w.heap.size w wr)) (fun iv _ => L.length - (intOf iv).toNat)
  case atStart => exact ⟨0, Nat.zero_le _, rfl, hide1 (fun j _ h => by omega), hide1 (Below.refl _ _)⟩
  case round =>
    obtain ⟨i, hi, rfl, HO, BB⟩ := hrel
    by_cases hlt : i < L.length
    · have k1 : (i : Int) < (L.length : Int) := by omega
      obtain ⟨b, o, rfl, hb, hc⟩ := HA.out.r i hlt
      have x0 : wr.cell? ⟨b, o + i, none⟩ = some (.slice L[i].a L[i].l.length L[i].c) := (BB.out.cell (p := ⟨b, o + i, none⟩) hb).trans (by have := hc 0 (by omega); rwa [Nat.mul_one, Nat.add_zero] at this)
      have hm := List.getElem_mem hlt
      have CV := hide1 (specView_any L[i].a L[i].l L[i].c wr (HS.out _ hm) (HA.out.c _ hm) ((HA.out.v _ hm).later BB.out))
      have NO := hide1 (show ¬ okView L[i].l → decide (okViews (L.map (·.l))) = false from fun h => decide_eq_false (fun e => h (e.1 _ (List.mem_map.2 ⟨_, hm, rfl⟩))))
      have YS := hide1 (show okView L[i].l → ∀ j (h : j < L.length), j < i + 1 → okView L[j].l from fun h j hj hlt2 => by
        by_cases c : j < i
        · exact HO.out j hj c
        · have : j = i := (by omega)
          subst this
          exact h)
      generalize L[i] = s at *
      clear hc hm
      by_cases c1 : okView s.l
      · rw [decide_eq_true c1] at CV
        have YS2 := hide1 (YS.out c1)
        clear YS NO c1
        go_wp2_with fail
        refine CV.out.mono ?_
        rintro e w2 ⟨rfl, hb2⟩
        have B2 := hide1 (BB.out.trans (hb2.mono BB.out.size))
        clear hb2
        go_wp2
        go_roundw
        case rel => exact ⟨i + 1, by omega, by go_num, YS2, B2⟩
        case measure => simp [intOf]; omega
      · rw [decide_eq_false c1] at CV
        have RES := hide1 (NO.out c1)
        clear YS NO c1
        go_wp2_with fail
        refine CV.out.mono ?_
        rintro e w2 ⟨rfl, hb2⟩
        have B2 := hide1 (BB.out.trans (hb2.mono BB.out.size))
        clear hb2
        go_wp2
        go_ret
        exact ⟨by rw [RES.out]; rfl, B2.out⟩
    · obtain rfl : i = L.length := by omega
      have k1 : ¬ ((L.length : Int) < (L.length : Int)) := by omega
      have CI := hide1 (fun w' => in_anyV (L.length : Int) 1 9 w')
      have AL : ∀ v ∈ L.map (·.l), okView v := fun v hv => by
        obtain ⟨x, hx, rfl⟩ := List.mem_map.1 hv
        obtain ⟨j, hj, rfl⟩ := List.getElem_of_mem hx
        exact HO.out j hj hj
      have RES := hide1 (show (decide ((1 : Int) ≤ (L.length : Int)) && decide ((L.length : Int) ≤ 9)) = decide (okViews (L.map (·.l))) by
        by_cases c : 1 ≤ L.length ∧ L.length ≤ 9
        · rw [in_yesV (show (1 : Int) ≤ (L.length : Int) ∧ (L.length : Int) ≤ 9 by omega), decide_eq_true (show okViews (L.map (·.l)) from ⟨AL, by rw [List.length_map]; exact c⟩)]
        · rw [in_noV (show ¬ ((1 : Int) ≤ (L.length : Int) ∧ (L.length : Int) ≤ 9) by omega), decide_eq_false (fun e : okViews (L.map (·.l)) => c (by have := e.2; rwa [List.length_map] at this))])
      rw [RES.out] at CI
      obtain ⟨r, hr⟩ : ∃ r, decide (okViews (L.map (·.l))) = r := ⟨_, rfl⟩
      rw [hr] at CI
      have HR := hide1 hr
      clear AL HO hr RES
      go_wp2_with fail
      refine (CI.out _).mono ?_
      rintro e w2 ⟨rfl, rfl⟩
      go_wp2
      go_ret
      exact ⟨by rw [HR.out]; rfl, BB.out⟩
end Go.Proofs.YtelmchifpgaibaaDoor
namespace Go.Proofs.YtelmchifpgaibaaDoor
open Go.ChangeShapes Go.WideShapes Go.ChangeAt Go.RowKit Go.Deep Go.Joins
set_option linter.unusedVariables false

section
variable {α : Type} {enc : α → List Value} {k : Nat}
theorem madeG (E : EncK enc k) (hk : 0 < k) (z : α) (n : Nat) : (madeCells (Value.agg (enc z).toArray).cells (n * k)).toList = rowG enc (List.replicate n z) := by
  have hz : (Value.agg (enc z).toArray).cells = (enc z).toArray := rfl
  have hs : (enc z).toArray.size = k := by simp [E.len]
  refine List.ext_getElem? fun j => ?_
  by_cases hj : j < n * k
  · have h5 : j % k < k := Nat.mod_lt _ hk
    have hd : j / k < n := Nat.div_lt_of_lt_mul (by rw [Nat.mul_comm]; exact hj)
    have hr := rowG_at enc k E.len (List.replicate n z) (j / k) (j % k) (by simpa using hd) h5
    rw [show j / k * k + j % k = j by rw [Nat.mul_comm]; exact Nat.div_add_mod j k, List.getElem_replicate] at hr
    rw [hr, hz]
    simp only [madeCells, Array.getElem?_toList]
    rw [Array.getElem?_map, Array.getElem?_range, if_pos hj]
    simp only [Option.map_some]
    rw [hs]
    have hl : j % k < (enc z).length := by rw [E.len]; exact h5
    rw [List.getElem?_eq_getElem hl]
    simp [hl]
  · rw [List.getElem?_eq_none (by simp [madeCells]; omega), List.getElem?_eq_none (by rw [rowG_length enc k E.len]; simp; omega)]
theorem open_rowG {w : World} {a : Addr} {len cap m : Nat} [Inhabited α] {P : α → Prop} (E : EncK enc k) (hk : 0 < k) (hl : len ≤ cap ∧ cap ≤ maxLen ∨ len ≤ maxLen) (hlm : len ≤ m) (each : ∀ i, i < m → ∃ s : α, P s ∧ ∀ j, j < k → w.cell? ((a.add (i * k)).add j) = (enc s)[j]?) :
    ∃ (ao : Option Addr) (l : List α) (ca : Nat), [Value.slice (some a) len cap] = [.slice ao l.length ca] ∧ RdG enc k w ao l ∧ l.length ≤ maxLen ∧ ∀ s ∈ l, P s := by
  obtain ⟨S, hS⟩ := choose_lt each
  refine ⟨some a, (List.range len).map S, cap, by simp, ?_, by simp; omega, ?_⟩
  · intro i hi
    have hi' : i < len := by simpa using hi
    have hc5 := (hS i (by omega)).2
    obtain ⟨b, o, spot⟩ := a
    have hz : ∃ v, (enc (S 0))[0]? = some v := ⟨_, List.getElem?_eq_getElem (by rw [E.len]; exact hk)⟩
    obtain ⟨v0, hv0⟩ := hz
    have hspot : spot = none := by
      have := (hS 0 (by omega)).2 0 hk
      rw [hv0] at this
      simpa [Addr.add] using World.cell?_spot this
    subst hspot
    simp only [Addr.add_lit] at hc5
    have hz : ∃ v, (enc (S i))[0]? = some v := ⟨_, List.getElem?_eq_getElem (by rw [E.len]; exact hk)⟩
    obtain ⟨vi, hvi⟩ := hz
    have hlt : b < w.heap.size := World.block_lt_of_cell? w _ ((hc5 0 hk).trans hvi)
    refine ⟨b, o, rfl, hlt, fun j hj => ?_⟩
    simp only [List.getElem_map, List.getElem_range]
    exact hc5 j hj
  · intro s hs
    obtain ⟨i, hi, rfl⟩ := List.mem_map.1 hs
    exact (hS i (by have := List.mem_range.1 hi; omega)).1
end
end Go.Proofs.YtelmchifpgaibaaDoor
namespace Go.Proofs.YtelmchifpgaibaaDoor
open Go.RowKit
set_option linter.unusedVariables false

section
variable {P : Program} {α : Type} {enc : α → List Value} {k : Nat} {t e : TypeId}
theorem appA_run (E : EncK enc k) (R : RowK P t e k) (w : World) (ty : TypeId) (base : Nat) (v : Value) (n : Nat) (l1 : List α) (hown : w.ownsRow base e k v n (rowG enc l1)) (ao : Option Addr) (m c : Nat) (l2 : List α) (hm : l2.length = m) (hA : RdG enc k w ao l2) (hlen : n + m ≤ 4194304) (hbase : base ≤ w.heap.size) :
    ∃ b' c' w', (Builtin.append_ #[t, t] ty #[v, .slice ao m c]).run P w = .ok (.slice b' (n + m) c') w' ∧ w'.ownsRow base e k (.slice b' (n + m) c') (n + m) (rowG enc (l1 ++ l2)) ∧ w.grownBy w' v.ownBlock ∧ ∀ x, b' = some x → v.ownBlock = some x.block ∨ w.heap.size ≤ x.block := by
  obtain ⟨i0, z, b, hi, hz0, hz1, hz2, hz3, hb⟩ := R.inf
  by_cases h0 : m = 0
  · subst h0
    have e0 : l2 = [] := List.eq_nil_of_length_eq_zero hm
    subst e0
    obtain ⟨b', c', rfl⟩ := form_of hown
    refine ⟨b', c', w, ?_, by simpa using hown, gnew (Below.refl _ _), fun x hx => .inl (by subst hx; rfl)⟩
    rcases hown.2 with ⟨hv, rfl⟩ | ⟨g, cap, cur, hv, _, _, hnc, _⟩
    · rw [hv]
      cases ao <;> simp [Builtin.append_, run_underlying R.sl, sizeOf, typeInfo, hi, Builtin.lenOf, Builtin.firstCells, loadCells, loadCellsFrom] at hv ⊢
      all_goals exact hv.symm
    · rw [hv]
      cases ao <;> simp [Builtin.append_, run_underlying R.sl, sizeOf, typeInfo, hi, Builtin.lenOf, Builtin.firstCells, loadCells, loadCellsFrom, hnc, storeCells] at hv ⊢
      all_goals exact ⟨hv.1.symm, hv.2.symm⟩
  · obtain ⟨g, o, rfl, hg, _⟩ := hA 0 (by omega)
    have hl : (rowG enc l2).length = m * k := by rw [rowG_length enc k E.len, hm]
    have hAt : ∀ j v, (rowG enc l2)[j]? = some v → w.cell? ((⟨g, o, none⟩ : Addr).add j) = some v := fun j v hj => by
      have hj' : j < m * k := by have := (List.getElem?_eq_some_iff.1 hj).1; omega
      have hk0 := R.pos
      have hd : j / k < l2.length := by rw [hm]; exact Nat.div_lt_of_lt_mul (by rw [Nat.mul_comm]; exact hj')
      have hr : j % k < k := Nat.mod_lt _ hk0
      have hjk : j = j / k * k + j % k := by rw [Nat.mul_comm]; exact (Nat.div_add_mod j k).symm
      obtain ⟨b', o', e', _, h⟩ := hA (j / k) hd
      simp only [Option.some.injEq, Addr.mk.injEq, and_true] at e'
      obtain ⟨rfl, rfl⟩ := e'
      have h1 := h (j % k) hr
      have h2 := rowG_at enc k E.len l2 (j / k) (j % k) hd hr
      rw [← hjk] at h2
      rw [Addr.add_lit, show o + j = o + j / k * k + j % k by omega, h1, ← h2]
      exact hj
    have hbl : (n + m) * b ≤ (n + m) * 256 := Nat.mul_le_mul_left _ hb
    obtain ⟨v', w', h1, h2, h3, _, h5⟩ := run_append_own_at (P := P) w base t ty e i0 z k b R.sl hi hz0 hz1 hz2 hz3 R.pos v n (rowG enc l1) hown ⟨g, o, none⟩ m c (rowG enc l2) hl hAt (rowG_one E l2) (by unfold maxLen; omega) (by omega) hbase
    obtain ⟨b', c', rfl⟩ := form_of h2
    refine ⟨b', c', w', h1, by rw [rowG_join]; exact h2, h3, fun x hx => ?_⟩
    subst hx
    rcases h5 with h5 | h5
    · exact .inl h5.symm
    · have h5 : some x.block = some w.heap.size := h5
      injection h5 with h5
      exact .inr (by omega)
theorem wpList_appA {ops : Array Oper} {rest : List Oper} {o : Oper} {a : Act} {w : World} {Q : Exit → Act → World → Prop} (E : EncK enc k) (R : RowK P t e k) (hgd : o.guard = none) (s x : Operand)
    (ho : o.op = .call { callee := .builtin .append, args := #[s, x], argTypes := #[t, t] }) (base : Nat) (v : Value) (n : Nat) (l1 : List α) (hs : a.eval s = v) (hown : w.ownsRow base e k v n (rowG enc l1)) (ao : Option Addr) (m c : Nat) (l2 : List α) (hx : a.eval x = .slice ao m c) (hm : l2.length = m) (hA : RdG enc k w ao l2) (hlen : n + m ≤ 4194304) (hbase : base ≤ w.heap.size)
    (h : ∀ b' c' w', w'.ownsRow base e k (.slice b' (n + m) c') (n + m) (rowG enc (l1 ++ l2)) → w.grownBy w' v.ownBlock → (∀ x, b' = some x → v.ownBlock = some x.block ∨ w.heap.size ≤ x.block) → wpList P ops Q rest (a.put o.dst (.slice b' (n + m) c')) w') : wpList P ops Q (o :: rest) a w := by
  refine wpList_plain hgd fun K hK => ?_
  obtain ⟨b', c', w', hrun, h1, h2, h3⟩ := appA_run E R w o.type base v n l1 hown ao m c l2 hm hA hlen hbase
  unfold Oper.wp
  simp only [execOp, ho, resolve, invoke, builtin, Sem.run_bind, Sem.run_pure, Result.andThen_ok, List.map_toArray, List.map_cons, List.map_nil, hs, hx, hrun]
  exact hK _ _ (h b' c' w' h1 h2 h3)
theorem step_appA {ops : Array Oper} {o : Oper} {a : Act} {w : World} {K : Act → World → Prop} {Q : Exit → Act → World → Prop} {D : Prop} (E : EncK enc k) (R : RowK P t e k) (hgd : o.guard = none) (s x : Operand)
    (ho : o.op = .call { callee := .builtin .append, args := #[s, x], argTypes := #[t, t] }) (base : Nat) (v : Value) (n : Nat) (l1 : List α) (hs : a.eval s = v) (hown : w.ownsRow base e k v n (rowG enc l1)) (ao : Option Addr) (m c : Nat) (l2 : List α) (hx : a.eval x = .slice ao m c) (hm : l2.length = m) (hA : RdG enc k w ao l2) (hlen : n + m ≤ 4194304) (hbase : base ≤ w.heap.size)
    (h : ∀ b' c' w', w'.ownsRow base e k (.slice b' (n + m) c') (n + m) (rowG enc (l1 ++ l2)) → w.grownBy w' v.ownBlock → (∀ x, b' = some x → v.ownBlock = some x.block ∨ w.heap.size ≤ x.block) → K (a.put o.dst (.slice b' (n + m) c')) w') :
    if Region.wanted o (yielded ops a.tmps) = true then Oper.wp P o a w K Q else D := by
  have hw : Region.wanted o (yielded ops a.tmps) = true := by simp [Region.wanted, hgd]
  rw [if_pos hw]
  obtain ⟨b', c', w', hrun, h1, h2, h3⟩ := appA_run E R w o.type base v n l1 hown ao m c l2 hm hA hlen hbase
  unfold Oper.wp
  simp only [execOp, ho, resolve, invoke, builtin, Sem.run_bind, Sem.run_pure, Result.andThen_ok, List.map_toArray, List.map_cons, List.map_nil, hs, hx, hrun]
  exact h b' c' w' h1 h2 h3
end
end Go.Proofs.YtelmchifpgaibaaDoor
namespace Go.Proofs.YtelmchifpgaibaaDoor
open Go.RowKit
set_option linter.unusedVariables false

theorem bl_irr : ∀ a : List UInt8, Op.bytesLess a a = false
  | [] => rfl
  | a :: x => by simp [Op.bytesLess, bl_irr x]
theorem bl_trans : ∀ a b c : List UInt8, Op.bytesLess a b = true → Op.bytesLess b c = true → Op.bytesLess a c = true
  | _, [], _, h, _ => by cases h' : (‹List UInt8›) <;> simp_all [Op.bytesLess]
  | _, _ :: _, [], _, h => by simp [Op.bytesLess] at h
  | [], _ :: _, _ :: _, _, _ => rfl
  | a :: x, b :: y, c :: z, h1, h2 => by
    simp only [Op.bytesLess, Bool.or_eq_true, decide_eq_true_eq, Bool.and_eq_true, beq_iff_eq] at h1 h2 ⊢
    rcases h1 with h1 | ⟨rfl, h1⟩
    · rcases h2 with h2 | ⟨rfl, h2⟩
      · exact .inl (UInt8.lt_trans h1 h2)
      · exact .inl h1
    · rcases h2 with h2 | ⟨rfl, h2⟩
      · exact .inl h2
      · exact .inr ⟨rfl, bl_trans x y z h1 h2⟩
theorem bl_tri : ∀ a b : List UInt8, Op.bytesLess a b = false → Op.bytesLess b a = false → a = b
  | [], [], _, _ => rfl
  | [], _ :: _, h, _ => by simp [Op.bytesLess] at h
  | _ :: _, [], _, h => by simp [Op.bytesLess] at h
  | a :: x, b :: y, h1, h2 => by
    simp only [Op.bytesLess, Bool.or_eq_false_iff, decide_eq_false_iff_not, Bool.and_eq_false_iff, beq_eq_false_iff_ne] at h1 h2
    have e : a = b := by
      have h3 := h1.1
      have h4 := h2.1
      rw [UInt8.lt_iff_toNat_lt] at h3 h4
      exact UInt8.toNat_inj.1 (by omega)
    subst e
    rw [bl_tri x y (by rcases h1.2 with h | h <;> simp_all) (by rcases h2.2 with h | h <;> simp_all)]
/-- Is a text less than another one? -/
def tLt (a b : ByteArray) : Bool := Op.bytesLess a.toList b.toList
theorem tLt_irr (a : ByteArray) : tLt a a = false := bl_irr _
theorem tLt_trans {a b c : ByteArray} (h1 : tLt a b = true) (h2 : tLt b c = true) : tLt a c = true := bl_trans _ _ _ h1 h2
theorem tx_inj {a b : ByteArray} (h : a.toList = b.toList) : a = b := by
  have e1 : a.toList = a.data.toList := ByteArray.toList_eq a
  have e2 : b.toList = b.data.toList := ByteArray.toList_eq b
  rw [e1, e2] at h
  obtain ⟨x⟩ := a
  obtain ⟨y⟩ := b
  congr
  exact Array.toList_inj.1 h
theorem tLt_tri {a b : ByteArray} (h1 : tLt a b = false) (h2 : tLt b a = false) : a = b := tx_inj (bl_tri _ _ h1 h2)
theorem tLt_asym {a b : ByteArray} (h : tLt a b = true) : tLt b a = false := by
  cases e : tLt b a with
  | false => rfl
  | true => have := tLt_trans h e; rw [tLt_irr] at this; cases this
theorem tLt_ne {a b : ByteArray} (h : tLt a b = true) : a ≠ b := fun e => by rw [e, tLt_irr] at h; cases h
end Go.Proofs.YtelmchifpgaibaaDoor
