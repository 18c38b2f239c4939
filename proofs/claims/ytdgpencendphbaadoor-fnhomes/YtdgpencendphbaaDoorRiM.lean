/- A set of numbers in a map; the nodes that have a spot, by the program. -/
import Derived.Test.YtdgpencendphbaaDoorRiU
import Derived.Test.YtdgpencendphbaaDoorRiH
import Derived.Maps.OwnSet
import Derived.Maps.AppendAt
import Derived.WalkKit
namespace Go.Proofs.YtdgpencendphbaaDoor
open Go.RowKit Go.Maps
set_option linter.unusedVariables false

/-- A map that has just these numbers as its keys. -/
structure SetD (D : DataW Unit) (S : List Int) : Prop where
  tidy : Tidy D
  nd : S.Nodup
  has : ∀ z : Int, Maps.has D (.int .i64 z) = decide (z ∈ S)
  size : Maps.size D = S.length
theorem SetD.nil : SetD (.map []) [] := ⟨tidy_empty, List.nodup_nil, fun z => rfl, rfl⟩
theorem int_ne {z x : Int} (h : ¬ z = x) : (Lit.int .i64 z) ≠ (Lit.int .i64 x) := fun e => h (by injection e)
theorem addV_mem {S : List Int} {x z : Int} : z ∈ addV S x ↔ z = x ∨ z ∈ S := by
  unfold addV
  split
  · constructor
    · exact .inr
    · rintro (rfl | h) <;> assumption
  · simp [or_comm]
theorem addV_nodup {S : List Int} {x : Int} (h : S.Nodup) : (addV S x).Nodup := by
  unfold addV
  split
  · exact h
  · rename_i hx
    rw [List.nodup_append]
    exact ⟨h, by simp, fun a ha b hb e => by simp at hb; subst hb; subst e; exact hx ha⟩
theorem SetD.put {D : DataW Unit} {S : List Int} (h : SetD D S) (x : Int) : SetD (D.put (.int .i64 x) (.agg [])) (addV S x) := by
  refine ⟨h.tidy.put (k := .int .i64 x) trivial _, addV_nodup h.nd, fun z => ?_, ?_⟩
  · by_cases e : z = x
    · subst e
      rw [has_put_same (k := .int .i64 z) h.tidy.isMap trivial, decide_eq_true (addV_mem.2 (.inl rfl))]
    · rw [has_put_other (int_ne e), h.has]
      congr 1
      rw [addV_mem]
      simp [e]
  · rw [size_put h.tidy, h.has, h.size]
    unfold addV
    by_cases e : x ∈ S
    · simp [e]
    · simp [e]
/-- Without a number. -/
def offV (S : List Int) (x : Int) : List Int := S.filter (fun z => z != x)
theorem offV_mem {S : List Int} {x z : Int} : z ∈ offV S x ↔ z ∈ S ∧ z ≠ x := by simp [offV]
theorem offV_length {S : List Int} (h : S.Nodup) (x : Int) : (offV S x).length + (if x ∈ S then 1 else 0) = S.length := by
  induction S with
  | nil => simp [offV]
  | cons a S ih =>
    obtain ⟨h1, h2⟩ := List.nodup_cons.1 h
    have := ih h2
    unfold offV at *
    by_cases e : a = x
    · subst e
      rw [List.filter_cons_of_neg (by simp)]
      simp [h1] at this ⊢
      omega
    · rw [List.filter_cons_of_pos (by simpa using e)]
      have e' : ¬ x = a := fun h => e h.symm
      simp [e'] at this ⊢
      omega
theorem SetD.del {D : DataW Unit} {S : List Int} (h : SetD D S) (x : Int) : SetD (D.del (.int .i64 x)) (offV S x) := by
  refine ⟨h.tidy.del _, h.nd.filter _, fun z => ?_, ?_⟩
  · by_cases e : z = x
    · subst e
      rw [has_del_same]
      simp [offV_mem]
    · rw [has_del_other (int_ne e), h.has]
      congr 1
      rw [offV_mem]
      simp [e]
  · have h1 := size_del (k := .int .i64 x) h.tidy
    have h2 := offV_length h.nd x
    rw [h.has, h.size] at h1
    by_cases e : x ∈ S
    · simp [e] at h1 h2; omega
    · simp [e] at h1 h2; omega
/-- Nodes that have a spot, each once. -/
def nodesV (l : List Sp) : List Int := homesI (l.map (·.2)) l.length
theorem nodesV_mem {l : List Sp} {z : Int} : z ∈ nodesV l ↔ ∃ s ∈ l, s.2 = z := by
  have : ∀ (vs out : List Int), z ∈ vs.foldl addV out ↔ z ∈ out ∨ z ∈ vs := by
    intro vs
    induction vs with
    | nil => intro out; simp
    | cons v vs ih =>
      intro out
      rw [List.foldl_cons, ih, addV_mem, List.mem_cons]
      constructor
      · rintro ((h | h) | h)
        · exact .inr (.inl h)
        · exact .inl h
        · exact .inr (.inr h)
      · rintro (h | h | h)
        · exact .inl (.inr h)
        · exact .inl (.inl h)
        · exact .inr h
  unfold nodesV homesI
  rw [this, show l.length = (l.map (·.2)).length by simp, List.take_length]
  simp
/-- Each node is a number of the kind. -/
def WfN (l : List Sp) : Prop := ∀ i (h : i < l.length), (Lit.int .i64 l[i].2).wf = true
theorem lawI : Keyed Tryd.prog 3 := int_keyed Tryd.underlying3
theorem zeroU (w : World) : (zeroValue 67).run Tryd.prog w = .ok (.agg #[]) w := by kernel_rfl
/-- A set in the world. -/
def SetW (w : World) (b n : Nat) (S : List Int) : Prop := ∃ D : DataW Unit, w.ownsMap Tryd.prog 3 unitElem b n D ∧ SetD D S
theorem SetW.lt {w : World} {b n : Nat} {S : List Int} (h : SetW w b n S) : b < w.heap.size := by obtain ⟨D, h, _⟩ := h; exact h.lt
theorem SetW.kept {w w' : World} {b n : Nat} {S : List Int} {r : Option Nat} (h : SetW w b n S) (hg : w.grownBy w' r) (hne : some b ≠ r) : SetW w' b n S := by
  obtain ⟨D, h, hd⟩ := h
  exact ⟨D, h.kept hg hne, hd⟩
theorem SetW.later {w w' : World} {b n : Nat} {S : List Int} (h : SetW w b n S) (hb : Below w.heap.size w w') : SetW w' b n S := h.kept (gnew (r := none) hb) (by simp)

set_option maxRecDepth 100000 in
set_option maxHeartbeats 1000000 in
theorem nodesOn_any (ao : Option Addr) (l : List Sp) (ca : Nat) (w : World) (hl : l.length ≤ 1048576) (hA : RdP w ao l) (hw : WfN l) :
    Calls Tryd.prog 41 #[.slice ao l.length ca] w fun e w' => ∃ b, e = .returned (.map (some b)) ∧ w.heap.size ≤ b ∧ SetW w' b l.length (nodesV l) ∧ Below w.heap.size w w' := by
  have hmm := @run_makeMap Tryd.prog
  have HR := hide1 hA
  have HW := hide1 hw
  have HV := hide1 (show ∀ i (h : i < l.length), homesI (l.map (·.2)) (i + 1) = addV (homesI (l.map (·.2)) i) l[i].2 from fun i h => by rw [homesI_next (by simpa using h)]; simp)
  have M0 : Hid (SetW (w.alloc (.map #[] 0)) w.heap.size 0 []) := ⟨_, World.ownsMap_made _ _ _ _, SetD.nil⟩
  have B0 := hide1 ((Below.refl w.heap.size w).alloc (Nat.le_refl _) (.map #[] 0))
  clear hA hw
  go_enter Tryd.func41, Tryd.ntmps41
  go_wp2
  clear hmm
  generalize (w.alloc (.map #[] 0)) = w0 at M0 B0 ⊢
  go_loopw [9] (fun iv wr => ∃ i : Nat, i ≤ l.length ∧ iv = .int .i64 (i : Int) ∧ Hid (SetW wr w.heap.size i (homesI (l.map (·.2)) i)) ∧ Below w.heap.size w wr) (fun iv _ => l.length - (intOf iv).toNat)
  case atStart => exact ⟨0, by omega, rfl, M0, B0.out⟩
  case round =>
    obtain ⟨i, hi, rfl, hM, hbel⟩ := hrel
    have hbs := hbel.size
    by_cases hlt : i < l.length
    · have k1 : (i : Int) < (l.length : Int) := by omega
      obtain ⟨g, rfl, hg, x1, x2⟩ := (HR.out.later hbel).at i hlt
      have hkey : keyOf Tryd.prog 3 (.int .i64 l[i].2) = some (.int .i64 l[i].2) := keyOf_int_mk Tryd.underlying3 (HW.out i hlt)
      have HN := hide1 (HV.out i hlt)
      generalize l[i].1 = z1 at *
      generalize l[i].2 = z2 at *
      obtain ⟨D, hown, hD⟩ := hM.out
      have HD := hide1 hD
      clear hM hD
      go_wp2_with (first
        | (at_mapUpdate; refine wpList_mapUpdate_own _ rfl _ _ _ 66 rfl 3 67 lawI Tryd.underlying66 (unitElem (H := Unit)) w.heap.size i D rfl (hown.alloc _) (by unfold maxLen; omega) _ _ _ rfl rfl hkey _ [] unitElem_mk ?_; intro w1 hown1 hgrow1)
        | go_in)
      go_roundw
      case rel =>
        refine ⟨i + 1, by omega, by go_num, hide1 ⟨_, hown1, ?_⟩, ?_⟩
        · rw [HN.out]
          exact HD.out.put z2
        · exact (hbel.alloc hbs _).grown hgrow1 (by rw [World.size_alloc]; omega) (fun j hj => by cases hj; exact Nat.le_refl _)
      case measure => simp [intOf]; omega
    · obtain rfl : i = l.length := by omega
      go_wp2
      go_ret
      exact ⟨_, rfl, Nat.le_refl _, hM.out, hbel⟩
end Go.Proofs.YtdgpencendphbaaDoor
