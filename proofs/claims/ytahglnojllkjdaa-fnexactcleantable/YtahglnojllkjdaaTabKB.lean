/- Cells sorted by their keys, by the program. -/
import Derived.Test.YtahglnojllkjdaaTabKA
import Derived.Test.YtahglnojllkjdaaSort
namespace Go.Proofs.Ytahglnojllkjdaa
open Go.RowKit Go.Shelf
open Go.Sort (HoldsK flatK size_flatK get_flatK putRowK)

/-- What the program compares. -/
def cfC (x y : Ce) : Int := Lib.compareBytes x.key.data.toList y.key.data.toList
theorem cfC_lt (x y : Ce) : ltOf cfC x y = kLt x.key y.key := by
  unfold ltOf cfC kLt
  have h := cmp_less x.key.toList y.key.toList
  rw [ByteArray.toList_eq, ByteArray.toList_eq] at h ⊢
  cases e : Op.bytesLess x.key.data.toList y.key.data.toList with
  | true => exact decide_eq_true (h.2 e)
  | false => exact decide_eq_false (fun h' => by rw [h.1 h'] at e; cases e)
theorem swoC : Go.Sort.SWO (ltOf cfC) where
  irrefl x := by rw [cfC_lt]; exact kLt_irr _
  trans x y z h1 h2 := by rw [cfC_lt] at *; exact kLt_trans h1 h2
  ntrans x y z h1 h2 := by
    rw [cfC_lt] at *
    cases e : kLt x.key z.key with
    | false => rfl
    | true =>
      by_cases e1 : kLt y.key x.key = true
      · have := kLt_trans e1 e
        rw [h2] at this
        cases this
      · have e1 : kLt y.key x.key = false := by simpa using e1
        have := kLt_tri h1 e1
        rw [this, h2] at e
        cases e

set_option maxRecDepth 100000 in
set_option maxHeartbeats 1000000 in
theorem closureC (x y : Ce) (W : World) : Calls Try.prog 77 #[.agg #[.string x.key, .int .i64 x.h], .agg #[.string y.key, .int .i64 y.h]] W fun e w' => e = .returned (.int .i64 (cfC x y)) ∧ ∃ q os', w' = Go.Sort.grow (W.drewN q) os' := by
  have hcon := fun W' => Any.strings_Compare strCmp x.key y.key W'
  change ∀ W', Calls Try.prog 78 _ _ _ at hcon
  have hc : Lib.compareBytes x.key.data.toList y.key.data.toList = cfC x y := rfl
  rw [hc] at hcon
  generalize cfC x y = r at hcon ⊢
  clear hc
  go_enter Try.func77, Try.ntmps77
  go_wp2_with (go_at_call 78; refine (hcon _).mono ?_; rintro e w' ⟨rfl, rfl⟩)
  go_ret
  exact ⟨rfl, 0, _, by rw [Go.Sort.alloc_eq_grow, Go.Sort.alloc_eq_grow, Go.Sort.grow_grow]; rfl⟩

theorem cmpLaysC (blk off size : Nat) (w : World) : CmpLays Try.prog 77 #[] ceC 2 cfC blk off size w :=
  fun _ _ _ _ x y => closureC x y _
theorem Try.aggCell : ∀ w, (isAgg 65).run Try.prog w = .ok true w := Try.isAgg65
theorem Try.sizeCell : ∀ w, (Go.sizeOf 65).run Try.prog w = .ok 2 w := Try.sizeOf65

theorem holds_of_own {w : World} {base n cap blk : Nat} {L : List Ce} (h : w.ownsRow base 65 2 (.slice (some ⟨blk, 0, none⟩) n cap) n (ces L)) (hn : L.length = n) : HoldsK ceC 2 w blk 0 L.toArray := by
  intro j hj
  rw [size_flatK] at hj
  have hj' : j < L.length * 2 := by simpa using hj
  have hi : j / 2 < L.length := by omega
  have h5 : j % 2 < 2 := Nat.mod_lt _ (by decide)
  refine ⟨?_, ?_⟩
  · rw [Nat.zero_add, h.cellAt j (by omega), get_flatK _ _ _ _ hj]
    have e := ces_at L (j / 2) (j % 2) hi h5
    rw [show j / 2 * 2 + j % 2 = j by omega] at e
    rw [e, getElem!_pos L.toArray (j / 2) (by simpa using hi)]
    simp only [List.getElem_toArray, id]
    rw [List.getElem?_eq_getElem (by rw [ceC_length]; exact h5), getElem!_pos (ceC L[j / 2]) (j % 2) (by rw [ceC_length]; exact h5)]
  · exact h.frozenAt _
theorem rd_of_holds {w : World} {blk : Nat} {L : List Ce} (h : HoldsK ceC 2 w blk 0 L.toArray) (hb : blk < w.heap.size) : RdJ w (some ⟨blk, 0, none⟩) L := by
  intro i hi
  have k : ∀ j, j < 2 → w.cell? ⟨blk, 0 + i * 2 + j, none⟩ = (ceC L[i])[j]? := by
    intro j hj
    have hs : i * 2 + j < (flatK ceC 2 L.toArray).size := by rw [size_flatK]; simp; omega
    have := (h (i * 2 + j) hs).1
    rw [show 0 + i * 2 + j = 0 + (i * 2 + j) by omega, this, get_flatK _ _ _ _ (by simp; omega), show (i * 2 + j) / 2 = i by omega, show (i * 2 + j) % 2 = j by omega, getElem!_pos L.toArray i (by simpa using hi)]
    simp only [List.getElem_toArray, id]
    rw [getElem!_pos (ceC L[i]) j (by rw [ceC_length]; exact hj), List.getElem?_eq_getElem (by rw [ceC_length]; exact hj)]
  exact ⟨blk, 0, rfl, hb, k 0 (by decide), k 1 (by decide)⟩
theorem sorted_below {w : World} {blk n B : Nat} {d : Array Ce} {os : Array Obj} (hB : B ≤ blk) (hs : blk < w.heap.size) : Below B w (sortWorldK ceC 2 w blk 0 n d os) := by
  refine ⟨rfl, rfl, rfl, size_sortWorldK_c ceC 2 w blk 0 n d os, fun k hk => ?_⟩
  unfold sortWorldK putRowK Go.Sort.putRow Go.Sort.mapBlock Go.Sort.grow Go.Sort.ahead
  simp only []
  rw [Array.getElem?_append_left (by simp; omega), Array.getElem?_modify, if_neg (by omega)]

/-- Sorted by 'slices.SortFunc': the list in its order. -/
theorem sort_any (E : List Ce) (base blk cap : Nat) (w : World) (hd : Dis E) (h : w.ownsRow base 65 2 (.slice (some ⟨blk, 0, none⟩) E.length cap) E.length (ces E)) (hl : E.length ≤ 1048576) :
    Calls Try.prog 76 #[.slice (some ⟨blk, 0, none⟩) E.length cap, .func (.func 77) #[] #[]] w fun e w' => e = .returned (.tuple #[]) ∧ RdJ w' (some ⟨blk, 0, none⟩) (sortE E) ∧ Below base w w' := by
  have hb := h.lt blk rfl
  have hH := holds_of_own h rfl
  have eg : ∀ args w, (callFunc 77 args).run Try.prog w = .ok (.enter 77 args) w := enters_of Try.func77 (by kernel_rfl) rfl
  have hcon := AnyQ.slices_SortFunc sortC 2 Try.aggCell Try.sizeCell ceC (fun _ => rfl) (fun x v hv => by simp [ceC] at hv; rcases hv with rfl | rfl <;> rfl) cfC swoC 77 #[] blk 0 cap E.toArray w eg (cmpLaysC blk 0 _ w) hH hb.2 (by simp; omega)
  change Calls Try.prog 76 _ _ _ at hcon
  have es : E.toArray.size = E.length := by simp
  rw [es] at hcon
  refine hcon.mono ?_
  rintro e w' ⟨rfl, d', n, os, hp, hs, rfl⟩
  have hsz : d'.size = E.length := by rw [hp.1]; simp
  have hperm : d'.toList.Perm E := by
    have := hp.2.2
    rw [← es] at this
    rw [show E.toArray.size = d'.size from hp.1.symm, Array.extract_size] at this
    rw [show d'.size = E.toArray.size from hp.1, Array.extract_size] at this
    simpa using this
  have hdis : Dis d'.toList := by
    unfold Dis at hd ⊢
    exact hd.perm hperm.symm (fun {x y} h e => h e.symm)
  have hasc : Asc d'.toList := by
    unfold Asc
    unfold Dis at hdis
    rw [List.pairwise_iff_getElem] at hdis ⊢
    intro i j hi hj hij
    have hi' : i < d'.size := by simpa using hi
    have hj' : j < d'.size := by simpa using hj
    have h1 := hs i j (Nat.zero_le _) hij (by omega)
    rw [cfC_lt, getElem!_pos d' i hi', getElem!_pos d' j hj'] at h1
    have h2 := hdis i j hi hj hij
    simp only [Array.getElem_toList] at h2 ⊢
    cases e : kLt d'[i].key d'[j].key with
    | true => rfl
    | false => exact absurd (kLt_tri e h1) h2
  have he : d' = (sortE E).toArray := by
    obtain ⟨h1, h2⟩ := sortE_asc hd
    have := asc_one hasc h1 (hperm.trans h2.symm)
    rw [← this]
  refine ⟨rfl, ?_, sorted_below hb.1 hb.2⟩
  have hH' := holdsK_sortWorldK_c ceC 2 w blk 0 E.toArray d' n os hH hb.2 hp.1
  rw [he] at hH' ⊢
  exact rd_of_holds hH' (Nat.lt_of_lt_of_le hb.2 (size_sortWorldK_c ceC 2 w blk 0 n _ os))
theorem sort_none (w : World) : Calls Try.prog 76 #[.slice none 0 0, .func (.func 77) #[] #[]] w fun e w' => e = .returned (.tuple #[]) ∧ w' = w := by
  have hcon := AnyF.slices_SortFunc_none sortC none 0 (.func (.func 77) #[] #[]) w
  change Calls Try.prog 76 _ _ _ at hcon
  exact hcon
end Go.Proofs.Ytahglnojllkjdaa
