/- What the makers answer, with the answer's parts named. -/
import Derived.Test.YtaafofgfeaodhaaQuT2
namespace Go.Proofs.Ytaafofgfeaodhaa
open Go.RowKit

theorem specTouch_own (ao : Option Addr) (l : List ByteArray) (ca : Nat) (m : Int) (k : ByteArray) (w : World) (hl : l.length ≤ 1048576) (hA : RdQ w ao l) {L : List ByteArray} {M : Int} {t : Bool} (hR : touR l m k = ((L, M), t)) :
    Calls Try.prog 24 #[.agg #[.int .i64 m, .slice ao l.length ca], .string k] w fun e w' => ∃ po cp, e = .returned (.tuple #[.agg #[.int .i64 M, .slice po L.length cp], .bool t]) ∧ OwnQ w' w.heap.size po cp L ∧ Below w.heap.size w w' := by
  have := specTouch_any ao l ca m k w hl hA
  rw [hR] at this
  refine this.mono ?_
  rintro e w' ⟨v, rfl, po, cp, rfl, ho, hb⟩
  exact ⟨po, cp, rfl, ho, hb⟩
theorem specDrop_own (ao : Option Addr) (l : List ByteArray) (ca : Nat) (m : Int) (k : ByteArray) (w : World) (hl : l.length ≤ 1048576) (hA : RdQ w ao l) {L : List ByteArray} {M : Int} {t : Bool} (hR : drpR l m k = ((L, M), t)) :
    Calls Try.prog 28 #[.agg #[.int .i64 m, .slice ao l.length ca], .string k] w fun e w' => ∃ po cp, e = .returned (.tuple #[.agg #[.int .i64 M, .slice po L.length cp], .bool t]) ∧ OwnQ w' w.heap.size po cp L ∧ Below w.heap.size w w' := by
  have := specDrop_any ao l ca m k w hl hA
  rw [hR] at this
  refine this.mono ?_
  rintro e w' ⟨v, rfl, po, cp, rfl, ho, hb⟩
  exact ⟨po, cp, rfl, ho, hb⟩
theorem specPush_own (ao : Option Addr) (l : List ByteArray) (ca : Nat) (m : Int) (k : ByteArray) (w : World) (hl : l.length ≤ 1048576) (hA : RdQ w ao l) {L : List ByteArray} {M : Int} {lf : ByteArray} {t : Bool} (hR : pshR l m k = ((L, M), lf, t)) :
    Calls Try.prog 27 #[.agg #[.int .i64 m, .slice ao l.length ca], .string k] w fun e w' => ∃ po cp, e = .returned (.tuple #[.agg #[.int .i64 M, .slice po L.length cp], .string lf, .bool t]) ∧ OwnQ w' w.heap.size po cp L ∧ Below w.heap.size w w' := by
  have := specPush_any ao l ca m k w hl hA
  rw [hR] at this
  refine this.mono ?_
  rintro e w' ⟨v, rfl, po, cp, rfl, ho, hb⟩
  exact ⟨po, cp, rfl, ho, hb⟩
theorem implTouch_own (ao : Option Addr) (l : List ByteArray) (ca : Nat) (m : Int) (k : ByteArray) (w : World) (hl : l.length ≤ 1048576) (hc : l.length ≤ ca) (hcm : ca ≤ maxLen) (hA : RdQ w ao l) {L : List ByteArray} {M : Int} {t : Bool} (hR : touR l m k = ((L, M), t)) :
    Calls Try.prog 12 #[.agg #[.int .i64 m, .slice ao l.length ca], .string k] w fun e w' => ∃ po cp, e = .returned (.tuple #[.agg #[.int .i64 M, .slice po L.length cp], .bool t]) ∧ OwnQ w' w.heap.size po cp L ∧ Below w.heap.size w w' := by
  have := implTouch_any ao l ca m k w hl hc hcm hA
  rw [hR] at this
  refine this.mono ?_
  rintro e w' ⟨v, rfl, po, cp, rfl, ho, hb⟩
  exact ⟨po, cp, rfl, ho, hb⟩
theorem implDrop_own (ao : Option Addr) (l : List ByteArray) (ca : Nat) (m : Int) (k : ByteArray) (w : World) (hl : l.length ≤ 1048576) (hc : l.length ≤ ca) (hcm : ca ≤ maxLen) (hA : RdQ w ao l) {L : List ByteArray} {M : Int} {t : Bool} (hR : drpR l m k = ((L, M), t)) :
    Calls Try.prog 13 #[.agg #[.int .i64 m, .slice ao l.length ca], .string k] w fun e w' => ∃ po cp, e = .returned (.tuple #[.agg #[.int .i64 M, .slice po L.length cp], .bool t]) ∧ OwnQ w' w.heap.size po cp L ∧ Below w.heap.size w w' := by
  have := implDrop_any ao l ca m k w hl hc hcm hA
  rw [hR] at this
  refine this.mono ?_
  rintro e w' ⟨v, rfl, po, cp, rfl, ho, hb⟩
  exact ⟨po, cp, rfl, ho, hb⟩
theorem implPush_own (ao : Option Addr) (l : List ByteArray) (ca : Nat) (m : Int) (k : ByteArray) (w : World) (hl : l.length ≤ 1048576) (hc : l.length ≤ ca) (hcm : ca ≤ maxLen) (hA : RdQ w ao l) {L : List ByteArray} {M : Int} {lf : ByteArray} {t : Bool} (hR : pshR l m k = ((L, M), lf, t)) :
    Calls Try.prog 19 #[.agg #[.int .i64 m, .slice ao l.length ca], .string k] w fun e w' => ∃ po cp, e = .returned (.tuple #[.agg #[.int .i64 M, .slice po L.length cp], .string lf, .bool t]) ∧ OwnQ w' w.heap.size po cp L ∧ Below w.heap.size w w' := by
  have := implPush_any ao l ca m k w hl hc hcm hA
  rw [hR] at this
  refine this.mono ?_
  rintro e w' ⟨v, rfl, po, cp, rfl, ho, hb⟩
  exact ⟨po, cp, rfl, ho, hb⟩
end Go.Proofs.Ytaafofgfeaodhaa
