/- A council that is marked, plain. -/
import Derived.Test.YtmejdblobikclaaCnU
import Derived.Test.YtmejdblobikclaaMkV
import Derived.Test.YtmejdblobikclaaMkN
import Derived.Test.YtmejdblobikclaaIntV
import Derived.Test.YtmejdblobikclaaQuA
namespace Go.Proofs.Ytmejdblobikclaa
open Go.RowKit
set_option linter.unusedVariables false

theorem iz_row (l : List Int) : iz l = rowG izE l := by
  induction l with
  | nil => rfl
  | cons x l ih => show Value.int .i64 x :: iz l = Value.int .i64 x :: rowG izE l; rw [ih]
theorem sc_row (l : List ByteArray) : sc l = rowG txE l := by
  induction l with
  | nil => rfl
  | cons x l ih => show Value.string x :: sc l = Value.string x :: rowG txE l; rw [ih]
theorem rdZ_G {w : World} {a : Option Addr} {l : List Int} (h : RdG izE 1 w a l) : RdZ w a l := by
  intro i hi
  obtain ⟨b, o, h1, h2, h3⟩ := h i hi
  refine ⟨b, o, h1, h2, ?_⟩
  have := h3 0 (by omega)
  rw [Nat.mul_one, Nat.add_zero] at this
  exact this
theorem rdQ_G {w : World} {a : Option Addr} {l : List ByteArray} (h : RdG txE 1 w a l) : RdQ w a l := by
  intro i hi
  obtain ⟨b, o, h1, h2, h3⟩ := h i hi
  refine ⟨b, o, h1, h2, ?_⟩
  have := h3 0 (by omega)
  rw [Nat.mul_one, Nat.add_zero] at this
  exact this
/-- How many numbers the marks of a try take. -/
def tsz (y : Ty) : Nat := 5 + 6 * y.ps.length + y.tk.length
/-- A try that is marked from q on. -/
def mkY (q : Nat) (y : Ty) : Ty := ⟨(q : Int), (q : Int) + 1, mkT (q + 2), patG mN 6 (q + 3) y.ps.length, (((q + 3 + 6 * y.ps.length : Nat) : Int) % 3 == 0), patZ (q + 4 + 6 * y.ps.length) y.tk.length, (((q + 4 + 6 * y.ps.length + y.tk.length : Nat) : Int) % 3 == 0)⟩
def kAt (q : Nat) (L : List Tm) (i : Nat) : Nat := q + ((L.take i).map (fun t => tsz t.y)).sum
theorem kAt_zero (q : Nat) (L : List Tm) : kAt q L 0 = q := by simp [kAt]
theorem kAt_next (q : Nat) (L : List Tm) {i : Nat} {t : Tm} (h : L[i]? = some t) : kAt q L (i + 1) = kAt q L i + tsz t.y := by
  obtain ⟨hi, rfl⟩ := List.getElem?_eq_some_iff.1 h
  unfold kAt
  rw [List.take_succ_eq_append_getElem hi, List.map_append, List.sum_append]
  simp
  omega
theorem kAt_le (q : Nat) (L : List Tm) (m : Nat) (h : ∀ t ∈ L, tsz t.y ≤ m) : ∀ i, i ≤ L.length → kAt q L i ≤ q + i * m
  | 0, _ => by rw [kAt_zero]; omega
  | i + 1, hi => by
    have hq : L[i]? = some L[i] := List.getElem?_eq_getElem (by omega)
    rw [kAt_next q L hq]
    have := kAt_le q L m h i (by omega)
    have := h L[i] (List.getElem_mem _)
    rw [Nat.add_mul]
    omega
/-- Tries of which the first i are marked. -/
def mkL (q : Nat) (L : List Tm) (i : Nat) : List Tm := L.mapIdx (fun j t => if j < i then { t with y := mkY (kAt q L j) t.y } else t)
theorem mkL_length (q : Nat) (L : List Tm) (i : Nat) : (mkL q L i).length = L.length := by simp [mkL]
theorem mkL_zero (q : Nat) (L : List Tm) : mkL q L 0 = L := by
  refine List.ext_getElem? fun j => ?_
  unfold mkL
  rw [List.getElem?_mapIdx]
  cases L[j]? with
  | none => rfl
  | some t => simp
theorem mkL_at (q : Nat) (L : List Tm) (i : Nat) : (mkL q L i)[i]? = L[i]? := by
  unfold mkL
  rw [List.getElem?_mapIdx]
  cases L[i]? with
  | none => rfl
  | some t => simp
theorem mkL_lt (q : Nat) (L : List Tm) {i j : Nat} {t : Tm} (h : j < i) (ht : L[j]? = some t) : (mkL q L i)[j]? = some { t with y := mkY (kAt q L j) t.y } := by
  unfold mkL
  rw [List.getElem?_mapIdx, ht]
  simp [h]
theorem mkL_next (q : Nat) (L : List Tm) {i : Nat} {t : Tm} (h : L[i]? = some t) : (mkL q L i).set i { t with y := mkY (kAt q L i) t.y } = mkL q L (i + 1) := by
  refine List.ext_getElem? fun j => ?_
  have hi : i < (mkL q L i).length := by rw [mkL_length]; exact (List.getElem?_eq_some_iff.1 h).1
  rw [getL_set hi]
  unfold mkL
  rw [List.getElem?_mapIdx, List.getElem?_mapIdx]
  by_cases e : j = i
  · subst e
    rw [if_pos rfl, h]
    simp
  · rw [if_neg e]
    cases L[j]? with
    | none => rfl
    | some u =>
      simp only [Option.map_some]
      by_cases e1 : j < i
      · rw [if_pos e1, if_pos (by omega)]
      · rw [if_neg e1, if_neg (by omega)]
theorem set_same {xs : List Value} {m : Nat} {v : Value} (h : xs[m]? = some v) : xs.set m v = xs := by
  obtain ⟨hm, rfl⟩ := List.getElem?_eq_some_iff.1 h
  exact List.set_getElem_self hm
/-- Five of a try's seven cells are stored, the others are what they were. -/
theorem set5of7 {L : List Tm} {i : Nat} {t u : Tm} (hq : L[i]? = some t) (hp : tmC u = [.int .i64 u.y.i, .int .i64 u.y.b, .string u.y.v, .slice t.pa t.y.ps.length t.pc, .bool u.y.as, .slice t.ka t.y.tk.length t.kc, .bool u.y.ch]) :
    (((((rowG tmC L).set (i * 7) (.int .i64 u.y.i)).set (i * 7 + 1) (.int .i64 u.y.b)).set (i * 7 + 2) (.string u.y.v)).set (i * 7 + 4) (.bool u.y.as)).set (i * 7 + 6) (.bool u.y.ch) = rowG tmC (L.set i u) := by
  obtain ⟨hi, rfl⟩ := List.getElem?_eq_some_iff.1 hq
  have h3 := rowG_at tmC 7 encT.len L i 3 hi (by decide)
  have h5 := rowG_at tmC 7 encT.len L i 5 hi (by decide)
  rw [rowG_set tmC 7 encT.len L i u hi, hp]
  have e3 : ((((rowG tmC L).set (i * 7) (.int .i64 u.y.i)).set (i * 7 + 1) (.int .i64 u.y.b)).set (i * 7 + 2) (.string u.y.v))[i * 7 + 3]? = some (.slice L[i].pa L[i].y.ps.length L[i].pc) := by
    rw [List.getElem?_set_ne (by omega), List.getElem?_set_ne (by omega), List.getElem?_set_ne (by omega), h3]
    rfl
  have e5 : (((((rowG tmC L).set (i * 7) (.int .i64 u.y.i)).set (i * 7 + 1) (.int .i64 u.y.b)).set (i * 7 + 2) (.string u.y.v)).set (i * 7 + 4) (.bool u.y.as))[i * 7 + 5]? = some (.slice L[i].ka L[i].y.tk.length L[i].kc) := by
    rw [List.getElem?_set_ne (by omega), List.getElem?_set_ne (by omega), List.getElem?_set_ne (by omega), List.getElem?_set_ne (by omega), h5]
    rfl
  show _ = (((((((rowG tmC L).set (i * 7) (.int .i64 u.y.i)).set (i * 7 + 1) (.int .i64 u.y.b)).set (i * 7 + 2) (.string u.y.v)).set (i * 7 + 3) _).set (i * 7 + 4) (.bool u.y.as)).set (i * 7 + 5) _).set (i * 7 + 6) (.bool u.y.ch)
  rw [set_same e3, set_same e5]
end Go.Proofs.Ytmejdblobikclaa
