/- Empty texts. -/
import Derived.Test.YtelmchifpgaibaaDoorSAA
import Derived.Test.YtelmchifpgaibaaDoorGrP
import Derived.Test.YtelmchifpgaibaaDoorSAG
import Derived.Test.YtelmchifpgaibaaDoorSAH
import Derived.Test.YtelmchifpgaibaaDoorParts
import Derived.Test.YtelmchifpgaibaaDoorSAC
import Derived.Lib.Split
import Derived.Test.YtelmchifpgaibaaDoorSAF
import Derived.Test.YtelmchifpgaibaaDoorSAD
import Derived.Deep.SlicePairs
import Derived.Lib.SmallJoins
import Derived.ProofKit
import Derived.OpenShut
import Derived.Test.YtelmchifpgaibaaDoorSAJ
import Derived.Deep.DeepCutAuto
namespace Go.Proofs.YtelmchifpgaibaaDoor
open Go.RowKit

theorem bytes_nil {b : ByteArray} (h : b.toList = []) : b = ⟨#[]⟩ := by
  rw [ByteArray.toList_eq] at h
  obtain ⟨d⟩ := b
  congr 1
  exact Array.toList_eq_nil_iff.1 h
theorem bytes_isE {b : ByteArray} (h : b = ⟨#[]⟩) : b.toList.isEmpty = true ∧ b.toList = [] := by subst h; rw [ByteArray.toList_eq]; exact ⟨rfl, rfl⟩
theorem bytes_isN {b : ByteArray} (h : b ≠ ⟨#[]⟩) : b.toList.isEmpty = false ∧ ¬ b.toList = [] := by cases e : b.toList with | nil => exact absurd (bytes_nil e) h | cons a c => exact ⟨rfl, by simp⟩
end Go.Proofs.YtelmchifpgaibaaDoor
namespace Go.Proofs.YtelmchifpgaibaaDoor
open Go.RowKit
set_option linter.unusedVariables false

def evC (x : Ev) : List Value := [.int .i64 x.k, .int .i64 x.n, .int .i64 x.pl, .int .i64 x.op, .string x.key, .string x.val]
theorem encEv : EncK evC 6 := ⟨fun _ => rfl, fun x u hu => by simp only [evC, List.mem_cons, List.not_mem_nil, or_false] at hu; rcases hu with rfl | rfl | rfl | rfl | rfl | rfl <;> rfl⟩
theorem Tryd.infoEv : (Tryd.prog.info? 40).map (fun i => (i.zero, i.size, i.bytes)) = some (some (.agg #[.int .i64 0, .int .i64 0, .int .i64 0, .int .i64 0, .string ⟨#[]⟩, .string ⟨#[]⟩]), 6, 64) := by kernel_rfl
theorem rowEv : RowK Tryd.prog 23 40 6 := rowK_mk Tryd.underlying23 Tryd.infoEv rfl (by decide) (by decide)
end Go.Proofs.YtelmchifpgaibaaDoor
namespace Go.Proofs.YtelmchifpgaibaaDoor
open Go.RowKit
set_option linter.unusedVariables false

/-- Where the next piece begins, and the pieces, once i places have been gone through: a text cut at the byte c. -/
def cuS (c : Nat) (s : ByteArray) : Nat → Nat × List ByteArray
  | 0 => (0, [])
  | i + 1 => if i < s.size ∧ byt s i ≠ c then cuS c s i else (i + 1, (cuS c s i).2 ++ [s.extract (cuS c s i).1 i])
theorem cuS_skip {c : Nat} {s : ByteArray} {i b : Nat} {l : List ByteArray} (e : (b, l) = cuS c s i) (h : i < s.size) (hb : ¬ byt s i = c) : (b, l) = cuS c s (i + 1) := by
  rw [cuS, if_pos ⟨h, hb⟩, e]
theorem cuS_part {c : Nat} {s : ByteArray} {i b : Nat} {l : List ByteArray} (e : (b, l) = cuS c s i) (h : ¬ (i < s.size ∧ byt s i ≠ c)) : (i + 1, l ++ [s.extract b i]) = cuS c s (i + 1) := by
  rw [cuS, if_neg h, ← e]
theorem cuS_le (c : Nat) (s : ByteArray) : ∀ i, (cuS c s i).1 ≤ i ∧ (cuS c s i).2.length ≤ i
  | 0 => ⟨Nat.le_refl _, Nat.le_refl _⟩
  | i + 1 => by
    have h := cuS_le c s i
    rw [cuS]
    split
    · omega
    · dsimp only; rw [List.length_append, List.length_cons, List.length_nil]; omega
theorem cuS_grows (c : Nat) (s : ByteArray) (i : Nat) : ∀ j, ∃ m, (cuS c s (i + j)).2 = (cuS c s i).2 ++ m
  | 0 => ⟨[], by simp⟩
  | j + 1 => by
    obtain ⟨m, hm⟩ := cuS_grows c s i j
    show ∃ m, (cuS c s (i + j + 1)).2 = (cuS c s i).2 ++ m
    rw [cuS]
    split
    · exact ⟨m, hm⟩
    · dsimp only; exact ⟨m ++ [s.extract (cuS c s (i + j)).1 (i + j)], by rw [hm, List.append_assoc]⟩
theorem cuS_size (c : Nat) (s : ByteArray) : ∀ i, ∀ x ∈ (cuS c s i).2, x.size ≤ s.size
  | 0 => fun x hx => by simp [cuS] at hx
  | i + 1 => fun x hx => by
    rw [cuS] at hx
    split at hx
    · exact cuS_size c s i x hx
    · rcases List.mem_append.1 hx with h | h
      · exact cuS_size c s i x h
      · rw [List.mem_singleton.1 h, ByteArray.size_extract]; omega
/-- The lines of a text: the last one may go without its end. -/
def linesL (s : ByteArray) : List ByteArray := if (cuS 10 s s.size).1 < s.size then (cuS 10 s s.size).2 ++ [s.extract (cuS 10 s s.size).1 s.size] else (cuS 10 s s.size).2
theorem linesL_le (s : ByteArray) : (linesL s).length ≤ s.size := by
  have h := cuS_le 10 s s.size
  unfold linesL
  split
  · rename_i h2
    have h3 : (cuS 10 s s.size).2.length ≤ (cuS 10 s s.size).1 := by
      have : ∀ i, (cuS 10 s i).2.length ≤ (cuS 10 s i).1 := by
        intro i
        induction i with
        | zero => exact Nat.le_refl _
        | succ i ih =>
          have hh := cuS_le 10 s i
          rw [cuS]
          split
          · exact ih
          · dsimp only; rw [List.length_append, List.length_cons, List.length_nil]; omega
      exact this _
    rw [List.length_append, List.length_cons, List.length_nil]
    omega
  · exact h.2
theorem linesL_size (s : ByteArray) : ∀ x ∈ linesL s, x.size ≤ s.size := by
  intro x hx
  unfold linesL at hx
  split at hx
  · rcases List.mem_append.1 hx with h | h
    · exact cuS_size _ _ _ x h
    · rw [List.mem_singleton.1 h, ByteArray.size_extract]; omega
  · exact cuS_size _ _ _ x hx
def piecesL (s : ByteArray) : List ByteArray := (cuS 44 s (s.size + 1)).2
theorem piecesL_size (s : ByteArray) : ∀ x ∈ piecesL s, x.size ≤ s.size := cuS_size _ _ _
def numOf (s : ByteArray) : Int := (dN (byt s) s.size : Int)
def numsL : List ByteArray → Option (List Int)
  | [] => some []
  | x :: r => if rdB x = true then (numsL r).map (numOf x :: ·) else none
theorem numsL_append : ∀ (l m : List ByteArray), numsL (l ++ m) = (numsL l).bind fun v => (numsL m).map (v ++ ·)
  | [], m => by simp [numsL]
  | x :: r, m => by
    show (if rdB x = true then (numsL (r ++ m)).map (numOf x :: ·) else none) = _
    rw [numsL_append r m, numsL]
    split
    · cases numsL r <;> cases numsL m <;> simp
    · rfl
theorem numsL_yes {l : List ByteArray} {v : List Int} (h : numsL l = some v) {x : ByteArray} (hx : rdB x = true) : numsL (l ++ [x]) = some (v ++ [numOf x]) := by
  rw [numsL_append, h]; simp [numsL, hx]
theorem numsL_no {l : List ByteArray} {v : List Int} (h : numsL l = some v) {x : ByteArray} (hx : rdB x = false) (m : List ByteArray) : numsL (l ++ [x] ++ m) = none := by
  rw [numsL_append, numsL_append, h]; simp [numsL, hx]
theorem numsL_len : ∀ {l : List ByteArray} {v : List Int}, numsL l = some v → v.length = l.length
  | [], v, h => by injection h with h; subst h; rfl
  | x :: r, v, h => by
    rw [numsL] at h
    split at h
    · cases hr : numsL r with
      | none => rw [hr] at h; simp at h
      | some u => rw [hr] at h; simp at h; subst h; simp [numsL_len hr]
    · simp at h
def viewOf (s : ByteArray) : Option (List Int) := numsL (piecesL s)
/-- Without a number that may not be read, at place i: none. -/
theorem viewOf_no {s : ByteArray} {i b : Nat} {l : List ByteArray} {v : List Int} (e : (b, l) = cuS 44 s i) (hn : numsL l = some v) (h : ¬ (i < s.size ∧ byt s i ≠ 44)) (hi : i ≤ s.size) (hx : rdB (s.extract b i) = false) : viewOf s = none := by
  have h1 := cuS_part e h
  obtain ⟨m, hm⟩ := cuS_grows 44 s (i + 1) (s.size - i)
  unfold viewOf piecesL
  rw [show s.size + 1 = i + 1 + (s.size - i) by omega, hm, ← h1]
  exact numsL_no hn hx m
def wView : ByteArray := ⟨#[118, 105, 101, 119]⟩
def wPut : ByteArray := ⟨#[112, 117, 116]⟩
def wGet : ByteArray := ⟨#[103, 101, 116]⟩
def wDeliver : ByteArray := ⟨#[100, 101, 108, 105, 118, 101, 114]⟩
def wDrop : ByteArray := ⟨#[100, 114, 111, 112]⟩
def wCopy : ByteArray := ⟨#[99, 111, 112, 121]⟩
def wAdopt : ByteArray := ⟨#[97, 100, 111, 112, 116]⟩
def wFall : ByteArray := ⟨#[102, 97, 108, 108]⟩
/-- What has been read: views and events. -/
structure Sc where
  vs : List (List Int)
  es : List Ev
def viewSc (st : Sc) (t : ByteArray) : Option Sc :=
  match viewOf t with
  | none => none
  | some v => if st.es = [] ∧ okViews (st.vs ++ [v]) then some ⟨st.vs ++ [v], st.es⟩ else none
def evSc (st : Sc) (e : Ev) : Option Sc := if (okEv e ∧ st.vs ≠ []) ∧ st.es.length ≠ 70 then some ⟨st.vs, st.es ++ [e]⟩ else none
/-- The event of a line of an event's word; none when it has none. -/
def evOf (p : List ByteArray) : Option Ev :=
  match p with
  | [w, n] => if rdB n = true then (if w = wDeliver then some ⟨2, 1, numOf n, 0, ⟨#[]⟩, ⟨#[]⟩⟩ else if w = wDrop then some ⟨3, 1, numOf n, 0, ⟨#[]⟩, ⟨#[]⟩⟩ else if w = wCopy then some ⟨4, 1, numOf n, 0, ⟨#[]⟩, ⟨#[]⟩⟩ else if w = wAdopt then some ⟨5, numOf n, 0, 0, ⟨#[]⟩, ⟨#[]⟩⟩ else if w = wFall then some ⟨6, numOf n, 0, 0, ⟨#[]⟩, ⟨#[]⟩⟩ else none) else none
  | [w, n, k] => if w = wGet ∧ rdB n = true then some ⟨1, numOf n, 0, 2, k, ⟨#[]⟩⟩ else none
  | [w, n, k, v] => if w = wPut ∧ rdB n = true then some ⟨1, numOf n, 0, 1, k, v⟩ else none
  | _ => none
def isView (p : List ByteArray) : Bool := p.length == 2 && p.getD 0 ⟨#[]⟩ == wView
def partsSc (st : Sc) (p : List ByteArray) : Option Sc :=
  if isView p = true then viewSc st (p.getD 1 ⟨#[]⟩) else
  match evOf p with
  | none => none
  | some e => evSc st e
def remark (p : List ByteArray) : Bool := p.isEmpty || byt (p.getD 0 ⟨#[]⟩) 0 == 35
def lineSc (st : Sc) (l : ByteArray) : Option Sc :=
  if partsB l = false then none else if remark (partsL l) = true then some st else partsSc st (partsL l)
/-- What the lines from place k on do: the first fault's line, 0 where there is none. -/
def scan : List ByteArray → Nat → Sc → Sc × Nat
  | [], _, st => (st, 0)
  | l :: r, k, st => match lineSc st l with
    | none => (⟨[], []⟩, k + 1)
    | some st' => scan r (k + 1) st'
theorem scan_end {L : List ByteArray} {i : Nat} {st : Sc} {R : Sc × Nat} (h : scan (L.drop i) i st = R) (hi : i = L.length) : R = (st, 0) := by
  subst hi; rw [List.drop_length] at h; exact h.symm
theorem scan_next {L : List ByteArray} {i : Nat} {st st' : Sc} {R : Sc × Nat} (h : scan (L.drop i) i st = R) (hi : i < L.length) (hl : lineSc st L[i] = some st') : scan (L.drop (i + 1)) (i + 1) st' = R := by
  rw [List.drop_eq_getElem_cons hi, scan, hl] at h; exact h
theorem scan_stop {L : List ByteArray} {i : Nat} {st : Sc} {R : Sc × Nat} (h : scan (L.drop i) i st = R) (hi : i < L.length) (hl : lineSc st L[i] = none) : R = (⟨[], []⟩, i + 1) := by
  rw [List.drop_eq_getElem_cons hi, scan, hl] at h; exact h.symm
/-- What ReadScript answers. -/
def scrS (s : ByteArray) : Sc × Int :=
  if 4000 < s.size ∨ 100 < (linesL s).length then (⟨[], []⟩, -1)
  else if (scan (linesL s) 0 ⟨[], []⟩).2 ≠ 0 then (⟨[], []⟩, ((scan (linesL s) 0 ⟨[], []⟩).2 : Int))
  else if (scan (linesL s) 0 ⟨[], []⟩).1.vs = [] then (⟨[], []⟩, 1) else ((scan (linesL s) 0 ⟨[], []⟩).1, 0)
/-- What holds of what has been read. -/
structure Sc.Ok (st : Sc) : Prop where
  n : st.vs.length ≤ 9
  v : ∀ v ∈ st.vs, v.length ≤ 4
  e : st.es.length ≤ 70
theorem Sc.Ok.view {st st' : Sc} {t : ByteArray} (h : st.Ok) (e : viewSc st t = some st') : st'.Ok := by
  unfold viewSc at e
  split at e
  · exact absurd e (by simp)
  · rename_i v hv
    split at e
    · rename_i hc
      injection e with e
      subst e
      obtain ⟨_, h1, h2, h3⟩ := hc
      exact ⟨h3, fun v hv => (h1 v hv).1.2, h.e⟩
    · exact absurd e (by simp)
theorem Sc.Ok.ev {st st' : Sc} {x : Ev} (h : st.Ok) (e : evSc st x = some st') : st'.Ok := by
  unfold evSc at e
  split at e
  · rename_i hc
    injection e with e
    subst e
    have := h.e
    exact ⟨h.n, h.v, by rw [List.length_append, List.length_cons, List.length_nil]; have := hc.2; omega⟩
  · exact absurd e (by simp)
theorem Sc.Ok.line {st st' : Sc} {l : ByteArray} (h : st.Ok) (e : lineSc st l = some st') : st'.Ok := by
  unfold lineSc at e
  split at e
  · exact absurd e (by simp)
  · split at e
    · injection e with e; subst e; exact h
    · unfold partsSc at e
      split at e
      · exact h.view e
      · split at e
        · exact absurd e (by simp)
        · exact h.ev e
end Go.Proofs.YtelmchifpgaibaaDoor
namespace Go.Proofs.YtelmchifpgaibaaDoor
open Go.ChangeShapes Go.WideShapes Go.ChangeAt Go.RowKit Go.Deep Go.Joins

set_option maxRecDepth 100000 in
theorem open_ints {H : Type} {enc : TypeId × Value → H} {w : World} {base fuel : Nat} {sp : Nat → Bool} {held : Bool} {cs : List Value} {x : DataW H × List MemPlace} (h : DataW.trod enc Tryd.prog w base sp held fuel 35 cs = some x) :
    ∃ (ao : Option Addr) (l : List Int) (ca : Nat), cs = [.slice ao l.length ca] ∧ RdZ w ao l ∧ l.length ≤ maxLen := by
  rcases open_slice Tryd.underlying35 h with ⟨rfl, _⟩ | ⟨a, len, cap, m, n, D, Pl, rfl, hb, hl, hm, hmm, _, hx⟩
  · exact ⟨none, [], 0, rfl, fun i hi => by simp at hi, Nat.zero_le _⟩
  have hlm : len ≤ m := by rw [hmm]; split <;> omega
  have hc : Tryd.prog.cellsOf 3 = 1 := by kernel_rfl
  have each : ∀ i, i < m → ∃ s : Int, w.cell? ((a.add (i * 1)).add 0) = some (.int .i64 s) := by
    intro i hi
    obtain ⟨cs', h1, h2⟩ := hx i hi
    rw [hc] at h1
    obtain ⟨_, hlen, hcell⟩ := World.cells?_some h1
    obtain ⟨s, e, _, _⟩ := DataW.trod_int Tryd.underlying3 h2
    refine ⟨s, ?_⟩
    rw [hcell 0 (by omega), e]
    rfl
  obtain ⟨S, hS⟩ := choose_lt each
  refine ⟨some a, (List.range len).map S, cap, by simp, ?_, by simp; omega⟩
  intro i hi
  have hi' : i < len := by simpa using hi
  have hci := hS i (by omega)
  obtain ⟨b, o, spot⟩ := a
  have hspot : spot = none := by
    have := hS 0 (by omega)
    simpa [Addr.add] using World.cell?_spot this
  subst hspot
  simp only [Addr.add_lit, Nat.mul_one, Nat.add_zero] at hci
  refine ⟨b, o, rfl, World.block_lt_of_cell? w _ hci, ?_⟩
  simp only [List.getElem_map, List.getElem_range]
  exact hci

set_option maxRecDepth 100000 in
theorem open_intsV {H : Type} {enc : TypeId × Value → H} {w : World} {r : Reach} {b0 base : Nat} {sp : Nat → Bool} {held : Bool} {v : Value} {d : DataW H} {p : List MemPlace} (hv : Value.okWide Tryd.prog w r b0 35 v) (h : DataW.Trod enc Tryd.prog w base sp held 35 v d p) :
    ∃ (ao : Option Addr) (l : List Int) (ca : Nat), v = .slice ao l.length ca ∧ RdZ w ao l ∧ l.length ≤ maxLen := by
  obtain ⟨a0, len0, cap0, rfl⟩ := okWide_slice Tryd.underlying35 hv
  obtain ⟨n, h0⟩ := h
  obtain ⟨ao, l, ca, e0, hR, hl⟩ := open_ints h0
  simp [Value.cells] at e0
  obtain ⟨rfl, rfl, rfl⟩ := e0
  exact ⟨_, l, _, rfl, hR, hl⟩

/-- A row of numbers that is the call's own, behind a bound. -/
def OwnK (w : World) (B : Nat) (ao : Option Addr) (c : Nat) (L : List Int) : Prop := w.ownsRow B 3 1 (.slice ao L.length c) L.length (iz L)
theorem OwnK.rd {w : World} {B c : Nat} {ao : Option Addr} {L : List Int} (h : OwnK w B ao c L) : RdZ w ao L := rdZ_of_own h
theorem OwnK.later {w w' : World} {B c : Nat} {ao : Option Addr} {L : List Int} (h : OwnK w B ao c L) (hb : Below w.heap.size w w') : OwnK w' B ao c L := own_kept h hb
theorem OwnK.base {w : World} {B B' c : Nat} {ao : Option Addr} {L : List Int} (h : OwnK w B ao c L) (hB : B' ≤ B) : OwnK w B' ao c L := own_base h hB
theorem OwnK.lt {w : World} {B c : Nat} {ao : Option Addr} {L : List Int} (h : OwnK w B ao c L) : ∀ g, (Value.slice ao L.length c).ownBlock = some g → B ≤ g ∧ g < w.heap.size := fun g e => World.ownsRow.lt h g e
theorem eqIntS_own (a b : Option Addr) (l : List Int) (ca cb : Nat) (w : World) (hl : l.length ≤ 1048576) (ha : RdZ w a l) (hb : RdZ w b l) :
    Calls Tryd.prog 19 #[.slice a l.length ca, .slice b l.length cb] w fun e w' => e = .returned (.bool true) ∧ Below w.heap.size w w' := by
  refine (eqIntS_any a b l l ca cb w hl ha hb).mono ?_
  rintro e w' ⟨x, rfl, hx, hb⟩
  rw [hx.2 rfl]
  exact ⟨rfl, hb⟩
theorem markIntS_own (ao : Option Addr) (c B : Nat) (l : List Int) (w : World) (hn : l.length ≤ 1048576) (hown : OwnK w B ao c l) :
    Calls Tryd.prog 21 #[.slice ao l.length c, .int .i64 1] w fun e w' => e = .returned (.int .i64 (1 + (l.length : Int))) ∧ RdZ w' ao (patZ 1 l.length) ∧ w.grownBy w' (Value.slice ao l.length c).ownBlock := by
  refine (markIntS_any ao c 1 B l w hn (by omega) hown).mono ?_
  rintro e w' ⟨rfl, h1, h2⟩
  rw [← patZ_length 1 l.length] at h1
  exact ⟨rfl, rdZ_of_own (by simpa [patZ_length] using h1), h2⟩
theorem heldIntS_own (ao : Option Addr) (n ca : Nat) (w : World) (hn : n ≤ 1048576) (hA : RdZ w ao (patZ 1 n)) :
    Calls Tryd.prog 23 #[.slice ao n ca, .int .i64 1] w fun e w' => e = .returned (.int .i64 (1 + (n : Int))) ∧ w' = w := heldIntS_any ao n ca 1 w hn (by omega) hA
end Go.Proofs.YtelmchifpgaibaaDoor
namespace Go.Proofs.YtelmchifpgaibaaDoor
open Go.RowKit
set_option linter.unusedVariables false

/-- Rows of numbers as rows of elements of one cell. -/
def zC (x : Int) : List Value := [.int .i64 x]
theorem encZ : EncK zC 1 := ⟨fun _ => rfl, fun x u hu => by simp only [zC, List.mem_cons, List.not_mem_nil, or_false] at hu; rcases hu with rfl; rfl⟩
theorem row_z (l : List Int) : rowG zC l = iz l := by
  induction l with
  | nil => rfl
  | cons a l ih => show zC a ++ rowG zC l = _; rw [ih]; rfl
theorem RdZ.g {w : World} {a : Option Addr} {l : List Int} (h : RdZ w a l) : RdG zC 1 w a l := fun i hi => by
  obtain ⟨b, o, h1, h2, h3⟩ := h i hi
  refine ⟨b, o, h1, h2, fun j hj => ?_⟩
  obtain rfl : j = 0 := by omega
  rw [Nat.mul_one, Nat.add_zero, h3]
  rfl
theorem RdG.z {w : World} {a : Option Addr} {l : List Int} (h : RdG zC 1 w a l) : RdZ w a l := fun i hi => by
  obtain ⟨b, o, h1, h2, h3⟩ := h i hi
  refine ⟨b, o, h1, h2, ?_⟩
  have := h3 0 (by omega)
  rw [Nat.mul_one, Nat.add_zero] at this
  exact this
theorem rowZ_k : RowK Tryd.prog 35 3 1 := rowK_mk Tryd.underlying35 Tryd.infoZ rfl (by decide) (by decide)
/-- Where the three rows of a member lie. -/
structure MA where
  wa : Option Addr
  wc : Nat
  ia : Option Addr
  ic : Nat
  la : Option Addr
  lc : Nat
def mbV (m : Mb) (A : MA) : Value := .agg #[.int .i64 m.id, .int .i64 m.ep, .bool m.fe, .bool m.ba, .bool m.le, .bool m.se, .slice A.wa m.wa.length A.wc, .slice A.ia m.is.length A.ic, .int .i64 m.cn, .int .i64 m.tk.op, .int .i64 m.tk.cl, .int .i64 m.tk.nu, .string m.tk.it.k, .string m.tk.it.v, .int .i64 m.tk.it.n, .slice A.la m.tk.lf.length A.lc]
structure RdMb (w : World) (m : Mb) (A : MA) : Prop where
  wr : RdZ w A.wa m.wa
  ir : RdG imC 3 w A.ia m.is
  lr : RdZ w A.la m.tk.lf
theorem RdMb.later {w w' : World} {m : Mb} {A : MA} (h : RdMb w m A) (hb : Below w.heap.size w w') : RdMb w' m A := ⟨h.wr.later hb, h.ir.later hb, h.lr.later hb⟩
/-- How much a member may hold. -/
structure SzMb (m : Mb) : Prop where
  wl : m.wa.length ≤ 1048576
  il : m.is.length ≤ 1048576
  ll : m.tk.lf.length ≤ 1048576
def noMA : MA := ⟨none, 0, none, 0, none, 0⟩
theorem RdMb.zero (w : World) : RdMb w zeroMb noMA := ⟨fun i hi => by simp [zeroMb] at hi, fun i hi => by simp [zeroMb] at hi, fun i hi => by simp [zeroMb, zeroTk] at hi⟩
/-- A message in a row, and where its items lie. -/
structure Mv where
  m : Ms
  a : Option Addr
  c : Nat
def mvC (x : Mv) : List Value := [.int .i64 x.m.k, .int .i64 x.m.f, .int .i64 x.m.o, .int .i64 x.m.e, .int .i64 x.m.n, .slice x.a x.m.is.length x.c]
theorem encMv : EncK mvC 6 := ⟨fun _ => rfl, fun x u hu => by simp only [mvC, List.mem_cons, List.not_mem_nil, or_false] at hu; rcases hu with rfl | rfl | rfl | rfl | rfl | rfl <;> rfl⟩
structure RdMs (w : World) (a : Option Addr) (L : List Mv) : Prop where
  r : RdG mvC 6 w a L
  i : ∀ x ∈ L, RdG imC 3 w x.a x.m.is
theorem RdMs.later {w w' : World} {a : Option Addr} {L : List Mv} (h : RdMs w a L) (hb : Below w.heap.size w w') : RdMs w' a L := ⟨h.r.later hb, fun x hx => (h.i x hx).later hb⟩
theorem RdMs.nil (w : World) (a : Option Addr) : RdMs w a [] := ⟨RdG.nil _ _, fun x hx => by simp at hx⟩
/-- What is said, in a row. -/
def sdC (x : Sd) : List Value := [.int .i64 x.cl, .int .i64 x.ep, .int .i64 x.nu, .string x.it.k, .string x.it.v, .int .i64 x.it.n]
theorem encSd : EncK sdC 6 := ⟨fun _ => rfl, fun x u hu => by simp only [sdC, List.mem_cons, List.not_mem_nil, or_false] at hu; rcases hu with rfl | rfl | rfl | rfl | rfl | rfl <;> rfl⟩
end Go.Proofs.YtelmchifpgaibaaDoor
namespace Go.Proofs.YtelmchifpgaibaaDoor
open Go.RowKit
set_option linter.unusedVariables false

theorem own_emptyZ (w : World) (B : Nat) (hB : B ≤ w.heap.size) : OwnK (w.alloc (.cells #[] 3)) B (some ⟨w.heap.size, 0, none⟩) 0 [] := by
  have h := own_none (k := 1) (enc := zC) (Blk.new w 3 #[]) hB
  exact h
theorem wth_next {l : List Int} {i : Nat} (hi : i < l.length) (x : Int) : wthV (l.take (i + 1)) x = wthV (l.take i) x ++ (if l[i] = x then [] else [l[i]]) := by
  unfold wthV
  rw [List.take_succ_eq_append_getElem hi, List.filter_append]
  congr 1
  by_cases c : l[i] = x <;> simp [c]
theorem wth_le (l : List Int) (x : Int) : (wthV l x).length ≤ l.length := List.length_filter_le _ _
theorem own_iz {w : World} {B n : Nat} {v : Value} {l : List Int} (h : w.ownsRow B 3 1 v n (iz l)) : ∃ b c, v = .slice b l.length c ∧ OwnK w B b c l ∧ n = l.length := by
  have hn : n = l.length := by have := h.1; rw [iz_length] at this; omega
  subst hn
  obtain ⟨b, c, rfl⟩ := form_of h
  exact ⟨b, c, rfl, h, rfl⟩
def othTo (v : List Int) (id : Int) (i : Nat) : List Int := ((List.range i).map (fun k : Nat => (k : Int) + 1)).filter (fun x => decide (x ≠ id) && decide (x ∈ v))
theorem oth_six (v : List Int) (id : Int) : othTo v id 6 = othV v id := rfl
theorem oth_le (v : List Int) (id : Int) (i : Nat) : (othTo v id i).length ≤ i := Nat.le_trans (List.length_filter_le _ _) (by simp)
theorem oth_to (v : List Int) (id : Int) (i : Nat) (h : i < 6) : othTo v id (i + 1) = othTo v id i ++ (if ((i : Int) + 1) ≠ id ∧ ((i : Int) + 1) ∈ v then [(i : Int) + 1] else []) := by
  unfold othTo
  rw [List.range_succ, List.map_append, List.filter_append]
  congr 1
  by_cases c : ((i : Int) + 1) ≠ id ∧ ((i : Int) + 1) ∈ v
  · rw [if_pos c]; simp [c.1, c.2]
  · rw [if_neg c]
    simp only [List.map_cons, List.map_nil]
    rw [List.filter_cons_of_neg (by simpa using c), List.filter_nil]
end Go.Proofs.YtelmchifpgaibaaDoor
