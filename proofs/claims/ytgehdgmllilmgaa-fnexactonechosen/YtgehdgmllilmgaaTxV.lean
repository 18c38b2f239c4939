/- What comes in as a row of texts, opened; rows of texts of the call's own. -/
import Derived.Test.YtgehdgmllilmgaaYQ
import Derived.Deep.SlicePairs
import Derived.Lib.SmallJoins
import Derived.ProofKit
import Derived.OpenShut
namespace Go.Proofs.Ytgehdgmllilmgaa
open Go.ChangeShapes Go.WideShapes Go.ChangeAt Go.RowKit Go.Deep Go.Joins

set_option maxRecDepth 100000 in
theorem open_texts {H : Type} {enc : TypeId × Value → H} {w : World} {base fuel : Nat} {sp : Nat → Bool} {held : Bool} {cs : List Value} {x : DataW H × List MemPlace} (h : DataW.trod enc Try.prog w base sp held fuel 30 cs = some x) :
    ∃ (ao : Option Addr) (l : List ByteArray) (ca : Nat), cs = [.slice ao l.length ca] ∧ RdQ w ao l ∧ l.length ≤ maxLen ∧ ∀ i (h : i < l.length), l[i].size ≤ maxLen := by
  rcases open_slice Try.underlying30 h with ⟨rfl, _⟩ | ⟨a, len, cap, m, n, D, Pl, rfl, hb, hl, hm, hmm, _, hx⟩
  · exact ⟨none, [], 0, rfl, fun i hi => by simp at hi, Nat.zero_le _, fun i hi => by simp at hi⟩
  have hlm : len ≤ m := by rw [hmm]; split <;> omega
  have hc : Try.prog.cellsOf 9 = 1 := by kernel_rfl
  have each : ∀ i, i < m → ∃ s : ByteArray, w.cell? ((a.add (i * 1)).add 0) = some (.string s) ∧ s.size ≤ maxLen := by
    intro i hi
    obtain ⟨cs', h1, h2⟩ := hx i hi
    rw [hc] at h1
    obtain ⟨_, hlen, hcell⟩ := World.cells?_some h1
    obtain ⟨s, e, _, hsz⟩ := DataW.trod_string Try.underlying9 h2
    refine ⟨s, ?_, ?_⟩
    · rw [hcell 0 (by omega), e]
      rfl
    · first | exact hsz | exact hsz.1 | exact hsz.2
  obtain ⟨S, hS⟩ := choose_lt each
  refine ⟨some a, (List.range len).map S, cap, by simp, ?_, by simp; omega, ?_⟩
  · intro i hi
    have hi' : i < len := by simpa using hi
    have hci := (hS i (by omega)).1
    obtain ⟨b, o, spot⟩ := a
    have hspot : spot = none := by
      have := (hS 0 (by omega)).1
      simpa [Addr.add] using World.cell?_spot this
    subst hspot
    simp only [Addr.add_lit, Nat.mul_one, Nat.add_zero] at hci
    refine ⟨b, o, rfl, World.block_lt_of_cell? w _ hci, ?_⟩
    simp only [List.getElem_map, List.getElem_range]
    exact hci
  · intro i hi
    have hi' : i < len := by simpa using hi
    simp only [List.getElem_map, List.getElem_range]
    exact (hS i (by omega)).2

set_option maxRecDepth 100000 in
theorem open_textsV {H : Type} {enc : TypeId × Value → H} {w : World} {r : Reach} {b0 base : Nat} {sp : Nat → Bool} {held : Bool} {v : Value} {d : DataW H} {p : List MemPlace} (hv : Value.okWide Try.prog w r b0 30 v) (h : DataW.Trod enc Try.prog w base sp held 30 v d p) :
    ∃ (ao : Option Addr) (l : List ByteArray) (ca : Nat), v = .slice ao l.length ca ∧ RdQ w ao l ∧ (l.length ≤ maxLen ∧ ∀ i (h : i < l.length), l[i].size ≤ maxLen) := by
  obtain ⟨a0, len0, cap0, rfl⟩ := okWide_slice Try.underlying30 hv
  obtain ⟨n, h0⟩ := h
  obtain ⟨ao, l, ca, e0, hR, hl⟩ := open_texts h0
  simp [Value.cells] at e0
  obtain ⟨rfl, rfl, rfl⟩ := e0
  exact ⟨_, l, _, rfl, hR, hl⟩

/-- A row of texts that is the call's own, behind a bound. -/
def OwnQ (w : World) (B : Nat) (ao : Option Addr) (c : Nat) (L : List ByteArray) : Prop := w.ownsRow B 9 1 (.slice ao L.length c) L.length (sc L)
theorem OwnQ.rd {w : World} {B c : Nat} {ao : Option Addr} {L : List ByteArray} (h : OwnQ w B ao c L) : RdQ w ao L := rdQ_of_own h
theorem OwnQ.later {w w' : World} {B c : Nat} {ao : Option Addr} {L : List ByteArray} (h : OwnQ w B ao c L) (hb : Below w.heap.size w w') : OwnQ w' B ao c L := own_kept h hb
theorem OwnQ.base {w : World} {B B' c : Nat} {ao : Option Addr} {L : List ByteArray} (h : OwnQ w B ao c L) (hB : B' ≤ B) : OwnQ w B' ao c L := own_base h hB
theorem OwnQ.lt {w : World} {B c : Nat} {ao : Option Addr} {L : List ByteArray} (h : OwnQ w B ao c L) : ∀ g, (Value.slice ao L.length c).ownBlock = some g → B ≤ g ∧ g < w.heap.size := fun g e => World.ownsRow.lt h g e
theorem toTextS_own (ao : Option Addr) (l : List ByteArray) (ca : Nat) (w : World) (hl : l.length ≤ 1048576) (hA : RdQ w ao l) :
    Calls Try.prog 70 #[.slice ao l.length ca] w fun e w' => ∃ b c, e = .returned (.slice b l.length c) ∧ OwnQ w' w.heap.size b c l ∧ Below w.heap.size w w' := toTextS_any ao l ca w hl hA
theorem eqTextS_own (a b : Option Addr) (l : List ByteArray) (ca cb : Nat) (w : World) (hl : l.length ≤ 1048576) (ha : RdQ w a l) (hb : RdQ w b l) :
    Calls Try.prog 50 #[.slice a l.length ca, .slice b l.length cb] w fun e w' => e = .returned (.bool true) ∧ Below w.heap.size w w' := by
  refine (eqTextS_any a b l l ca cb w hl ha hb).mono ?_
  rintro e w' ⟨x, rfl, hx, hb⟩
  obtain rfl : x = true := by simpa using hx
  exact ⟨rfl, hb⟩
theorem markTextS_own (ao : Option Addr) (c B : Nat) (l : List ByteArray) (w : World) (hn : l.length ≤ 1048576) (hown : OwnQ w B ao c l) :
    Calls Try.prog 54 #[.slice ao l.length c, .int .i64 1] w fun e w' => e = .returned (.int .i64 (1 + (l.length : Int))) ∧ RdQ w' ao (patQ 1 l.length) ∧ w.grownBy w' (Value.slice ao l.length c).ownBlock := by
  refine (markTextS_any ao c 1 B l w hn (by omega) (by omega) hown).mono ?_
  rintro e w' ⟨rfl, h1, h2⟩
  exact ⟨rfl, rdQ_of_own h1, h2⟩
theorem heldTextS_own (ao : Option Addr) (n ca : Nat) (w : World) (hn : n ≤ 1048576) (hA : RdQ w ao (patQ 1 n)) :
    Calls Try.prog 58 #[.slice ao n ca, .int .i64 1] w fun e w' => e = .returned (.int .i64 (1 + (n : Int))) ∧ Below w.heap.size w w' := heldTextS_any ao n ca 1 w hn (by omega) (by omega) hA
end Go.Proofs.Ytgehdgmllilmgaa
