/- What comes in as a queue, opened; queues held in variables. -/
import Derived.Test.YtaafofgfeaodhaaQuP
import Derived.Deep.SlicePairs
import Derived.Lib.SmallJoins
import Derived.ProofKit
import Derived.OpenShut
namespace Go.Proofs.Ytaafofgfeaodhaa
open Go.ChangeShapes Go.WideShapes Go.ChangeAt Go.RowKit Go.Deep Go.Joins

set_option maxRecDepth 100000 in
theorem open_texts {H : Type} {enc : TypeId × Value → H} {w : World} {base fuel : Nat} {sp : Nat → Bool} {held : Bool} {cs : List Value} {x : DataW H × List MemPlace} (h : DataW.trod enc Try.prog w base sp held fuel 24 cs = some x) :
    ∃ (ao : Option Addr) (l : List ByteArray) (ca : Nat), cs = [.slice ao l.length ca] ∧ RdQ w ao l ∧ l.length ≤ maxLen ∧ ∀ i (h : i < l.length), l[i].size ≤ maxLen := by
  rcases open_slice Try.underlying24 h with ⟨rfl, _⟩ | ⟨a, len, cap, m, n, D, Pl, rfl, hb, hl, hm, hmm, _, hx⟩
  · exact ⟨none, [], 0, rfl, fun i hi => by simp at hi, Nat.zero_le _, fun i hi => by simp at hi⟩
  have hlm : len ≤ m := by rw [hmm]; split <;> omega
  have hc : Try.prog.cellsOf 9 = 1 := by kernel_rfl
  have each : ∀ i, i < m → ∃ s : ByteArray, w.cell? ((a.add (i * 1)).add 0) = some (.string s) ∧ s.size ≤ maxLen := by
    intro i hi
    obtain ⟨cs', h1, h2⟩ := hx i hi
    rw [hc] at h1
    obtain ⟨_, hlen, hcell⟩ := World.cells?_some h1
    obtain ⟨s, e, _, hsz⟩ := DataW.trod_string Try.underlying9 h2
    refine ⟨s, ?_, ?_⟩
    · rw [hcell 0 (by omega), e]
      rfl
    · first | exact hsz | exact hsz.1 | exact hsz.2
  obtain ⟨S, hS⟩ := choose_lt each
  refine ⟨some a, (List.range len).map S, cap, by simp, ?_, by simp; omega, ?_⟩
  · intro i hi
    have hi' : i < len := by simpa using hi
    have hci := (hS i (by omega)).1
    obtain ⟨b, o, spot⟩ := a
    have hspot : spot = none := by
      have := (hS 0 (by omega)).1
      simpa [Addr.add] using World.cell?_spot this
    subst hspot
    simp only [Addr.add_lit, Nat.mul_one, Nat.add_zero] at hci
    refine ⟨b, o, rfl, World.block_lt_of_cell? w _ hci, ?_⟩
    simp only [List.getElem_map, List.getElem_range]
    exact hci
  · intro i hi
    have hi' : i < len := by simpa using hi
    simp only [List.getElem_map, List.getElem_range]
    exact (hS i (by omega)).2

set_option maxRecDepth 100000 in
theorem open_queue {H : Type} {enc : TypeId × Value → H} {w : World} {r : Reach} {b0 base : Nat} {sp : Nat → Bool} {held : Bool} {v : Value} {d : DataW H} {p : List MemPlace} (hv : Value.okWide Try.prog w r b0 38 v) (h : DataW.Trod enc Try.prog w base sp held 38 v d p) :
    ∃ (ao : Option Addr) (l : List ByteArray) (ca : Nat) (ad : Int), v = quV ao l.length ca ad ∧ RdQ w ao l ∧ (l.length ≤ maxLen ∧ ∀ i (h : i < l.length), l[i].size ≤ maxLen) := by
  obtain ⟨v0, v1, y0, y1, n, rfl, _, _, h0, h1⟩ := open_agg2 Try.underlying38 (by kernel_rfl) (by kernel_rfl) hv h
  obtain ⟨ao, l, ca, e0, hR, hl⟩ := open_texts h1
  obtain ⟨f, e1, _, _⟩ := DataW.trod_int Try.underlying3 h0
  simp at e0 e1
  subst e0 e1
  exact ⟨ao, l, ca, f, rfl, hR, hl⟩

/-- A variable that holds a queue. -/
def VarQ (w : World) (t : TypeId) (A : Nat) (ao : Option Addr) (n c : Nat) (M : Int) : Prop := Blk w A t [.int .i64 M, .slice ao n c]
theorem VarQ.cells {w : World} {t : TypeId} {A n c : Nat} {ao : Option Addr} {M : Int} (h : VarQ w t A ao n c M) : A < w.heap.size ∧ w.cell? ⟨A, 0, none⟩ = some (.int .i64 M) ∧ w.cell? ⟨A, 1, none⟩ = some (.slice ao n c) := ⟨Blk.lt h, Blk.cell h 0, Blk.cell h 1⟩
theorem VarQ.later {w w' : World} {t : TypeId} {A n c : Nat} {ao : Option Addr} {M : Int} (h : VarQ w t A ao n c M) (hb : Below w.heap.size w w') : VarQ w' t A ao n c M := Blk.below h hb (Blk.lt h)
theorem VarQ.below {w w' : World} {t : TypeId} {A n c B : Nat} {ao : Option Addr} {M : Int} (h : VarQ w t A ao n c M) (hb : Below B w w') (hA : A < B) : VarQ w' t A ao n c M := Blk.below h hb hA
theorem VarQ.box {w w1 : World} {t : TypeId} {n c : Nat} {ao : Option Addr} {M : Int} (hb : Below (w.alloc (.cells #[.int .i64 M, .slice ao n c] t)).heap.size (w.alloc (.cells #[.int .i64 M, .slice ao n c] t)) w1) : VarQ w1 t w.heap.size ao n c M :=
  Blk.below (Blk.new w t _) hb (by rw [World.size_alloc]; omega)
theorem boxQ_below {w w1 : World} {o : Obj} (hb : Below (w.alloc o).heap.size (w.alloc o) w1) : Below w.heap.size w w1 := ((Below.refl _ _).alloc (Nat.le_refl _) _).trans (hb.mono (by rw [World.size_alloc]; omega))
theorem boxQ_size {w w1 : World} {o : Obj} (hb : Below (w.alloc o).heap.size (w.alloc o) w1) : w.heap.size + 1 ≤ w1.heap.size := by have := hb.size; rw [World.size_alloc] at this; exact this
/-- What came in, and the model's answer, below a bound. -/
structure BndQ (B : Nat) (w : World) (s : Nat) (ao : Option Addr) (l : List ByteArray) (ca : Nat) (ad : Int) (A : Nat) (po : Option Addr) (L : List ByteArray) (cp : Nat) (M : Int) : Prop where
  ls : s < B
  lA : A < B
  lp : ∀ b f, po = some ⟨b, f, none⟩ → L ≠ [] → b < B
  li : ∀ b f, ao = some ⟨b, f, none⟩ → l ≠ [] → b < B
  v0 : VarQ w 38 s ao l.length ca ad
  ri : RdQ w ao l
  v6 : VarQ w 26 A po L.length cp M
  r6 : RdQ w po L
theorem BndQ.below {B s ca A cp : Nat} {w w' : World} {ao po : Option Addr} {l L : List ByteArray} {ad M : Int} (h : BndQ B w s ao l ca ad A po L cp M) (hb : Below B w w') : BndQ B w' s ao l ca ad A po L cp M :=
  ⟨h.ls, h.lA, h.lp, h.li, h.v0.below hb h.ls, h.ri.below hb h.li, h.v6.below hb h.lA, h.r6.below hb h.lp⟩
theorem BndQ.later {B s ca A cp : Nat} {w w' : World} {ao po : Option Addr} {l L : List ByteArray} {ad M : Int} (h : BndQ B w s ao l ca ad A po L cp M) (hB : B ≤ w.heap.size) (hb : Below w.heap.size w w') : BndQ B w' s ao l ca ad A po L cp M := h.below (hb.mono hB)
/-- A row of texts that is the call's own, behind a bound. -/
def OwnQ (w : World) (B : Nat) (ao : Option Addr) (c : Nat) (L : List ByteArray) : Prop := w.ownsRow B 9 1 (.slice ao L.length c) L.length (sc L)
theorem OwnQ.rd {w : World} {B c : Nat} {ao : Option Addr} {L : List ByteArray} (h : OwnQ w B ao c L) : RdQ w ao L := rdQ_of_own h
theorem OwnQ.later {w w' : World} {B c : Nat} {ao : Option Addr} {L : List ByteArray} (h : OwnQ w B ao c L) (hb : Below w.heap.size w w') : OwnQ w' B ao c L := own_kept h hb
theorem OwnQ.base {w : World} {B B' c : Nat} {ao : Option Addr} {L : List ByteArray} (h : OwnQ w B ao c L) (hB : B' ≤ B) : OwnQ w B' ao c L := own_base h hB
theorem OwnQ.lt {w : World} {B c : Nat} {ao : Option Addr} {L : List ByteArray} (h : OwnQ w B ao c L) : ∀ g, (Value.slice ao L.length c).ownBlock = some g → B ≤ g ∧ g < w.heap.size := fun g e => World.ownsRow.lt h g e
theorem toQueue_own (ao : Option Addr) (l : List ByteArray) (ca : Nat) (ad : Int) (w : World) (hl : l.length ≤ 1048576) (hA : RdQ w ao l) :
    Calls Try.prog 22 #[.agg #[.int .i64 ad, .slice ao l.length ca]] w fun e w' => ∃ b c, e = .returned (.agg #[.int .i64 ad, .slice b l.length c]) ∧ OwnQ w' w.heap.size b c l ∧ Below w.heap.size w w' := toQueue_any ao l ca ad w hl hA
theorem eqQueue_own (a b : Option Addr) (l : List ByteArray) (ca cb : Nat) (v : Int) (w : World) (hl : l.length ≤ 1048576) (ha : RdQ w a l) (hb : RdQ w b l) :
    Calls Try.prog 23 #[.agg #[.int .i64 v, .slice a l.length ca], .agg #[.int .i64 v, .slice b l.length cb]] w fun e w' => e = .returned (.bool true) ∧ Below w.heap.size w w' := eqQueue_same a b l ca cb v w hl ha hb
theorem markQueue_own (ao : Option Addr) (c B : Nat) (l : List ByteArray) (ad : Int) (w : World) (hn : l.length ≤ 1048576) (hown : OwnQ w B ao c l) :
    Calls Try.prog 25 #[.agg #[.int .i64 ad, .slice ao l.length c], .int .i64 1] w fun e w' => e = .returned (.int .i64 (1 + (l.length : Int))) ∧ RdQ w' ao (patQ 1 l.length) ∧ w.grownBy w' (Value.slice ao l.length c).ownBlock := by
  refine (markQueue_any ao c 1 B l ad w hn (by omega) (by omega) hown).mono ?_
  rintro e w' ⟨rfl, h1, h2⟩
  exact ⟨rfl, rdQ_of_own h1, h2⟩
theorem heldQueue_own (ao : Option Addr) (n ca : Nat) (ad : Int) (w : World) (hn : n ≤ 1048576) (hA : RdQ w ao (patQ 1 n)) :
    Calls Try.prog 26 #[.agg #[.int .i64 ad, .slice ao n ca], .int .i64 1] w fun e w' => e = .returned (.int .i64 (1 + (n : Int))) ∧ Below w.heap.size w w' := heldQueue_any ao n ca 1 ad w hn (by omega) (by omega) hA
/-- A queue that a call has made. -/
def MadeQ (w w' : World) (v : Value) (R : List ByteArray × Int) : Prop := ∃ (ao : Option Addr) (c : Nat), v = quV ao R.1.length c R.2 ∧ w'.ownsRow w.heap.size 9 1 (.slice ao R.1.length c) R.1.length (sc R.1) ∧ Below w.heap.size w w'
/-- What a maker answers, with the answer's parts named. -/
theorem MadeQ.open {w w' : World} {v : Value} {R : List ByteArray × Int} (h : MadeQ w w' v R) : ∃ (ao : Option Addr) (c : Nat) (L : List ByteArray) (M : Int), R = (L, M) ∧ v = .agg #[.int .i64 M, .slice ao L.length c] ∧ OwnQ w' w.heap.size ao c L ∧ Below w.heap.size w w' := by
  obtain ⟨ao, c, rfl, ho, hb⟩ := h
  exact ⟨ao, c, R.1, R.2, rfl, rfl, ho, hb⟩
end Go.Proofs.Ytaafofgfeaodhaa
