/- What comes in as a sketch, opened; sketches held in variables. -/
import Derived.Test.YtoodlaelnbhlgaaSkN
import Derived.Deep.SlicePairs
import Derived.Lib.SmallJoins
import Derived.ProofKit
import Derived.OpenShut
namespace Go.Proofs.Ytoodlaelnbhlgaa
open Go.ChangeShapes Go.WideShapes Go.ChangeAt Go.RowKit Go.Deep Go.Joins

set_option maxRecDepth 100000 in
theorem open_ints {H : Type} {enc : TypeId × Value → H} {w : World} {base fuel : Nat} {sp : Nat → Bool} {held : Bool} {cs : List Value} {x : DataW H × List MemPlace} (h : DataW.trod enc Try.prog w base sp held fuel 22 cs = some x) :
    ∃ (ao : Option Addr) (l : List Int) (ca : Nat), cs = [.slice ao l.length ca] ∧ RdZ w ao l ∧ l.length ≤ maxLen := by
  rcases open_slice Try.underlying22 h with ⟨rfl, _⟩ | ⟨a, len, cap, m, n, D, Pl, rfl, hb, hl, hm, hmm, _, hx⟩
  · exact ⟨none, [], 0, rfl, fun i hi => by simp at hi, Nat.zero_le _⟩
  have hlm : len ≤ m := by rw [hmm]; split <;> omega
  have hc : Try.prog.cellsOf 3 = 1 := by kernel_rfl
  have each : ∀ i, i < m → ∃ s : Int, w.cell? ((a.add (i * 1)).add 0) = some (.int .i64 s) := by
    intro i hi
    obtain ⟨cs', h1, h2⟩ := hx i hi
    rw [hc] at h1
    obtain ⟨_, hlen, hcell⟩ := World.cells?_some h1
    obtain ⟨s, e, _, _⟩ := DataW.trod_int Try.underlying3 h2
    refine ⟨s, ?_⟩
    rw [hcell 0 (by omega), e]
    rfl
  obtain ⟨S, hS⟩ := choose_lt each
  refine ⟨some a, (List.range len).map S, cap, by simp, ?_, by simp; omega⟩
  intro i hi
  have hi' : i < len := by simpa using hi
  have hci := hS i (by omega)
  obtain ⟨b, o, spot⟩ := a
  have hspot : spot = none := by
    have := hS 0 (by omega)
    simpa [Addr.add] using World.cell?_spot this
  subst hspot
  simp only [Addr.add_lit, Nat.mul_one, Nat.add_zero] at hci
  refine ⟨b, o, rfl, World.block_lt_of_cell? w _ hci, ?_⟩
  simp only [List.getElem_map, List.getElem_range]
  exact hci

set_option maxRecDepth 100000 in
theorem open_sketch {H : Type} {enc : TypeId × Value → H} {w : World} {r : Reach} {b0 base : Nat} {sp : Nat → Bool} {held : Bool} {v : Value} {d : DataW H} {p : List MemPlace} (hv : Value.okWide Try.prog w r b0 29 v) (h : DataW.Trod enc Try.prog w base sp held 29 v d p) :
    ∃ (ao : Option Addr) (l : List Int) (ca : Nat) (ad : Int), v = skV ao l.length ca ad ∧ RdZ w ao l ∧ l.length ≤ maxLen := by
  obtain ⟨v0, v1, y0, y1, n, rfl, _, _, h0, h1⟩ := open_agg2 Try.underlying29 (by kernel_rfl) (by kernel_rfl) hv h
  obtain ⟨ao, l, ca, e0, hR, hl⟩ := open_ints h0
  obtain ⟨f, e1, _, _⟩ := DataW.trod_int Try.underlying3 h1
  simp at e0 e1
  subst e0 e1
  exact ⟨ao, l, ca, f, rfl, hR, hl⟩

/-- A variable that holds a sketch. -/
def VarK (w : World) (t : TypeId) (A : Nat) (ao : Option Addr) (n c : Nat) (M : Int) : Prop := Blk w A t [.slice ao n c, .int .i64 M]
theorem VarK.cells {w : World} {t : TypeId} {A n c : Nat} {ao : Option Addr} {M : Int} (h : VarK w t A ao n c M) : A < w.heap.size ∧ w.cell? ⟨A, 0, none⟩ = some (.slice ao n c) ∧ w.cell? ⟨A, 1, none⟩ = some (.int .i64 M) := ⟨Blk.lt h, Blk.cell h 0, Blk.cell h 1⟩
theorem VarK.later {w w' : World} {t : TypeId} {A n c : Nat} {ao : Option Addr} {M : Int} (h : VarK w t A ao n c M) (hb : Below w.heap.size w w') : VarK w' t A ao n c M := Blk.below h hb (Blk.lt h)
theorem VarK.below {w w' : World} {t : TypeId} {A n c B : Nat} {ao : Option Addr} {M : Int} (h : VarK w t A ao n c M) (hb : Below B w w') (hA : A < B) : VarK w' t A ao n c M := Blk.below h hb hA
theorem VarK.box {w w1 : World} {t : TypeId} {n c : Nat} {ao : Option Addr} {M : Int} (hb : Below (w.alloc (.cells #[.slice ao n c, .int .i64 M] t)).heap.size (w.alloc (.cells #[.slice ao n c, .int .i64 M] t)) w1) : VarK w1 t w.heap.size ao n c M :=
  Blk.below (Blk.new w t _) hb (by rw [World.size_alloc]; omega)
theorem boxK_below {w w1 : World} {o : Obj} (hb : Below (w.alloc o).heap.size (w.alloc o) w1) : Below w.heap.size w w1 := ((Below.refl _ _).alloc (Nat.le_refl _) _).trans (hb.mono (by rw [World.size_alloc]; omega))
theorem boxK_size {w w1 : World} {o : Obj} (hb : Below (w.alloc o).heap.size (w.alloc o) w1) : w.heap.size + 1 ≤ w1.heap.size := by have := hb.size; rw [World.size_alloc] at this; exact this
/-- What came in, and the model's answer, below a bound. -/
structure BndK (B : Nat) (w : World) (s : Nat) (ao : Option Addr) (l : List Int) (ca : Nat) (ad : Int) (A : Nat) (po : Option Addr) (L : List Int) (cp : Nat) (M : Int) : Prop where
  ls : s < B
  lA : A < B
  lp : ∀ b f, po = some ⟨b, f, none⟩ → L ≠ [] → b < B
  li : ∀ b f, ao = some ⟨b, f, none⟩ → l ≠ [] → b < B
  v0 : VarK w 29 s ao l.length ca ad
  ri : RdZ w ao l
  v6 : VarK w 24 A po L.length cp M
  r6 : RdZ w po L
theorem BndK.below {B s ca A cp : Nat} {w w' : World} {ao po : Option Addr} {l L : List Int} {ad M : Int} (h : BndK B w s ao l ca ad A po L cp M) (hb : Below B w w') : BndK B w' s ao l ca ad A po L cp M :=
  ⟨h.ls, h.lA, h.lp, h.li, h.v0.below hb h.ls, h.ri.below hb h.li, h.v6.below hb h.lA, h.r6.below hb h.lp⟩
theorem BndK.later {B s ca A cp : Nat} {w w' : World} {ao po : Option Addr} {l L : List Int} {ad M : Int} (h : BndK B w s ao l ca ad A po L cp M) (hB : B ≤ w.heap.size) (hb : Below w.heap.size w w') : BndK B w' s ao l ca ad A po L cp M := h.below (hb.mono hB)
/-- A row of numbers that is the call's own, behind a bound. -/
def OwnK (w : World) (B : Nat) (ao : Option Addr) (c : Nat) (L : List Int) : Prop := w.ownsRow B 3 1 (.slice ao L.length c) L.length (iz L)
theorem OwnK.rd {w : World} {B c : Nat} {ao : Option Addr} {L : List Int} (h : OwnK w B ao c L) : RdZ w ao L := rdZ_of_own h
theorem OwnK.later {w w' : World} {B c : Nat} {ao : Option Addr} {L : List Int} (h : OwnK w B ao c L) (hb : Below w.heap.size w w') : OwnK w' B ao c L := own_kept h hb
theorem OwnK.base {w : World} {B B' c : Nat} {ao : Option Addr} {L : List Int} (h : OwnK w B ao c L) (hB : B' ≤ B) : OwnK w B' ao c L := own_base h hB
theorem OwnK.lt {w : World} {B c : Nat} {ao : Option Addr} {L : List Int} (h : OwnK w B ao c L) : ∀ g, (Value.slice ao L.length c).ownBlock = some g → B ≤ g ∧ g < w.heap.size := fun g e => World.ownsRow.lt h g e
theorem toSketch_own (ao : Option Addr) (l : List Int) (ca : Nat) (ad : Int) (w : World) (hl : l.length ≤ 1048576) (hA : RdZ w ao l) :
    Calls Try.prog 15 #[.agg #[.slice ao l.length ca, .int .i64 ad]] w fun e w' => ∃ b c, e = .returned (.agg #[.slice b l.length c, .int .i64 ad]) ∧ OwnK w' w.heap.size b c l ∧ Below w.heap.size w w' := toSketch_any ao l ca ad w hl hA
theorem eqSketch_own (a b : Option Addr) (l : List Int) (ca cb : Nat) (v : Int) (w : World) (hl : l.length ≤ 1048576) (ha : RdZ w a l) (hb : RdZ w b l) :
    Calls Try.prog 10 #[.agg #[.slice a l.length ca, .int .i64 v], .agg #[.slice b l.length cb, .int .i64 v]] w fun e w' => e = .returned (.bool true) ∧ Below w.heap.size w w' := eqSketch_same a b l ca cb v w hl ha hb
theorem markSketch_own (ao : Option Addr) (c B : Nat) (l : List Int) (ad : Int) (w : World) (hn : l.length ≤ 1048576) (hown : OwnK w B ao c l) :
    Calls Try.prog 11 #[.agg #[.slice ao l.length c, .int .i64 ad], .int .i64 1] w fun e w' => e = .returned (.int .i64 (1 + (l.length : Int))) ∧ RdZ w' ao (patZ 1 l.length) ∧ w.grownBy w' (Value.slice ao l.length c).ownBlock := by
  refine (markSketch_any ao c 1 B l ad w hn (by omega) hown).mono ?_
  rintro e w' ⟨rfl, h1, h2⟩
  exact ⟨rfl, rdZ_of_own h1, h2⟩
theorem heldSketch_own (ao : Option Addr) (n ca : Nat) (ad : Int) (w : World) (hn : n ≤ 1048576) (hA : RdZ w ao (patZ 1 n)) :
    Calls Try.prog 12 #[.agg #[.slice ao n ca, .int .i64 ad], .int .i64 1] w fun e w' => e = .returned (.int .i64 (1 + (n : Int))) ∧ Below w.heap.size w w' := heldSketch_any ao n ca 1 ad w hn (by omega) hA
/-- What a maker answers, with the answer's parts named. -/
theorem MadeK.open {w w' : World} {e : Ending} {R : List Int × Int} (h : MadeK w w' e R) : ∃ (ao : Option Addr) (c : Nat) (L : List Int) (M : Int), R = (L, M) ∧ e = .returned (.agg #[.slice ao L.length c, .int .i64 M]) ∧ OwnK w' w.heap.size ao c L ∧ Below w.heap.size w w' := by
  obtain ⟨ao, c, rfl, ho, hb⟩ := h
  exact ⟨ao, c, R.1, R.2, rfl, rfl, ho, hb⟩
end Go.Proofs.Ytoodlaelnbhlgaa
