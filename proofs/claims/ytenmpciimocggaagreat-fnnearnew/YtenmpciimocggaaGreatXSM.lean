/- The model's functions on sketches: guessed, halved, counted. -/
import Derived.Test.YtenmpciimocggaaGreatXSK
import Derived.Deep.SlicePairs
import Derived.Lib.SmallJoins
import Derived.ProofKit
import Derived.OpenShut
namespace Go.Proofs.YtenmpciimocggaaGreat
open Go.RowKit

theorem own_at1K {w : World} {base n : Nat} {e : TypeId} {v : Value} {xs : List Value} (h : w.ownsRow base e 1 v n xs) (hn : 0 < n) : ∃ g cap, v = .slice (some ⟨g, 0, none⟩) n cap := by
  rcases h.2 with ⟨_, h0⟩ | ⟨g, cap, cur, hv, _⟩
  · omega
  · exact ⟨g, cap, hv⟩
/-- What a maker of the model holds: what came in, its result, the copy that it works on. -/
structure MidK (w wr : World) (x : List Value) (q : Nat) (bo : Option Addr) (n c : Nat) (ad : Int) (L : List Int) : Prop where
  box : Blk wr w.heap.size 36 x
  res : Blk wr (w.heap.size + 1) 36 [.slice none 0 0, .int .i64 0]
  out : Blk wr q 36 [.slice bo n c, .int .i64 ad]
  own : wr.ownsRow w.heap.size 3 1 (.slice bo n c) n (iz L)
  hq : w.heap.size + 1 < q
  ne : ∀ k, (Value.slice bo n c).ownBlock = some k → k < q ∧ w.heap.size + 1 < k
  bel : Below w.heap.size w wr
theorem MidK.later {w wr w' : World} {x : List Value} {q n c : Nat} {bo : Option Addr} {ad : Int} {L : List Int} (h : MidK w wr x q bo n c ad L) (hb : Below wr.heap.size wr w') : MidK w w' x q bo n c ad L :=
  ⟨h.box.below hb h.box.lt, h.res.below hb h.res.lt, h.out.below hb h.out.lt, own_kept h.own hb, h.hq, h.ne, h.bel.trans (hb.mono h.bel.size)⟩
theorem MidK.set {w wr : World} {x : List Value} {q n c b : Nat} {ad : Int} {L : List Int} (h : MidK w wr x q (some ⟨b, 0, none⟩) n c ad L) (i : Nat) (v : Int) : MidK w (wr.setCell ⟨b, i, none⟩ (.int .i64 v)) x q (some ⟨b, 0, none⟩) n c ad (L.set i v) := by
  have hn := h.ne b rfl
  refine ⟨h.box.far _ _ (by dsimp only; omega), h.res.far _ _ (by dsimp only; omega), h.out.far _ _ (by dsimp only; omega), ?_, h.hq, h.ne, h.bel.setCell (p := ⟨b, i, none⟩) (by dsimp only; omega) _⟩
  have := (World.ownsRow.stored h.own i (.int .i64 v)).1
  rw [← iz_set] at this
  exact this
theorem MidK.setAd {w wr : World} {x : List Value} {q n c : Nat} {bo : Option Addr} {ad : Int} {L : List Int} (h : MidK w wr x q bo n c ad L) (v : Int) : MidK w (wr.setCell ⟨q, 1, none⟩ (.int .i64 v)) x q bo n c v L := by
  have hq := h.hq
  refine ⟨h.box.far _ _ (by dsimp only; omega), h.res.far _ _ (by dsimp only; omega), Blk.set h.out 1 _, own_far h.own _ _ (fun k hk => by have := h.ne k hk; dsimp only; omega), h.hq, h.ne, h.bel.setCell (p := ⟨q, 1, none⟩) (by dsimp only; omega) _⟩
theorem MidK.fin {w wr : World} {x : List Value} {q n c : Nat} {bo : Option Addr} {ad : Int} {L : List Int} (h : MidK w wr x q bo n c ad L) (hn : L.length = n) :
    Blk ((wr.setCell ⟨w.heap.size + 1, 0, none⟩ (.slice bo n c)).setCell ⟨w.heap.size + 1, 1, none⟩ (.int .i64 ad)) (w.heap.size + 1) 36 [.slice bo n c, .int .i64 ad] ∧ MadeK w ((wr.setCell ⟨w.heap.size + 1, 0, none⟩ (.slice bo n c)).setCell ⟨w.heap.size + 1, 1, none⟩ (.int .i64 ad)) (.returned (.agg #[.slice bo n c, .int .i64 ad])) (L, ad) := by
  subst hn
  refine ⟨Blk.set (Blk.set h.res 0 _) 1 _, bo, c, rfl, own_far (own_far h.own _ _ ?_) _ _ ?_, (h.bel.setCell (p := ⟨w.heap.size + 1, 0, none⟩) (by dsimp only; omega) _).setCell (p := ⟨w.heap.size + 1, 1, none⟩) (by dsimp only; omega) _⟩
  all_goals
    intro k hk
    have := h.ne k hk
    dsimp only
    omega
/-- Behind the copy, in a variable of its own. -/
theorem MidK.start {w w1 : World} {x : List Value} {n c s : Nat} {bo : Option Addr} {ad : Int} {L : List Int} (h0 : Blk w1 w.heap.size 36 x) (h1 : Blk w1 (w.heap.size + 1) 36 [.slice none 0 0, .int .i64 0]) (hB : Below w.heap.size w w1) (hs : w.heap.size + 1 < s) (ho : w1.ownsRow s 3 1 (.slice bo n c) n (iz L)) :
    MidK w (w1.alloc (.cells #[.slice bo n c, .int .i64 ad] 36)) x w1.heap.size bo n c ad L :=
  ⟨h0.more _, h1.more _, Blk.new w1 _ _, own_base (ho.alloc _) (by omega), h1.lt, (fun k hk => by have := ho.lt k hk; omega), hB.alloc hB.size _⟩

end Go.Proofs.YtenmpciimocggaaGreat
namespace Go.Proofs.YtenmpciimocggaaGreat
open Go.RowKit

theorem bump_less {l : List Int} {k : Nat} (h : gK l k < 15) : bump l k = l.set k (gK l k + 1) := by
  unfold bump
  rw [show min (gK l k + 1) 15 = gK l k + 1 by omega]
theorem bump_full {l : List Int} {k : Nat} (hk : k < l.length) (h : gK l k = 15) : bump l k = l := by
  unfold bump
  rw [h, show min ((15 : Int) + 1) 15 = 15 by omega, ← h, ← gK_get l k hk]
  exact List.set_getElem_self hk

end Go.Proofs.YtenmpciimocggaaGreat
namespace Go.Proofs.YtenmpciimocggaaGreat
open Go.ChangeShapes Go.WideShapes Go.ChangeAt Go.RowKit Go.Deep Go.Joins

set_option maxRecDepth 100000 in
theorem open_ints {H : Type} {enc : TypeId × Value → H} {w : World} {base fuel : Nat} {sp : Nat → Bool} {held : Bool} {cs : List Value} {x : DataW H × List MemPlace} (h : DataW.trod enc Tryz.prog w base sp held fuel 34 cs = some x) :
    ∃ (ao : Option Addr) (l : List Int) (ca : Nat), cs = [.slice ao l.length ca] ∧ RdZ w ao l ∧ l.length ≤ maxLen := by
  rcases open_slice Tryz.underlying34 h with ⟨rfl, _⟩ | ⟨a, len, cap, m, n, D, Pl, rfl, hb, hl, hm, hmm, _, hx⟩
  · exact ⟨none, [], 0, rfl, fun i hi => by simp at hi, Nat.zero_le _⟩
  have hlm : len ≤ m := by rw [hmm]; split <;> omega
  have hc : Tryz.prog.cellsOf 3 = 1 := by kernel_rfl
  have each : ∀ i, i < m → ∃ s : Int, w.cell? ((a.add (i * 1)).add 0) = some (.int .i64 s) := by
    intro i hi
    obtain ⟨cs', h1, h2⟩ := hx i hi
    rw [hc] at h1
    obtain ⟨_, hlen, hcell⟩ := World.cells?_some h1
    obtain ⟨s, e, _, _⟩ := DataW.trod_int Tryz.underlying3 h2
    refine ⟨s, ?_⟩
    rw [hcell 0 (by omega), e]
    rfl
  obtain ⟨S, hS⟩ := choose_lt each
  refine ⟨some a, (List.range len).map S, cap, by simp, ?_, by simp; omega⟩
  intro i hi
  have hi' : i < len := by simpa using hi
  have hci := hS i (by omega)
  obtain ⟨b, o, spot⟩ := a
  have hspot : spot = none := by
    have := hS 0 (by omega)
    simpa [Addr.add] using World.cell?_spot this
  subst hspot
  simp only [Addr.add_lit, Nat.mul_one, Nat.add_zero] at hci
  refine ⟨b, o, rfl, World.block_lt_of_cell? w _ hci, ?_⟩
  simp only [List.getElem_map, List.getElem_range]
  exact hci

/-- A variable that holds a sketch. -/
def VarK (w : World) (t : TypeId) (A : Nat) (ao : Option Addr) (n c : Nat) (M : Int) : Prop := Blk w A t [.slice ao n c, .int .i64 M]
theorem VarK.cells {w : World} {t : TypeId} {A n c : Nat} {ao : Option Addr} {M : Int} (h : VarK w t A ao n c M) : A < w.heap.size ∧ w.cell? ⟨A, 0, none⟩ = some (.slice ao n c) ∧ w.cell? ⟨A, 1, none⟩ = some (.int .i64 M) := ⟨Blk.lt h, Blk.cell h 0, Blk.cell h 1⟩
theorem VarK.later {w w' : World} {t : TypeId} {A n c : Nat} {ao : Option Addr} {M : Int} (h : VarK w t A ao n c M) (hb : Below w.heap.size w w') : VarK w' t A ao n c M := Blk.below h hb (Blk.lt h)
theorem VarK.below {w w' : World} {t : TypeId} {A n c B : Nat} {ao : Option Addr} {M : Int} (h : VarK w t A ao n c M) (hb : Below B w w') (hA : A < B) : VarK w' t A ao n c M := Blk.below h hb hA
theorem VarK.box {w w1 : World} {t : TypeId} {n c : Nat} {ao : Option Addr} {M : Int} (hb : Below (w.alloc (.cells #[.slice ao n c, .int .i64 M] t)).heap.size (w.alloc (.cells #[.slice ao n c, .int .i64 M] t)) w1) : VarK w1 t w.heap.size ao n c M :=
  Blk.below (Blk.new w t _) hb (by rw [World.size_alloc]; omega)
theorem boxK_below {w w1 : World} {o : Obj} (hb : Below (w.alloc o).heap.size (w.alloc o) w1) : Below w.heap.size w w1 := ((Below.refl _ _).alloc (Nat.le_refl _) _).trans (hb.mono (by rw [World.size_alloc]; omega))
theorem boxK_size {w w1 : World} {o : Obj} (hb : Below (w.alloc o).heap.size (w.alloc o) w1) : w.heap.size + 1 ≤ w1.heap.size := by have := hb.size; rw [World.size_alloc] at this; exact this
/-- A row of numbers that is the call's own, behind a bound. -/
def OwnK (w : World) (B : Nat) (ao : Option Addr) (c : Nat) (L : List Int) : Prop := w.ownsRow B 3 1 (.slice ao L.length c) L.length (iz L)
theorem OwnK.rd {w : World} {B c : Nat} {ao : Option Addr} {L : List Int} (h : OwnK w B ao c L) : RdZ w ao L := rdZ_of_own h
theorem OwnK.later {w w' : World} {B c : Nat} {ao : Option Addr} {L : List Int} (h : OwnK w B ao c L) (hb : Below w.heap.size w w') : OwnK w' B ao c L := own_kept h hb
theorem OwnK.base {w : World} {B B' c : Nat} {ao : Option Addr} {L : List Int} (h : OwnK w B ao c L) (hB : B' ≤ B) : OwnK w B' ao c L := own_base h hB
theorem OwnK.lt {w : World} {B c : Nat} {ao : Option Addr} {L : List Int} (h : OwnK w B ao c L) : ∀ g, (Value.slice ao L.length c).ownBlock = some g → B ≤ g ∧ g < w.heap.size := fun g e => World.ownsRow.lt h g e
/-- What a maker answers, with the answer's parts named. -/
theorem MadeK.open {w w' : World} {e : Ending} {R : List Int × Int} (h : MadeK w w' e R) : ∃ (ao : Option Addr) (c : Nat) (L : List Int) (M : Int), R = (L, M) ∧ e = .returned (.agg #[.slice ao L.length c, .int .i64 M]) ∧ OwnK w' w.heap.size ao c L ∧ Below w.heap.size w w' := by
  obtain ⟨ao, c, rfl, ho, hb⟩ := h
  exact ⟨ao, c, R.1, R.2, rfl, rfl, ho, hb⟩
end Go.Proofs.YtenmpciimocggaaGreat
