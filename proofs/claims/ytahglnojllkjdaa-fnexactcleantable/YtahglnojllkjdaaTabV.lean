/- What comes in as a table, opened; tables held in variables. -/
import Derived.Test.YtahglnojllkjdaaTabSE
import Derived.Deep.SlicePairs
import Derived.Lib.SmallJoins
import Derived.ProofKit
import Derived.OpenShut
namespace Go.Proofs.Ytahglnojllkjdaa
open Go.ChangeShapes Go.WideShapes Go.ChangeAt Go.RowKit Go.Deep Go.Joins

instance : Inhabited Ce := ⟨zC⟩

set_option maxRecDepth 100000 in
theorem open_cell {H : Type} {enc : TypeId × Value → H} {w : World} {base fuel : Nat} {sp : Nat → Bool} {held : Bool} {cs : List Value} {x : DataW H × List MemPlace} (h : DataW.trod enc Try.prog w base sp held fuel 84 cs = some x) :
    ∃ s : Ce, cs = ceC s ∧ s.key.size ≤ maxLen := by
  obtain ⟨xs, n, _, _, hlen, hxl, hf⟩ := DataW.trod_struct Try.underlying84 h
  have hc : Try.prog.cellsOf 84 = 2 := by kernel_rfl
  rw [hc] at hlen
  match xs, hxl, cs, hlen with
  | [q0, q1], _, [v0, v1], _ =>
    have g0 := hf 0 _ rfl
    have g1 := hf 1 _ rfl
    have ci : Try.prog.cellsOf 3 = 1 := by kernel_rfl
    have cst : Try.prog.cellsOf 9 = 1 := by kernel_rfl
    simp [ci, cst] at g0 g1
    obtain ⟨s0, e0, _, w0⟩ := DataW.trod_string Try.underlying9 g0
    obtain ⟨n1, e1, _, w1⟩ := DataW.trod_int Try.underlying3 g1
    simp at e0 e1
    subst e0 e1
    exact ⟨⟨s0, n1⟩, rfl, w0⟩

set_option maxRecDepth 100000 in
theorem open_cells {H : Type} {enc : TypeId × Value → H} {w : World} {base fuel : Nat} {sp : Nat → Bool} {held : Bool} {cs : List Value} {x : DataW H × List MemPlace} (h : DataW.trod enc Try.prog w base sp held fuel 32 cs = some x) :
    ∃ (ao : Option Addr) (l : List Ce) (ca : Nat), cs = [.slice ao l.length ca] ∧ RdJ w ao l ∧ l.length ≤ maxLen ∧ ∀ i (h : i < l.length), l[i].key.size ≤ maxLen := by
  rcases open_slice Try.underlying32 h with ⟨rfl, _⟩ | ⟨a, len, cap, m, n, D, Pl, rfl, hb, hl, hm, hmm, _, hx⟩
  · exact ⟨none, [], 0, rfl, fun i hi => by simp at hi, Nat.zero_le _, fun i hi => by simp at hi⟩
  have hlm : len ≤ m := by rw [hmm]; split <;> omega
  have hc : Try.prog.cellsOf 84 = 2 := by kernel_rfl
  have each : ∀ i, i < m → ∃ s : Ce, s.key.size ≤ maxLen ∧ ∀ j, j < 2 → w.cell? ((a.add (i * 2)).add j) = (ceC s)[j]? := by
    intro i hi
    obtain ⟨cs', h1, h2⟩ := hx i hi
    rw [hc] at h1
    obtain ⟨_, hlen, hcell⟩ := World.cells?_some h1
    obtain ⟨s, rfl, hw⟩ := open_cell h2
    exact ⟨s, hw, fun j hj => hcell j (by omega)⟩
  obtain ⟨S, hS⟩ := choose_lt each
  refine ⟨some a, (List.range len).map S, cap, by simp, ?_, by simp; omega, ?_⟩
  · intro i hi
    have hi' : i < len := by simpa using hi
    have hc5 := (hS i (by omega)).2
    obtain ⟨b, o, spot⟩ := a
    have hspot : spot = none := by
      have := (hS 0 (by omega)).2 0 (by omega)
      simpa [Addr.add, ceC] using World.cell?_spot this
    subst hspot
    simp only [Addr.add_lit] at hc5
    have hlt : b < w.heap.size := World.block_lt_of_cell? w _ (hc5 0 (by omega))
    refine ⟨b, o, rfl, hlt, ?_⟩
    simp only [List.getElem_map, List.getElem_range]
    exact ⟨by simpa [ceC] using hc5 0 (by omega), by simpa [ceC] using hc5 1 (by omega)⟩
  · intro i hi
    have hi' : i < len := by simpa using hi
    simp only [List.getElem_map, List.getElem_range]
    exact (hS i (by omega)).1

set_option maxRecDepth 100000 in
theorem open_table {H : Type} {enc : TypeId × Value → H} {w : World} {r : Reach} {b0 base : Nat} {sp : Nat → Bool} {held : Bool} {v : Value} {d : DataW H} {p : List MemPlace} (hv : Value.okWide Try.prog w r b0 34 v) (h : DataW.Trod enc Try.prog w base sp held 34 v d p) :
    ∃ (ao : Option Addr) (l : List Ce) (ca : Nat) (a' : Option Addr) (o : List Ce) (ca' : Nat) (mv : Int), v = tbV ao l.length ca a' o.length ca' mv ∧ RdJ w ao l ∧ RdJ w a' o ∧ (l.length ≤ maxLen ∧ ∀ i (h : i < l.length), l[i].key.size ≤ maxLen) ∧ (o.length ≤ maxLen ∧ ∀ i (h : i < o.length), o[i].key.size ≤ maxLen) := by
  obtain ⟨v0, v1, v2, y0, y1, y2, n, rfl, _, _, h0, h1, h2⟩ := open_agg3 Try.underlying34 (by kernel_rfl) (by kernel_rfl) hv h
  obtain ⟨ao, l, ca, e0, hR, hl, hw⟩ := open_cells h0
  obtain ⟨a', o, ca', e1, hR', hl', hw'⟩ := open_cells h1
  obtain ⟨mv, e2, _, _⟩ := DataW.trod_int Try.underlying3 h2
  simp at e0 e1 e2
  subst e0 e1 e2
  exact ⟨ao, l, ca, a', o, ca', mv, rfl, hR, hR', ⟨hl, hw⟩, ⟨hl', hw'⟩⟩

theorem eqTable_same (a b a' b' : Option Addr) (l l' : List Ce) (ca cb ca' cb' : Nat) (v : Int) (w : World) (hl : l.length ≤ 1048576) (hl' : l'.length ≤ 1048576) (ha : RdC w a l) (hb : RdC w b l) (ha' : RdC w a' l') (hb' : RdC w b' l') :
    Calls Try.prog 17 #[tbV a l.length ca a' l'.length ca' v, tbV b l.length cb b' l'.length cb' v] w fun e w' => e = .returned (.bool true) ∧ Below w.heap.size w w' := by
  refine (eqTable_any a b a' b' l l l' l' ca cb ca' cb' v v w hl hl' ha hb ha' hb').mono ?_
  rintro e w' ⟨x, rfl, hx, hb⟩
  obtain rfl : x = true := hx.2 ⟨rfl, rfl, rfl⟩
  exact ⟨rfl, hb⟩

/-- A variable that holds a table. -/
def VarT (w : World) (t : TypeId) (A : Nat) (ao : Option Addr) (n c : Nat) (a' : Option Addr) (m c' : Nat) (M : Int) : Prop := Blk w A t [.slice ao n c, .slice a' m c', .int .i64 M]
theorem VarT.cells {w : World} {t : TypeId} {A n c m c' : Nat} {ao a' : Option Addr} {M : Int} (h : VarT w t A ao n c a' m c' M) : A < w.heap.size ∧ w.cell? ⟨A, 0, none⟩ = some (.slice ao n c) ∧ w.cell? ⟨A, 1, none⟩ = some (.slice a' m c') ∧ w.cell? ⟨A, 2, none⟩ = some (.int .i64 M) :=
  ⟨Blk.lt h, Blk.cell h 0, Blk.cell h 1, Blk.cell h 2⟩
theorem VarT.later {w w' : World} {t : TypeId} {A n c m c' : Nat} {ao a' : Option Addr} {M : Int} (h : VarT w t A ao n c a' m c' M) (hb : Below w.heap.size w w') : VarT w' t A ao n c a' m c' M := Blk.below h hb (Blk.lt h)
theorem VarT.below {w w' : World} {t : TypeId} {A n c m c' B : Nat} {ao a' : Option Addr} {M : Int} (h : VarT w t A ao n c a' m c' M) (hb : Below B w w') (hA : A < B) : VarT w' t A ao n c a' m c' M := Blk.below h hb hA
theorem VarT.box {w w1 : World} {t : TypeId} {n c m c' : Nat} {ao a' : Option Addr} {M : Int} (hb : Below (w.alloc (.cells #[.slice ao n c, .slice a' m c', .int .i64 M] t)).heap.size (w.alloc (.cells #[.slice ao n c, .slice a' m c', .int .i64 M] t)) w1) : VarT w1 t w.heap.size ao n c a' m c' M :=
  Blk.below (Blk.new w t _) hb (by rw [World.size_alloc]; omega)
theorem box_below {w w1 : World} {o : Obj} (hb : Below (w.alloc o).heap.size (w.alloc o) w1) : Below w.heap.size w w1 := ((Below.refl _ _).alloc (Nat.le_refl _) _).trans (hb.mono (by rw [World.size_alloc]; omega))
theorem box_size {w w1 : World} {o : Obj} (hb : Below (w.alloc o).heap.size (w.alloc o) w1) : w.heap.size + 1 ≤ w1.heap.size := by have := hb.size; rw [World.size_alloc] at this; exact this
/-- What came in, and the model's answer, below a bound. -/
structure BndT (B : Nat) (w : World) (s : Nat) (ao : Option Addr) (l : List Ce) (ca : Nat) (a' : Option Addr) (o : List Ce) (ca' : Nat) (mv : Int) (A : Nat) (po : Option Addr) (L : List Ce) (cp : Nat) (po' : Option Addr) (O : List Ce) (cp' : Nat) (M : Int) : Prop where
  ls : s < B
  lA : A < B
  lp : ∀ b, po = some ⟨b, 0, none⟩ → b < B
  lp' : ∀ b, po' = some ⟨b, 0, none⟩ → b < B
  li : ∀ b f, ao = some ⟨b, f, none⟩ → l ≠ [] → b < B
  li' : ∀ b f, a' = some ⟨b, f, none⟩ → o ≠ [] → b < B
  v0 : VarT w 34 s ao l.length ca a' o.length ca' mv
  ri : RdJ w ao l
  ri' : RdJ w a' o
  v6 : VarT w 26 A po L.length cp po' O.length cp' M
  r6 : RdC w po L
  r6' : RdC w po' O
theorem RdC.below {w w' : World} {a : Option Addr} {l : List Ce} {B : Nat} (h : RdC w a l) (hb : Below B w w') (hB : ∀ b, a = some ⟨b, 0, none⟩ → b < B) : RdC w' a l := by
  rcases h with h | ⟨g, ha, hg, hc⟩
  · exact .inl h
  · exact .inr ⟨g, ha, Nat.lt_of_lt_of_le hg hb.size, fun i hi => (hc i hi).below hb (hB g ha)⟩
theorem RdJ.below {w w' : World} {a : Option Addr} {l : List Ce} {B : Nat} (h : RdJ w a l) (hb : Below B w w') (hB : ∀ b f, a = some ⟨b, f, none⟩ → l ≠ [] → b < B) : RdJ w' a l := by
  intro i hi
  obtain ⟨b, o, ha, hg, hc⟩ := h i hi
  exact ⟨b, o, ha, Nat.lt_of_lt_of_le hg hb.size, hc.below hb (hB b o ha (fun e => by subst e; simp at hi))⟩
theorem BndT.below {B s ca ca' A cp cp' : Nat} {w w' : World} {ao a' po po' : Option Addr} {l o L O : List Ce} {mv M : Int} (h : BndT B w s ao l ca a' o ca' mv A po L cp po' O cp' M) (hb : Below B w w') : BndT B w' s ao l ca a' o ca' mv A po L cp po' O cp' M :=
  ⟨h.ls, h.lA, h.lp, h.lp', h.li, h.li', h.v0.below hb h.ls, h.ri.below hb h.li, h.ri'.below hb h.li', h.v6.below hb h.lA, h.r6.below hb h.lp, h.r6'.below hb h.lp'⟩
theorem BndT.later {B s ca ca' A cp cp' : Nat} {w w' : World} {ao a' po po' : Option Addr} {l o L O : List Ce} {mv M : Int} (h : BndT B w s ao l ca a' o ca' mv A po L cp po' O cp' M) (hB : B ≤ w.heap.size) (hb : Below w.heap.size w w') : BndT B w' s ao l ca a' o ca' mv A po L cp po' O cp' M := h.below (hb.mono hB)
theorem RdJ.inB {w : World} {a : Option Addr} {l : List Ce} {B : Nat} (h : RdJ w a l) (hB : w.heap.size ≤ B) : ∀ b f, a = some ⟨b, f, none⟩ → l ≠ [] → b < B := by
  intro b f ha hne
  obtain ⟨b', f', ha', hg, _⟩ := h 0 (List.length_pos_iff.2 hne)
  rw [ha] at ha'
  simp at ha'
  omega
theorem own_lt2 {w : World} {base n c : Nat} {ao : Option Addr} {xs : List Value} (h : w.ownsRow base 65 2 (.slice ao n c) n xs) : ∀ b, ao = some ⟨b, 0, none⟩ → b < w.heap.size := fun b e => (h.lt b (by rw [e]; rfl)).2
/-- Two rows of a table that are the call's own, behind a bound. -/
def Own2 (w : World) (B : Nat) (ao : Option Addr) (c : Nat) (L : List Ce) (a' : Option Addr) (c' : Nat) (O : List Ce) : Prop := w.ownsRow B 65 2 (.slice ao L.length c) L.length (ces L) ∧ w.ownsRow B 65 2 (.slice a' O.length c') O.length (ces O) ∧ apart2 (.slice ao L.length c) (.slice a' O.length c')
theorem Own2.rd {w : World} {B c c' : Nat} {ao a' : Option Addr} {L O : List Ce} (h : Own2 w B ao c L a' c' O) : RdC w ao L ∧ RdC w a' O := ⟨rdC_of_own h.1, rdC_of_own h.2.1⟩
theorem Own2.later {w w' : World} {B c c' : Nat} {ao a' : Option Addr} {L O : List Ce} (h : Own2 w B ao c L a' c' O) (hb : Below w.heap.size w w') : Own2 w' B ao c L a' c' O := ⟨own_kept h.1 hb, own_kept h.2.1 hb, h.2.2⟩
theorem Own2.base {w : World} {B B' c c' : Nat} {ao a' : Option Addr} {L O : List Ce} (h : Own2 w B ao c L a' c' O) (hB : B' ≤ B) : Own2 w B' ao c L a' c' O := ⟨own_base h.1 hB, own_base h.2.1 hB, h.2.2⟩
/-- The blocks of two rows lie between two bounds. -/
theorem Own2.lt {w : World} {B c c' : Nat} {ao a' : Option Addr} {L O : List Ce} (h : Own2 w B ao c L a' c' O) : ∀ g, ((Value.slice ao L.length c).ownBlock = some g ∨ (Value.slice a' O.length c').ownBlock = some g) → B ≤ g ∧ g < w.heap.size := by
  rintro g (e | e)
  · exact h.1.lt g e
  · exact h.2.1.lt g e
/-- What a mark of a table leaves as it was: all but its rows. -/
structure Mk2 (w w' : World) (u v : Value) : Prop where
  block : ∀ j, j < w.heap.size → u.ownBlock ≠ some j → v.ownBlock ≠ some j → w'.heap[j]? = w.heap[j]?
  os : w'.os = w.os
  tape : w'.tape = w.tape
  output : w'.output = w.output
  size : w.heap.size ≤ w'.heap.size
theorem Mk2.below {w w' : World} {u v : Value} {B : Nat} (h : Mk2 w w' u v) (hB : ∀ g, (u.ownBlock = some g ∨ v.ownBlock = some g) → B ≤ g) (hs : B ≤ w.heap.size) : Below B w w' :=
  ⟨h.os, h.tape, h.output, h.size, fun k hk => h.block k (by omega) (fun e => by have := hB k (.inl e); omega) (fun e => by have := hB k (.inr e); omega)⟩
theorem Mk2.blk {w w' : World} {u v : Value} {r : Nat} {t : TypeId} {cs : List Value} (h : Mk2 w w' u v) (hB : Blk w r t cs) (h1 : u.ownBlock ≠ some r) (h2 : v.ownBlock ≠ some r) : Blk w' r t cs := (h.block r hB.lt h1 h2).trans hB
theorem Mk2.own {w w' : World} {u v x : Value} {base n : Nat} {xs : List Value} (h : Mk2 w w' u v) (hO : w.ownsRow base 65 2 x n xs) (h1 : ∀ k, x.ownBlock = some k → u.ownBlock ≠ some k) (h2 : ∀ k, x.ownBlock = some k → v.ownBlock ≠ some k) : w'.ownsRow base 65 2 x n xs := by
  refine ⟨hO.1, ?_⟩
  rcases hO.2 with ⟨hv, hn⟩ | ⟨g, cap, cur, hv, hb, hh, r⟩
  · exact .inl ⟨hv, hn⟩
  · have e : x.ownBlock = some g := by rw [hv]; rfl
    exact .inr ⟨g, cap, cur, hv, hb, (h.block g (Array.getElem?_eq_some_iff.1 hh).1 (h1 g e) (h2 g e)).trans hh, r⟩
theorem markTable_own (ao a' : Option Addr) (L O : List Ce) (c c' k B : Nat) (M : Int) (w : World) (hn : L.length ≤ 1048576) (hm : O.length ≤ 1048576) (hk : k ≤ 1048576) (hk0 : 0 < k) (h : Own2 w B ao c L a' c' O) :
    Calls Try.prog 18 #[tbV ao L.length c a' O.length c' M, .int .i64 (k : Int)] w fun e w' => e = .returned (.int .i64 ((k : Int) + 2 * (L.length : Int) + 2 * (O.length : Int))) ∧ RdC w' ao (patCs k L.length) ∧ RdC w' a' (patCs (k + 2 * L.length) O.length) ∧ Mk2 w w' (.slice ao L.length c) (.slice a' O.length c') := by
  refine (markTable_any ao a' L.length O.length c c' k M (ces L) (ces O) B B w hn hm hk hk0 h.1 h.2.1 h.2.2).mono ?_
  rintro e w' ⟨rfl, h1, h2, h3, h4, h5, h6, h7⟩
  exact ⟨rfl, rdC_of_own (l := patCs k L.length) (by rw [patCs_length]; exact h1), rdC_of_own (l := patCs (k + 2 * L.length) O.length) (by rw [patCs_length]; exact h2), ⟨h3, h4, h5, h6, h7⟩⟩
theorem toTable_own (ao a' : Option Addr) (l l' : List Ce) (ca ca' : Nat) (mv : Int) (w : World) (hl : l.length ≤ 1048576) (hl' : l'.length ≤ 1048576) (hA : RdJ w ao l) (hA' : RdJ w a' l') :
    Calls Try.prog 22 #[tbV ao l.length ca a' l'.length ca' mv] w fun e w' => ∃ b c b' c', e = .returned (tbV b l.length c b' l'.length c' mv) ∧ Own2 w' w.heap.size b c l b' c' l' ∧ Below w.heap.size w w' := by
  refine (toTable_any ao a' l l' ca ca' mv w hl hl' hA hA').mono ?_
  rintro e w' ⟨b, c, b', c', rfl, h1, h2, h3, h4⟩
  exact ⟨b, c, b', c', rfl, ⟨h1, h2, h3⟩, h4⟩
theorem put_small {l o : List Ce} {mv : Int} {key : ByteArray} {h : Int} {L O : List Ce} {M : Int} {t : Bool} (x : Ans (putOk l o mv key h) (putR l o mv key h) L O M t) : L.length ≤ 64 ∧ O.length ≤ 64 := by
  refine x.small fun l1 o1 m ok e => ?_
  have hl := ok.1.len
  unfold putR at e
  split at e
  · injection e with e
    injection e with e1 e2
    injection e2 with e2 e3
    rw [← e1, ← e2, List.length_set]
    exact ⟨hl.1, hl.2.1⟩
  · split at e
    · rename_i l' hp
      injection e with e
      injection e with e1 e2
      injection e2 with e2 e3
      rw [← e1, ← e2, goneO_length, putC_length hp]
      exact ⟨hl.1, hl.2.1⟩
    · cases e
theorem take_small {l o : List Ce} {mv : Int} {key : ByteArray} {L O : List Ce} {M : Int} {t : Bool} (x : Ans (OkT l o mv ∧ key.toList ≠ []) (takeR l o mv key) L O M t) : L.length ≤ 64 ∧ O.length ≤ 64 := by
  refine x.small fun l1 o1 m ok e => ?_
  have hl := ok.1.len
  unfold takeR at e
  split at e
  · injection e with e
    injection e with e1 e2
    injection e2 with e2 e3
    rw [← e1, ← e2, List.length_set]
    exact ⟨hl.1, hl.2.1⟩
  · split at e
    · injection e with e
      injection e with e1 e2
      injection e2 with e2 e3
      rw [← e1, ← e2, List.length_set]
      exact ⟨hl.1, hl.2.1⟩
    · cases e
theorem grow_small {l o : List Ce} {mv : Int} {L O : List Ce} {M : Int} {t : Bool} (x : Ans (growOk l o mv) (growR l) L O M t) : L.length ≤ 64 ∧ O.length ≤ 64 := by
  refine x.small fun l1 o1 m ok e => ?_
  injection e with e
  injection e with e1 e2
  injection e2 with e2 e3
  rw [← e1, ← e2, List.length_replicate]
  exact ⟨ok.2.2, ok.1.len.1⟩
theorem new_small {n : Int} {L O : List Ce} {M : Int} {t : Bool} (x : Ans (szOk n) (newR n) L O M t) : L.length ≤ 64 ∧ O.length ≤ 64 := by
  refine x.small fun l1 o1 m ok e => ?_
  injection e with e
  injection e with e1 e2
  injection e2 with e2 e3
  rw [← e1, ← e2, List.length_replicate]
  have : n = 4 ∨ n = 8 ∨ n = 16 ∨ n = 32 ∨ n = 64 := ok
  exact ⟨by omega, Nat.zero_le _⟩
end Go.Proofs.Ytahglnojllkjdaa
