/- The contract of the draw of a right place. -/
import Derived.Test.YtpckbhficjjogaaDrawA
import Derived.Test.YtpckbhficjjogaaXBW
import Derived.Test.YtpckbhficjjogaaRoom
namespace Go.Proofs.Ytpckbhficjjogaa
open Go.RowKit

theorem grow_trans {w w1 w2 : World} {r : Option Nat} (h : w.grownBy w1 r) (k : w1.grownBy w2 r) : w.grownBy w2 r :=
  ⟨k.os.trans h.os, k.tape.trans h.tape, k.output.trans h.output, Nat.le_trans h.size k.size, fun j hj hne => (k.block j (Nat.lt_of_lt_of_le hj h.size) hne).trans (h.block j hj hne)⟩
theorem Blk.grow {w w' : World} {r g : Nat} {t : TypeId} {cs : List Value} (h : Blk w r t cs) (hg : w.grownBy w' (some g)) (hne : r ≠ g) : Blk w' r t cs := (hg.block r h.lt (fun e => hne (by simpa using e))).trans h
theorem own_grow {w w' : World} {base n size g : Nat} {e : TypeId} {v : Value} {xs : List Value} (h : w.ownsRow base e size v n xs) (hg : w.grownBy w' (some g)) (hb : g < base) : w'.ownsRow base e size v n xs := by
  refine ⟨h.1, ?_⟩
  rcases h.2 with h2 | ⟨k, cap, cur, hv, hk, hh, r⟩
  · exact .inl h2
  · exact .inr ⟨k, cap, cur, hv, hk, by rw [hg.block k (Array.getElem?_eq_some_iff.1 hh).1 (fun e => by simp at e; omega)]; exact hh, r⟩

/-- What the draw of a place holds: its variable in block A, its row, the cursor. -/
structure StA (B g A : Nat) (w wr : World) (a : Option Addr) (len cap : Nat) (l : List Sl) (f : Int) (b c : Nat) : Prop where
  ok : OkA l f
  var : Blk wr A 26 [.slice (some ⟨b, 0, none⟩) l.length c, .int .i64 f]
  own : wr.ownsRow (w.heap.size + 1) 40 5 (.slice (some ⟨b, 0, none⟩) l.length c) l.length (sls l)
  ne : b ≠ A
  res : Blk wr w.heap.size 26 [.slice none 0 0, .int .i64 0]
  drw : Drw B wr a len cap g
  grown : w.grownBy wr (some g)
  hg : g < w.heap.size
  hA : w.heap.size < A
theorem StA.draw {B g A : Nat} {w wr w2 : World} {a : Option Addr} {len cap : Nat} {l : List Sl} {f : Int} {b c : Nat} (h : StA B g A w wr a len cap l f b c) (hd : Drw B w2 a len cap g) (hg : wr.grownBy w2 (some g)) : StA B g A w w2 a len cap l f b c :=
  ⟨h.ok, h.var.grow hg (by have := h.hg; have := h.hA; omega), own_grow h.own hg (by have := h.hg; omega), h.ne, h.res.grow hg (by have := h.hg; omega), hd, grow_trans h.grown hg, h.hg, h.hA⟩
theorem StA.later {B g A : Nat} {w wr w2 : World} {a : Option Addr} {len cap : Nat} {l : List Sl} {f : Int} {b c : Nat} (h : StA B g A w wr a len cap l f b c) (hb : Below wr.heap.size wr w2) : StA B g A w w2 a len cap l f b c :=
  ⟨h.ok, h.var.below hb h.var.lt, own_kept h.own hb, h.ne, h.res.below hb h.res.lt, h.drw.later hb, grow_trans h.grown (grow_new hb), h.hg, h.hA⟩
/-- The variable is set anew. -/
theorem StA.put {B g A : Nat} {w wr : World} {a : Option Addr} {len cap : Nat} {l l' : List Sl} {f f' : Int} {b c b' c' base : Nat} (h : StA B g A w wr a len cap l f b c) (ho : OkA l' f') (hown : wr.ownsRow base 40 5 (.slice (some ⟨b', 0, none⟩) l'.length c') l'.length (sls l')) (hbase : A < base) :
    StA B g A w ((wr.setCell ⟨A, 0, none⟩ (.slice (some ⟨b', 0, none⟩) l'.length c')).setCell ⟨A, 1, none⟩ (.int .i64 f')) a len cap l' f' b' c' := by
  have hgA : g < A := Nat.lt_trans h.hg h.hA
  have hb' : base ≤ b' := (hown.lt b' rfl).1
  have hA := h.hA
  have hne : ∀ k, (Value.slice (some ⟨b', 0, none⟩) l'.length c').ownBlock = some k → k ≠ A := fun k hk => by have := (hown.lt k hk).1; omega
  refine ⟨ho, ?_, own_base (own_far (own_far hown ⟨A, 0, none⟩ _ hne) ⟨A, 1, none⟩ _ hne) (by omega), by omega, Blk.far (Blk.far h.res ⟨A, 0, none⟩ _ (by dsimp only; omega)) ⟨A, 1, none⟩ _ (by dsimp only; omega), ?_, ?_, h.hg, h.hA⟩
  · have := Blk.set (Blk.set h.var 0 (.slice (some ⟨b', 0, none⟩) l'.length c')) 1 (.int .i64 f')
    exact this
  · have hb : Below A wr ((wr.setCell ⟨A, 0, none⟩ (.slice (some ⟨b', 0, none⟩) l'.length c')).setCell ⟨A, 1, none⟩ (.int .i64 f')) := ((Below.refl _ _).setCell (p := ⟨A, 0, none⟩) (Nat.le_refl _) _).setCell (p := ⟨A, 1, none⟩) (Nat.le_refl _) _
    refine h.drw.keep hb ?_ hgA
    exact Nat.le_trans h.drw.cur.1 (Nat.le_of_lt hgA)
  · have g1 := h.grown
    refine ⟨g1.os, g1.tape, g1.output, by have := g1.size; simpa [World.setCell] using this, fun k hk hne => ?_⟩
    rw [Below.heap_setCell _ _ _ _ (by dsimp only; omega), Below.heap_setCell _ _ _ _ (by dsimp only; omega)]
    exact g1.block k hk hne
/-- The Gen of a slot is set. -/
theorem StA.gen {B g A : Nat} {w wr : World} {a : Option Addr} {len cap : Nat} {l : List Sl} {f : Int} {b c : Nat} (h : StA B g A w wr a len cap l f b c) (k : Nat) (hk : k < l.length) (x : Int) (x1 : 0 ≤ x) (x2 : x ≤ 41666665) :
    StA B g A w (wr.setCell ⟨b, k * 5, none⟩ (.int .i64 x)) a len cap (l.set k { l[k] with gen := x }) f b c := by
  have hb := h.own.lt b rfl
  have hA := h.hA
  have hg := h.hg
  have e : (sls l).set (k * 5) (.int .i64 x) = sls (l.set k { l[k] with gen := x }) := by
    rw [sls_set l k _ hk]
    have hl : (sls l).length = l.length * 5 := sls_length l
    refine List.ext_getElem? fun j => ?_
    by_cases hj : j < k * 5
    · rw [List.getElem?_set_ne (by omega), List.append_assoc, List.getElem?_append_left (by rw [List.length_take]; omega), List.getElem?_take, if_pos hj]
    · rw [List.append_assoc, List.getElem?_append_right (by rw [List.length_take]; omega), List.length_take, show min (k * 5) (sls l).length = k * 5 by omega]
      by_cases hj5 : j < k * 5 + 5
      · rw [List.getElem?_append_left (by rw [slC_length]; omega)]
        obtain ⟨q, hq⟩ : ∃ q, j = k * 5 + q := ⟨j - k * 5, by omega⟩
        subst hq
        rw [show k * 5 + q - k * 5 = q by omega]
        have hs := sls_at l k q hk (by omega)
        match q, hj5, hs with
        | 0, _, _ => rw [Nat.add_zero, List.getElem?_set_self (by omega)]; rfl
        | 1, _, hs => rw [List.getElem?_set_ne (by omega), hs]; rfl
        | 2, _, hs => rw [List.getElem?_set_ne (by omega), hs]; rfl
        | 3, _, hs => rw [List.getElem?_set_ne (by omega), hs]; rfl
        | 4, _, hs => rw [List.getElem?_set_ne (by omega), hs]; rfl
        | q + 5, h, _ => omega
      · rw [List.getElem?_append_right (by rw [slC_length]; omega), slC_length, List.getElem?_drop, List.getElem?_set_ne (by omega), show k * 5 + 5 + (j - k * 5 - 5) = j by omega]
  have st := (World.ownsRow.stored h.own (k * 5) (.int .i64 x)).1
  rw [e] at st
  refine ⟨h.ok.gen hk x x1 x2, by rw [List.length_set]; exact Blk.far h.var _ _ (by have := h.ne; dsimp only; omega), by rw [List.length_set]; exact st, h.ne, Blk.far h.res _ _ (by dsimp only; omega), ?_, ?_, h.hg, h.hA⟩
  · exact h.drw.keep ((Below.refl _ _).setCell (p := ⟨b, k * 5, none⟩) (show w.heap.size ≤ b by omega) _) (Nat.le_trans h.drw.cur.1 (Nat.le_of_lt hg)) hg
  · have g1 := h.grown
    refine ⟨g1.os, g1.tape, g1.output, by have := g1.size; simpa [World.setCell] using this, fun k hk hne => ?_⟩
    rw [Below.heap_setCell _ _ _ _ (by dsimp only; omega)]
    exact g1.block k hk hne
end Go.Proofs.Ytpckbhficjjogaa
