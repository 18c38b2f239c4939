/- Drawn councils: what the draw of events holds. -/
import Derived.Test.YtgehdgmllilmgaaYZ
import Derived.Test.YtgehdgmllilmgaaCoZ
import Derived.Test.YtgehdgmllilmgaaBaD
import Derived.Test.YtgehdgmllilmgaaYR
namespace Go.Proofs.Ytgehdgmllilmgaa
open Go.RowKit
set_option linter.unusedVariables false

theorem ownBlkR {a : Option Addr} {n c q : Nat} (h : (Value.slice a n c).ownBlock = some q) : ∃ x, a = some x ∧ x.block = q := by
  cases a with
  | none => cases h
  | some x => exact ⟨x, rfl, by have h : some x.block = some q := h; injection h⟩
section
variable {α : Type} {enc : α → List Value} {k : Nat}
theorem RdG.move {w w' : World} {a : Option Addr} {l : List α} {r : Option Nat} (h : RdG enc k w a l) (hb : w.grownBy w' r) (hn : ∀ b o, a = some ⟨b, o, none⟩ → 0 < l.length → r ≠ some b) : RdG enc k w' a l := by
  intro i hi
  obtain ⟨b, o, ha, hg, hc⟩ := h i hi
  refine ⟨b, o, ha, Nat.lt_of_lt_of_le hg hb.size, fun j hj => ?_⟩
  rw [← hc j hj]
  have := hb.block b hg (fun e => hn b o ha (by omega) e.symm)
  simp only [World.cell?, this]
theorem RdG.lt {w : World} {a : Option Addr} {l : List α} (h : RdG enc k w a l) {b o : Nat} (ha : a = some ⟨b, o, none⟩) (hl : 0 < l.length) : b < w.heap.size := by
  obtain ⟨b', o', e, hg, _⟩ := h 0 hl
  rw [ha] at e
  injection e with e
  injection e with e1 e2
  omega
end
theorem NeA.apart {lo : Nat → Prop} {B g n : Nat} {a : Option Addr} (h : NeA lo B a n) (hg : ∀ b, lo b → b ≠ g) : NeA lo g a n := fun b o e hn => ⟨hg b (h b o e hn).2, (h b o e hn).2⟩
theorem RdC12.apart {lo : Nat → Prop} {B g : Nat} {w w' : World} {A : CA} {c : Cn} (h : RdC12 lo w B A c) (hg : ∀ b, lo b → b ≠ g) (hb : w.grownBy w' (some g)) : RdC12 lo w' B A c :=
  ⟨h.v.grown hb (h.vn.apart hg), h.vn, h.e, h.t.grown hb (h.tn.apart hg), h.tn, fun t ht => ⟨(h.r t ht).1.grown hb ((h.r t ht).2.1.apart hg), (h.r t ht).2.1, (h.r t ht).2.2.1.grown hb ((h.r t ht).2.2.2.apart hg), (h.r t ht).2.2.2⟩, h.n.grown hb (h.nn.apart hg), h.nn, h.nl, h.c.grown hb (h.cn.apart hg), h.cn⟩
theorem VaC.apart {lo : Nat → Prop} {B g : Nat} {w w' : World} {A : CA} {c : Cn} (h : VaC lo w B A c) (hg : ∀ b, lo b → b ≠ g) (hB : g ≠ B) (hb : w.grownBy w' (some g)) : VaC lo w' B A c :=
  ⟨gblk hb h.b (by intro e; injection e; omega), h.lw.trans hb.size, h.r.apart hg hb⟩
/-- A change of other memory, and other bounds for the rows. -/
theorem RdC12.move {lo lo' : Nat → Prop} {B : Nat} {r : Option Nat} {w w' : World} {A : CA} {c : Cn} (h : RdC12 lo w B A c) (hb : w.grownBy w' r) (hg : ∀ b, lo b → r ≠ some b) (hr : ∀ b, b < w.heap.size → lo b → lo' b) : RdC12 lo' w' B A c := by
  have nn : ∀ {α : Type} {enc : α → List Value} {k : Nat} {a : Option Addr} {l : List α}, RdG enc k w a l → NeA lo B a l.length → RdG enc k w' a l ∧ NeA lo' B a l.length := fun hR hN =>
    ⟨hR.move hb (fun b o ha hl => hg b (hN b o ha hl).2), fun b o ha hl => ⟨(hN b o ha hl).1, hr b (hR.lt ha hl) (hN b o ha hl).2⟩⟩
  exact ⟨(nn h.v h.vn).1, (nn h.v h.vn).2, h.e, (nn h.t h.tn).1, (nn h.t h.tn).2, fun t ht => ⟨(nn (h.r t ht).1 (h.r t ht).2.1).1, (nn (h.r t ht).1 (h.r t ht).2.1).2, (nn (h.r t ht).2.2.1 (h.r t ht).2.2.2).1, (nn (h.r t ht).2.2.1 (h.r t ht).2.2.2).2⟩, (nn h.n h.nn).1, (nn h.n h.nn).2, h.nl, (nn h.c h.cn).1, (nn h.c h.cn).2⟩
theorem RdC12.moveU {lo : Nat → Prop} {B : Nat} {r : Option Nat} {w0 w w' : World} {A : CA} {c : Cn} (h0 : RdC12 lo w0 B A c) (h : RdC12 lo w B A c) (hb : w.grownBy w' r) (hr : ∀ b, b < w0.heap.size → r ≠ some b) : RdC12 lo w' B A c :=
  ⟨h.v.move hb (fun b o ha hl => hr b (h0.v.lt ha hl)), h.vn, h.e, h.t.move hb (fun b o ha hl => hr b (h0.t.lt ha hl)), h.tn, fun t ht => ⟨(h.r t ht).1.move hb (fun b o ha hl => hr b ((h0.r t ht).1.lt ha hl)), (h.r t ht).2.1, (h.r t ht).2.2.1.move hb (fun b o ha hl => hr b ((h0.r t ht).2.2.1.lt ha hl)), (h.r t ht).2.2.2⟩, h.n.move hb (fun b o ha hl => hr b (h0.n.lt ha hl)), h.nn, h.nl, h.c.move hb (fun b o ha hl => hr b (h0.c.lt ha hl)), h.cn⟩
/-- From m on, and not where the row eb lies. -/
def LoB (m : Nat) (eb : Option Addr) : Nat → Prop := fun b => m ≤ b ∧ ∀ x, eb = some x → b ≠ x.block
theorem LoB.none {m n : Nat} (h : m ≤ n) : LoLe (LoB m none) n := fun b hb => ⟨Nat.le_trans h hb, fun x hx => by cases hx⟩
/-- Others are put behind a row that lies beside a council. -/
theorem VaC.push {m B n ec : Nat} {w w' : World} {A : CA} {c : Cn} {eb b5 : Option Addr} (h : VaC (LoB m eb) w B A c) (hg : w.grownBy w' (Value.slice eb n ec).ownBlock) (hB : ∀ q, (Value.slice eb n ec).ownBlock = some q → q ≠ B) (hl : ∀ x, b5 = some x → (Value.slice eb n ec).ownBlock = some x.block ∨ w.heap.size ≤ x.block) (hlt : ∀ x, b5 = some x → x.block < w'.heap.size) : VaC (LoB m b5) w' B A c := by
  refine ⟨gblk hg h.b (fun e => hB _ e rfl), fun b hb => ⟨(h.lw b (Nat.le_trans hg.size hb)).1, fun x hx e => by have := hlt x hx; omega⟩, h.r.move hg (fun b hb e => ?_) (fun b hb h1 => ⟨h1.1, fun x hx e => ?_⟩)⟩
  · obtain ⟨x, hx, ex⟩ := ownBlkR e
    exact hb.2 x hx ex.symm
  · rcases hl x hx with e1 | e1
    · obtain ⟨y, hy, ey⟩ := ownBlkR e1
      exact h1.2 y hy (by omega)
    · omega
/-- The cursor, the answer's box, what is drawn in block D, the council in block X, the events. -/
structure StE (B g D X : Nat) (w wr : World) (a : Option Addr) (len cap v t : Nat) (eb : Option Addr) (ec : Nat) (A : CA) (c : Cn) (es : List Hp) : Prop where
  drw : Drw B wr a len cap g
  grown : w.grownBy wr (some g)
  hg : g < w.heap.size
  res : Blk wr w.heap.size 71 [.int .i64 0, .int .i64 0, .slice none 0 0]
  d : Blk wr D 71 [.int .i64 (v : Int), .int .i64 (t : Int), .slice eb es.length ec]
  hD : w.heap.size < D
  x : VaC (LoB (D + 1) eb) wr X A c
  hX : D < X
  ev : wr.ownsRow (X + 1) 40 4 (.slice eb es.length ec) es.length (rowG hpC es)
section
variable {B g D X : Nat} {w wr w2 : World} {a : Option Addr} {len cap v t : Nat} {eb : Option Addr} {ec : Nat} {A : CA} {c : Cn} {es : List Hp}
theorem StE.draw (h : StE B g D X w wr a len cap v t eb ec A c es) (hd : Drw B w2 a len cap g) (hg : wr.grownBy w2 (some g)) : StE B g D X w w2 a len cap v t eb ec A c es := by
  have e1 := h.hg
  have e2 := h.hD
  have e3 := h.hX
  exact ⟨hd, gtrans h.grown hg, h.hg, gblk hg h.res (by intro e; injection e; omega), gblk hg h.d (by intro e; injection e; omega), h.hD, h.x.apart (fun b hb => by have := hb.1; omega) (by omega) hg, h.hX, gown hg h.ev (fun k hk e => by injection e with e; have := (h.ev.lt k hk).1; omega)⟩
theorem StE.later (h : StE B g D X w wr a len cap v t eb ec A c es) (hb : Below wr.heap.size wr w2) : StE B g D X w w2 a len cap v t eb ec A c es :=
  ⟨h.drw.later hb, gtrans h.grown (gnew hb), h.hg, h.res.below hb h.res.lt, h.d.below hb h.d.lt, h.hD, h.x.later hb, h.hX, own_kept h.ev hb⟩
theorem StE.lX (h : StE B g D X w wr a len cap v t eb ec A c es) : X < wr.heap.size := h.x.b.lt
/-- The council goes on. -/
theorem StE.next {A' : CA} {c' : Cn} (h : StE B g D X w wr a len cap v t eb ec A c es) (hg : wr.grownBy w2 (some X)) (hx : VaC (LoB (D + 1) eb) w2 X A' c') : StE B g D X w w2 a len cap v t eb ec A' c' es := by
  have e1 := h.hg
  have e2 := h.hD
  have e3 := h.hX
  have hb : Below X wr w2 := gbelow hg (fun q hq => by injection hq with hq; omega) (Nat.le_of_lt h.lX)
  have hB := h.drw.cur.1
  refine ⟨h.drw.keep hb (by omega) (by omega), ?_, h.hg, gblk hg h.res (by intro e; injection e; omega), gblk hg h.d (by intro e; injection e; omega), h.hD, hx, h.hX, gown hg h.ev (fun k hk e => by injection e with e; have := (h.ev.lt k hk).1; omega)⟩
  have g1 := h.grown
  exact ⟨hg.os.trans g1.os, hg.tape.trans g1.tape, hg.output.trans g1.output, Nat.le_trans g1.size hg.size, fun k hk hne => (hb.block k (by omega)).trans (g1.block k hk hne)⟩
/-- An event is put behind the others. -/
theorem StE.push {e : Hp} {b5 : Option Addr} {c5 : Nat} (h : StE B g D X w wr a len cap v t eb ec A c es) (hg : wr.grownBy w2 (Value.slice eb es.length ec).ownBlock) (hp : ∀ x, b5 = some x → (Value.slice eb es.length ec).ownBlock = some x.block ∨ wr.heap.size ≤ x.block) (ho : w2.ownsRow (X + 1) 40 4 (.slice b5 (es.length + 1) c5) (es.length + 1) (rowG hpC (es ++ [e]))) :
    StE B g D X w (w2.setCell ⟨D, 2, none⟩ (.slice b5 (es.length + 1) c5)) a len cap v t b5 c5 A c (es ++ [e]) := by
  have e1 := h.hg
  have e2 := h.hD
  have e3 := h.hX
  have hB := h.drw.cur.1
  have lX := h.lX
  have hb : Below (X + 1) wr w2 := gbelow hg (fun q hq => (h.ev.lt q hq).1) lX
  have hx : VaC (LoB (D + 1) b5) w2 X A c := h.x.push hg (fun q hq => by have := (h.ev.lt q hq).1; omega) hp (fun x hx => (ho.lt x.block (by subst hx; rfl)).2)
  have hl : (es ++ [e]).length = es.length + 1 := by simp
  have hb2 : Below D wr (w2.setCell ⟨D, 2, none⟩ (.slice b5 (es.length + 1) c5)) := (show Below D wr w2 from hb.mono (by omega)).setCell (p := ⟨D, 2, none⟩) (Nat.le_refl _) _
  have g1 := h.grown
  refine ⟨h.drw.keep hb2 (by omega) (by omega), ⟨hb2.os.trans g1.os, hb2.tape.trans g1.tape, hb2.output.trans g1.output, Nat.le_trans g1.size hb2.size, fun k hk hne => (hb2.block k (by omega)).trans (g1.block k hk hne)⟩, h.hg, h.res.below hb2 (by omega), ?_, h.hD, ?_, h.hX, ?_⟩
  · rw [hl]
    exact Blk.set (h.d.below hb (by omega)) 2 (.slice b5 (es.length + 1) c5)
  · have hg : w2.grownBy (w2.setCell ⟨D, 2, none⟩ (.slice b5 (es.length + 1) c5)) (some D) := gset (World.grownBy.refl _ _) 2 _
    exact hx.apart (fun b hb => by have := hb.1; omega) (by omega) hg
  · rw [hl]
    exact gown (gset (World.grownBy.refl w2 (some D)) 2 _) ho (fun k hk e => by injection e with e; have := (ho.lt k hk).1; omega)
/-- A store into newer memory. -/
theorem StE.setE {wn : World} {E j : Nat} {u : Value} (h0 : StE B g D X w wr a len cap v t eb ec A c es) (h : StE B g D X w wn a len cap v t eb ec A c es) (hE : wr.heap.size ≤ E) (hn : E < wn.heap.size) : StE B g D X w (wn.setCell ⟨E, j, none⟩ u) a len cap v t eb ec A c es := by
  have e1 := h.hg
  have e2 := h.hD
  have e3 := h.hX
  have e4 := h0.lX
  have hB := h.drw.cur.1
  have hg : wn.grownBy (wn.setCell ⟨E, j, none⟩ u) (some E) := gset (World.grownBy.refl _ _) j u
  have hb : Below wr.heap.size wn (wn.setCell ⟨E, j, none⟩ u) := gbelow hg (fun q hq => by injection hq with hq; omega) (by omega)
  have g1 := h.grown
  refine ⟨h.drw.keep hb (by omega) (by omega), ⟨hb.os.trans g1.os, hb.tape.trans g1.tape, hb.output.trans g1.output, Nat.le_trans g1.size hb.size, fun k hk hne => (hb.block k (by omega)).trans (g1.block k hk hne)⟩, h.hg, gblk hg h.res (by intro e; injection e; omega), gblk hg h.d (by intro e; injection e; omega), h.hD, ⟨gblk hg h.x.b (by intro e; injection e; omega), h.x.lw.trans hg.size, h0.x.r.moveU h.x.r hg (fun b hb e => by injection e; omega)⟩, h.hX, gown hg h.ev (fun k hk e => by injection e with e; have := (h0.ev.lt k hk).2; omega)⟩
end
end Go.Proofs.Ytgehdgmllilmgaa
