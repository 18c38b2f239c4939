/- What the walk of FnGrows holds. -/
import Derived.Test.YtinjohpeanlalaaLawGP
namespace Go.Proofs.Ytinjohpeanlalaa
open Go.RowKit

theorem cell_grown {w w' : World} {U g j : Nat} (hg : w.grownBy w' (some U)) (hl : g < w.heap.size) (hne : g ≠ U) : w'.cell? ⟨g, j, none⟩ = w.cell? ⟨g, j, none⟩ := World.cell?_of_block (hg.block g hl (fun e => hne (Option.some.inj e)))
theorem RdC.grown {w w' : World} {a : Option Addr} {l : List Ce} {U : Nat} (h : RdC w a l) (hg : w.grownBy w' (some U)) (hne : ∀ g, a = some ⟨g, 0, none⟩ → g ≠ U) : RdC w' a l := by
  rcases h with h | ⟨g, ha, hl, hc⟩
  · exact .inl h
  · exact .inr ⟨g, ha, Nat.lt_of_lt_of_le hl hg.size, fun i hi => ⟨(cell_grown hg hl (hne g ha)).trans (hc i hi).1, (cell_grown hg hl (hne g ha)).trans (hc i hi).2⟩⟩
theorem put3_grown (w : World) (U : Nat) (x y z : Value) : w.grownBy (put3 w U x y z) (some U) := gset (gset (gset (World.grownBy.refl _ _) _ _) _ _) _ _
theorem OneT2.store {w : World} {A base b c b' c' : Nat} {L O : List Ce} {M : Int} {x y z : Value} (hv : Blk w A 29 [x, y, z]) (hA : A < base) (hok : OkN L O M) (o1 : w.ownsRow base 47 2 (.slice (some ⟨b, 0, none⟩) L.length c) L.length (ces L)) (o2 : w.ownsRow base 47 2 (.slice (some ⟨b', 0, none⟩) O.length c') O.length (ces O)) :
    OneT2 (put3 w A (.slice (some ⟨b, 0, none⟩) L.length c) (.slice (some ⟨b', 0, none⟩) O.length c') (.int .i64 M)) A (some ⟨b, 0, none⟩) L c (some ⟨b', 0, none⟩) O c' M :=
  ⟨hok, put3_blk hv _ _ _, rdC_of_own (own_put3 o1 (fun k hk => by have := (o1.lt k hk).1; omega) _ _ _), rdC_of_own (own_put3 o2 (fun k hk => by have := (o2.lt k hk).1; omega) _ _ _)⟩
/-- The drawn numbers in memory. -/
def PlN (w : World) (p : Nat) (xs : List Nat) : Prop := p < w.heap.size ∧ ∀ j (h : j < xs.length), w.cell? ⟨p, j, none⟩ = some (.int .i64 (xs[j] : Int))
theorem PlN.later {w w' : World} {p : Nat} {xs : List Nat} (h : PlN w p xs) (hb : Below w.heap.size w w') : PlN w' p xs :=
  ⟨Nat.lt_of_lt_of_le h.1 hb.size, fun j hj => (hb.cell (p := ⟨p, j, none⟩) h.1).trans (h.2 j hj)⟩

theorem keyI2 {w w' : World} {A ca ca' : Nat} {ao a' : Option Addr} {l o : List Ce} {m : Int} (h : OneT2 w A ao l ca a' o ca' m) (hb : Below w.heap.size w w') :
    Calls Try.prog 23 #[.agg #[.slice ao l.length ca, .slice a' o.length ca', .int .i64 m]] w' fun e w'' => ∃ po pc, e = .returned (.slice po (keysL (sortE (entT l o))).length pc) ∧ WdT w'' po (keysL (sortE (entT l o))) ∧ (∀ g, po = some ⟨g, 0, none⟩ → w'.heap.size ≤ g) ∧ Below w'.heap.size w' w'' := by
  have hs := h.small
  refine (implKeys_any ao a' l o ca ca' m w' (by omega) (by omega) (h.rd.later hb).toJ (h.rd'.later hb).toJ).mono ?_
  rintro e w'' ⟨po, ks, pc, rfl, hk, ho, hb2⟩
  rcases hk with ⟨_, rfl⟩ | ⟨hn, _⟩
  · exact ⟨po, pc, rfl, wdT_own ho, fun g e => (ho.lt g (by rw [e]; rfl)).1, hb2⟩
  · exact absurd (okN_iff.2 h.ok) hn

structure GrS (w wr : World) (A : Nat) (ga : Nat) (l : List Ce) (ca : Nat) (a' : Option Addr) (ca' U : Nat) (uo : Option Addr) (Y : List Ce) (uc : Nat) (uo' : Option Addr) (Z : List Ce) (uc' M : Nat) (ko : Option Addr) (ks : List ByteArray) (p : Nat) (xs : List Nat) (i : Nat) : Prop where
  t : OneT2 wr A (some ⟨ga, 0, none⟩) l ca a' [] ca' 0
  u : OneT2 wr U uo Y uc uo' Z uc' (M : Int)
  wd : WdT wr ko ks
  ps : PlN wr p xs
  bw : Below w.heap.size w wr
  ent : ∀ z : ByteArray, z.toList ≠ [] → ∀ x, Ent Y Z z x ↔ Ent l [] z x
  len : Y.length = 2 * l.length
  prog : Z = [] ∨ (Grw Y Z M l.length ∧ i ≤ M ∧ M < l.length)
  fw : w.heap.size ≤ U
  fA : A ≠ U
  fa : ga ≠ U
  fk : ∀ g, ko = some ⟨g, 0, none⟩ → g ≠ U
  fp : p ≠ U
theorem GrS.later {w wr w' : World} {A ga : Nat} {l : List Ce} {ca : Nat} {a' : Option Addr} {ca' U : Nat} {uo : Option Addr} {Y : List Ce} {uc : Nat} {uo' : Option Addr} {Z : List Ce} {uc' M : Nat} {ko : Option Addr} {ks : List ByteArray} {p : Nat} {xs : List Nat} {i : Nat}
    (h : GrS w wr A ga l ca a' ca' U uo Y uc uo' Z uc' M ko ks p xs i) (hb : Below wr.heap.size wr w') : GrS w w' A ga l ca a' ca' U uo Y uc uo' Z uc' M ko ks p xs i :=
  ⟨h.t.later hb, h.u.later hb, h.wd.later hb, h.ps.later hb, h.bw.trans (hb.mono h.bw.size), h.ent, h.len, h.prog, h.fw, h.fA, h.fa, h.fk, h.fp⟩
theorem GrS.put {w wr w5 : World} {A ga : Nat} {l : List Ce} {ca : Nat} {a' : Option Addr} {ca' U : Nat} {uo : Option Addr} {Y : List Ce} {uc : Nat} {uo' : Option Addr} {Z : List Ce} {uc' M : Nat} {ko : Option Addr} {ks : List ByteArray} {p : Nat} {xs : List Nat} {i s b c b' c' base : Nat}
    (h : GrS w wr A ga l ca a' ca' U uo Y uc uo' Z uc' M ko ks p xs i) (hZ : Z ≠ []) (hs : 1 ≤ s) (hb : Below wr.heap.size wr w5) (hbs : wr.heap.size ≤ base) (o1 : w5.ownsRow base 47 2 (.slice (some ⟨b, 0, none⟩) (moveR Y Z M s).1.length c) (moveR Y Z M s).1.length (ces (moveR Y Z M s).1)) (o2 : w5.ownsRow base 47 2 (.slice (some ⟨b', 0, none⟩) (moveR Y Z M s).2.1.length c') (moveR Y Z M s).2.1.length (ces (moveR Y Z M s).2.1)) :
    GrS w (put3 w5 U (.slice (some ⟨b, 0, none⟩) (moveR Y Z M s).1.length c) (.slice (some ⟨b', 0, none⟩) (moveR Y Z M s).2.1.length c') (.int .i64 ((moveR Y Z M s).2.2 : Int))) A ga l ca a' ca' U (some ⟨b, 0, none⟩) (moveR Y Z M s).1 c (some ⟨b', 0, none⟩) (moveR Y Z M s).2.1 c' (moveR Y Z M s).2.2 ko ks p xs (i + 1) := by
  have h5 := h.later hb
  have hU := h.u.var.lt
  obtain ⟨hG, hiM, hMl⟩ := h.prog.resolve_left hZ
  have hR := hG.moveR s
  have hg := put3_grown w5 U (.slice (some ⟨b, 0, none⟩) (moveR Y Z M s).1.length c) (.slice (some ⟨b', 0, none⟩) (moveR Y Z M s).2.1.length c') (.int .i64 ((moveR Y Z M s).2.2 : Int))
  refine ⟨⟨h5.t.ok, (hg.block A h5.t.var.lt (fun e => h.fA (Option.some.inj e))).trans h5.t.var, h5.t.rd.grown hg (fun g e => ?_), .inl rfl⟩, OneT2.store h5.u.var (by omega) (OkN.moveR h.u.ok s) o1 o2, ?_, ⟨Nat.lt_of_lt_of_le h5.ps.1 hg.size, fun j hj => (cell_grown hg h5.ps.1 h.fp).trans (h5.ps.2 j hj)⟩, put3_below h5.bw h.fw _ _ _, fun z hz x => (ent_moveR h.u.ok s z hz x).trans (h.ent z hz x), hR.1, ?_, h.fw, h.fA, h.fa, h.fk, h.fp⟩
  · have e1 : ga = g := by simpa using e
    rw [← e1]; exact h.fa
  · intro j hj
    obtain ⟨g, e1, e2, e3⟩ := h5.wd j hj
    exact ⟨g, e1, Nat.lt_of_lt_of_le e2 hg.size, (cell_grown hg e2 (h.fk g e1)).trans e3⟩
  · rcases hR.2 with ⟨e1, _⟩ | ⟨e1, e2, e3⟩
    · exact .inl e1
    · exact .inr ⟨e1, by omega, by omega⟩
end Go.Proofs.Ytinjohpeanlalaa
