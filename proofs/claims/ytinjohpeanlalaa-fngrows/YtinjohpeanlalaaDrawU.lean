/- The draw of a right table: the pieces. -/
import Derived.Test.YtinjohpeanlalaaDrawT
import Derived.Deep.Cut
namespace Go.Proofs.Ytinjohpeanlalaa
open Go.RowKit

theorem StT.v0 {B g A : Nat} {w wr : World} {a : Option Addr} {len cap : Nat} {l o : List Ce} {m ca ca' : Nat} {ao a' : Option Addr} (h : StT B g A w wr a len cap l o m ao ca a' ca') : wr.cell? ⟨A, 0, none⟩ = some (.slice ao l.length ca) := h.var.cell 0
theorem StT.v1 {B g A : Nat} {w wr : World} {a : Option Addr} {len cap : Nat} {l o : List Ce} {m ca ca' : Nat} {ao a' : Option Addr} (h : StT B g A w wr a len cap l o m ao ca a' ca') : wr.cell? ⟨A, 1, none⟩ = some (.slice a' o.length ca') := h.var.cell 1
theorem StT.v2 {B g A : Nat} {w wr : World} {a : Option Addr} {len cap : Nat} {l o : List Ce} {m ca ca' : Nat} {ao a' : Option Addr} (h : StT B g A w wr a len cap l o m ao ca a' ca') : wr.cell? ⟨A, 2, none⟩ = some (.int .i64 (m : Int)) := h.var.cell 2
theorem StT.rd {B g A : Nat} {w wr : World} {a : Option Addr} {len cap : Nat} {l o : List Ce} {m ca ca' : Nat} {ao a' : Option Addr} (h : StT B g A w wr a len cap l o m ao ca a' ca') : RdC wr ao l ∧ RdC wr a' o := ⟨rdC_of_own h.own, rdC_of_own h.own'⟩
theorem StT.gA {B g A : Nat} {w wr : World} {a : Option Addr} {len cap : Nat} {l o : List Ce} {m ca ca' : Nat} {ao a' : Option Addr} (h : StT B g A w wr a len cap l o m ao ca a' ca') : g < A := Nat.lt_trans h.hg h.hA
theorem StT.new {B g A : Nat} {w wr : World} {a : Option Addr} {len cap : Nat} {l o : List Ce} {m ca ca' : Nat} {ao a' : Option Addr} (h : StT B g A w wr a len cap l o m ao ca a' ca') (ob : Obj) : StT B g A w (wr.alloc ob) a len cap l o m ao ca a' ca' := h.later ((Below.refl _ _).alloc (Nat.le_refl _) ob)
theorem StT.drewS {B g A : Nat} {w wr : World} {a : Option Addr} {len cap : Nat} {l o : List Ce} {m ca ca' : Nat} {ao a' : Option Addr} (h : StT B g A w wr a len cap l o m ao ca a' ca') : StT B g A w wr.drew a len cap l o m ao ca a' ca' := h.later (Below.refl _ _).drew
theorem StT.small {B g A : Nat} {w wr : World} {a : Option Addr} {len cap : Nat} {l o : List Ce} {m ca ca' : Nat} {ao a' : Option Addr} (h : StT B g A w wr a len cap l o m ao ca a' ca') : l.length ≤ 1048576 ∧ o.length ≤ 1048576 ∧ OkT l o (m : Int) := by
  have h1 := okN_iff.2 h.ok
  have := h1.len
  exact ⟨by omega, by omega, h1⟩
/-- A maker's answer, told in one. -/
def OneT (w w' : World) (e : Ending) : Prop := ∃ (po : Option Addr) (pn pc : Nat) (p' : Option Addr) (pm pc' : Nat) (F : Int) (t : Bool), e = .returned (.tuple #[.agg #[.slice po pn pc, .slice p' pm pc', .int .i64 F], .bool t]) ∧ (t = true → ∃ (L O : List Ce) (M : Nat), pn = L.length ∧ pm = O.length ∧ F = (M : Int) ∧ OkN L O (M : Int) ∧ (KIn L ∧ KIn O) ∧ w'.ownsRow w.heap.size 47 2 (.slice po L.length pc) L.length (ces L) ∧ w'.ownsRow w.heap.size 47 2 (.slice p' O.length pc') O.length (ces O)) ∧ Below w.heap.size w w'
theorem madeT_one {w w' : World} {e : Ending} {ok : Prop} {R : Option (List Ce × List Ce × Int)} (h : MadeT w w' e ok R) (hr : ∀ L O M, ok → R = some (L, O, M) → OkN L O M ∧ KIn L ∧ KIn O) : OneT w w' e := by
  obtain ⟨p, L, c, p', O, c', M, t, rfl, ha, o1, o2, _, hb⟩ := h
  refine ⟨p, _, c, p', _, c', M, t, rfl, fun ht => ?_, hb⟩
  rcases ha with ⟨h1, h2, _⟩ | ⟨_, _, _, _, h5⟩
  · obtain ⟨k1, k2⟩ := hr L O M h1 h2
    obtain ⟨M', hM⟩ := Int.eq_ofNat_of_zero_le k1.moved.1
    subst hM
    exact ⟨L, O, M', rfl, rfl, rfl, k1, k2, o1, o2⟩
  · rw [h5] at ht; cases ht
theorem key_ne {z : ByteArray} (h : 1 ≤ z.size) : z.toList ≠ [] := by
  intro e
  have := size_toList z
  rw [e] at this
  simp at this
  omega
theorem StT.takeC {B g A : Nat} {w wr : World} {a : Option Addr} {len cap : Nat} {l o : List Ce} {m ca ca' : Nat} {ao a' : Option Addr} (h : StT B g A w wr a len cap l o m ao ca a' ca') {ky : ByteArray} (hk : InK ky) : Calls Try.prog 61 #[tbV ao l.length ca a' o.length ca' (m : Int), .string ky] wr fun e w' => OneT wr w' e :=
  (specTake_any ao a' l o ca ca' (m : Int) ky wr h.small.1 h.small.2.1 (by have := hk.size; omega) h.rd.1 h.rd.2).mono fun _ _ hm => madeT_one hm fun _ _ _ ok e => ⟨h.ok.take ok.2 e, KIn.take h.kin e⟩
theorem StT.putC {B g A : Nat} {w wr : World} {a : Option Addr} {len cap : Nat} {l o : List Ce} {m ca ca' : Nat} {ao a' : Option Addr} (h : StT B g A w wr a len cap l o m ao ca a' ca') {ky : ByteArray} (hk : InK ky) (x : Nat) : Calls Try.prog 14 #[tbV ao l.length ca a' o.length ca' (m : Int), .string ky, .int .i64 (x : Int)] wr fun e w' => OneT wr w' e :=
  (specPutKey_any ao a' l o ca ca' (m : Int) ky (x : Int) wr h.small.1 h.small.2.1 (by have := hk.size; omega) h.rd.1 h.rd.2).mono fun _ _ hm => madeT_one hm fun _ _ _ ok e => ⟨h.ok.put (key_ne hk.size.1) hk.size.2 ok.2.2.2 e, KIn.put h.kin hk e⟩
theorem StT.growC {B g A : Nat} {w wr : World} {a : Option Addr} {len cap : Nat} {l o : List Ce} {m ca ca' : Nat} {ao a' : Option Addr} (h : StT B g A w wr a len cap l o m ao ca a' ca') : Calls Try.prog 60 #[tbV ao l.length ca a' o.length ca' (m : Int)] wr fun e w' => OneT wr w' e :=
  (specGrow_any ao a' l o ca ca' (m : Int) wr h.small.1 h.small.2.1 h.rd.1 h.rd.2).mono fun _ _ hm => madeT_one hm fun _ _ _ ok e => by
    unfold growR at e
    injection e with e
    injection e with e1 e2
    injection e2 with e2 e3
    rw [← e1, ← e2, ← e3]
    exact ⟨h.ok.grow ok.2.2, KIn.rep _, h.kin.1⟩
theorem StT.moveC {B g A : Nat} {w wr : World} {a : Option Addr} {len cap : Nat} {l o : List Ce} {m ca ca' : Nat} {ao a' : Option Addr} (h : StT B g A w wr a len cap l o m ao ca a' ca') (s : Nat) (hs : s ≤ 1000) : Calls Try.prog 62 #[tbV ao l.length ca a' o.length ca' (m : Int), .int .i64 (s : Int)] wr fun e w' => ∃ (b c b' c' : Nat) (L O : List Ce) (M : Nat), e = .returned (.agg #[.slice (some ⟨b, 0, none⟩) L.length c, .slice (some ⟨b', 0, none⟩) O.length c', .int .i64 (M : Int)]) ∧ OkN L O (M : Int) ∧ (KIn L ∧ KIn O) ∧ w'.ownsRow wr.heap.size 47 2 (.slice (some ⟨b, 0, none⟩) L.length c) L.length (ces L) ∧ w'.ownsRow wr.heap.size 47 2 (.slice (some ⟨b', 0, none⟩) O.length c') O.length (ces O) ∧ Below wr.heap.size wr w' := by
  refine (specMove_any ao a' l o ca ca' m s wr hs h.small.2.2 h.rd.1 h.rd.2).mono ?_
  rintro e w' ⟨v, L, O, M, rfl, ⟨b, c, b', c', rfl, o1, o2, _, hb⟩, hm⟩
  obtain ⟨k1, k2⟩ := mvR_ok h.ok h.kin hm
  exact ⟨b, c, b', c', L, O, M, rfl, k1, k2, o1, o2, hb⟩
/-- A new variable beside it, in block X. -/
structure XtT (wr : World) (A X : Nat) (u v : Value) : Prop where
  blk : Blk wr X 29 [.slice none 0 0, .slice none 0 0, .int .i64 0]
  hA : A < X
  hu : ∀ k, u.ownBlock = some k → k < X
  hv : ∀ k, v.ownBlock = some k → k < X
theorem XtT.new {B g A : Nat} {w wr : World} {a : Option Addr} {len cap : Nat} {l o : List Ce} {m ca ca' : Nat} {ao a' : Option Addr} (h : StT B g A w wr a len cap l o m ao ca a' ca') : XtT (wr.alloc (.cells #[.slice none 0 0, .slice none 0 0, .int .i64 0] 29)) A wr.heap.size (.slice ao l.length ca) (.slice a' o.length ca') := ⟨Blk.new wr 29 #[.slice none 0 0, .slice none 0 0, .int .i64 0], h.var.lt, fun k hk => (h.own.lt k hk).2, fun k hk => (h.own'.lt k hk).2⟩
theorem XtT.later {wr w2 : World} {A X : Nat} {u v : Value} (h : XtT wr A X u v) (hb : Below wr.heap.size wr w2) : XtT w2 A X u v := ⟨h.blk.below hb h.blk.lt, h.hA, h.hu, h.hv⟩
theorem XtT.grow {wr w2 : World} {A X g : Nat} {u v : Value} (h : XtT wr A X u v) (hg : wr.grownBy w2 (some g)) (hgA : g < A) : XtT w2 A X u v := ⟨h.blk.grw hg (by have := h.hA; omega), h.hA, h.hu, h.hv⟩
theorem XtT.c0 {wr : World} {A X : Nat} {u v : Value} (h : XtT wr A X u v) : wr.cell? ⟨X, 0, none⟩ = some (.slice none 0 0) := h.blk.cell 0
theorem XtT.c1 {wr : World} {A X : Nat} {u v : Value} (h : XtT wr A X u v) : wr.cell? ⟨X, 1, none⟩ = some (.slice none 0 0) := h.blk.cell 1
theorem XtT.c2 {wr : World} {A X : Nat} {u v : Value} (h : XtT wr A X u v) : wr.cell? ⟨X, 2, none⟩ = some (.int .i64 0) := h.blk.cell 2
theorem XtT.fr {wr : World} {A X : Nat} {u v : Value} (h : XtT wr A X u v) (j : Nat) : wr.frozen? ⟨X, j, none⟩ = false := h.blk.froz j
theorem StT.fillX {B g A : Nat} {w wr : World} {a : Option Addr} {len cap : Nat} {l o : List Ce} {m ca ca' : Nat} {ao a' : Option Addr} (h : StT B g A w wr a len cap l o m ao ca a' ca') {X : Nat} (x : XtT wr A X (.slice ao l.length ca) (.slice a' o.length ca')) (u v z : Value) : StT B g A w (put3 wr X u v z) a len cap l o m ao ca a' ca' := by
  have hA := h.hA
  have hg := h.hg
  have hX := x.hA
  have hb := put3_below (Below.refl X wr) (Nat.le_refl _) u v z
  refine ⟨h.ok, h.kin, ?_, own_put3 h.own (fun k hk => by have := x.hu k hk; omega) _ _ _, own_put3 h.own' (fun k hk => by have := x.hv k hk; omega) _ _ _, h.ne, h.ne', ?_, h.drw.keep hb (Nat.le_trans h.drw.cur.1 (by omega)) (by omega), ?_, h.hg, h.hA⟩
  · unfold put3
    exact ((h.var.far _ _ (by dsimp only; omega)).far _ _ (by dsimp only; omega)).far _ _ (by dsimp only; omega)
  · unfold put3
    exact ((h.res.far _ _ (by dsimp only; omega)).far _ _ (by dsimp only; omega)).far _ _ (by dsimp only; omega)
  · have g1 := h.grown
    exact ⟨hb.os.trans g1.os, hb.tape.trans g1.tape, hb.output.trans g1.output, Nat.le_trans g1.size hb.size, fun k hk hne => (hb.block k (by omega)).trans (g1.block k hk hne)⟩
theorem own_fill3 {w : World} {base n size X : Nat} {e : TypeId} {y : Value} {xs : List Value} (h : w.ownsRow base e size y n xs) (hX : X < base) (u v z : Value) : (put3 w X u v z).ownsRow base e size y n xs :=
  own_put3 h (fun k hk => by have := (h.lt k hk).1; omega) u v z
/-- The draw is done: the result is stored. -/
theorem StT.done {B g A : Nat} {w wr : World} {a : Option Addr} {len cap : Nat} {l o : List Ce} {m ca ca' : Nat} {ao a' : Option Addr} (h : StT B g A w wr a len cap l o m ao ca a' ca') (u v x : Value) : (put3 wr w.heap.size u v x).ownsRow w.heap.size 47 2 (.slice ao l.length ca) l.length (ces l) ∧ (put3 wr w.heap.size u v x).ownsRow w.heap.size 47 2 (.slice a' o.length ca') o.length (ces o) ∧ Drw B (put3 wr w.heap.size u v x) a len cap g ∧ w.grownBy (put3 wr w.heap.size u v x) (some g) := by
  have hg := h.hg
  have hb := put3_below (Below.refl w.heap.size wr) (Nat.le_refl _) u v x
  refine ⟨own_base (own_put3 h.own (fun k hk => by have := (h.own.lt k hk).1; omega) _ _ _) (by omega), own_base (own_put3 h.own' (fun k hk => by have := (h.own'.lt k hk).1; omega) _ _ _) (by omega), h.drw.keep hb (Nat.le_trans h.drw.cur.1 (by omega)) hg, ?_⟩
  have g1 := h.grown
  exact ⟨hb.os.trans g1.os, hb.tape.trans g1.tape, hb.output.trans g1.output, Nat.le_trans g1.size hb.size, fun k hk hne => (hb.block k hk).trans (g1.block k hk hne)⟩
end Go.Proofs.Ytinjohpeanlalaa
