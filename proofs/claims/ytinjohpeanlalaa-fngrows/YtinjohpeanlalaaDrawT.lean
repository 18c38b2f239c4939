/- What the draw of a right table holds; the keys that are drawn. -/
import Derived.Test.YtinjohpeanlalaaXF
import Derived.Test.YtinjohpeanlalaaTabMA
namespace Go.Proofs.Ytinjohpeanlalaa
open Go.RowKit

/-- One of the drawn keys. -/
def InK (z : ByteArray) : Prop := ∃ j, j < 12 ∧ z = ⟨(keyL.getD j []).toArray⟩
theorem InK.size {z : ByteArray} (h : InK z) : 1 ≤ z.size ∧ z.size ≤ 12 := by
  obtain ⟨j, hj, rfl⟩ := h
  have := keyL_sizes ⟨j, hj⟩
  show 1 ≤ (keyL.getD j []).toArray.size ∧ (keyL.getD j []).toArray.size ≤ 12
  rw [List.size_toArray]
  exact this

set_option maxHeartbeats 400000 in
theorem key2_any {B : Nat} {w : World} {a : Option Addr} {len cap g : Nat} (h : Drw B w a len cap g) :
    Calls Try.prog 36 #[.pointer (some ⟨g, 0, none⟩)] w fun e w' => ∃ z : ByteArray, e = .returned (.string z) ∧ InK z ∧ Drw B w' a len cap g ∧ w.grownBy w' (some g) := by
  have hlt := h.lt
  go_enter Try.func36, Try.ntmps36
  go_wp2_with fail
  refine (pick_any (h.later ((Below.refl _ _).alloc (Nat.le_refl _) _)) w.heap.size 12 12 (by omega) (by omega) (by omega) (fun j => ⟨(keyL.getD j []).toArray⟩) (fun j hj => ?_) (by rw [World.size_alloc]; omega)).mono ?_
  · rw [World.cell?_alloc_at _ _ _ _ rfl]
    match j, hj with
    | 0, _ => rfl
    | 1, _ => rfl
    | 2, _ => rfl
    | 3, _ => rfl
    | 4, _ => rfl
    | 5, _ => rfl
    | 6, _ => rfl
    | 7, _ => rfl
    | 8, _ => rfl
    | 9, _ => rfl
    | 10, _ => rfl
    | 11, _ => rfl
  · rintro e w2 ⟨j, hj, rfl, h2, hb2⟩
    obtain ⟨z, hz⟩ : ∃ z : ByteArray, z = ⟨(keyL.getD j []).toArray⟩ := ⟨_, rfl⟩
    have HI := hide1 (show InK z from ⟨j, hj, hz⟩)
    rw [← hz]
    clear hz
    go_wp2
    go_ret
    exact ⟨z, rfl, HI.out, h2, (World.grownBy_alloc w _ _).trans hb2⟩

/-- All keys of cells are among the drawn ones. -/
def KIn (l : List Ce) : Prop := ∀ (i : Nat) (x : Ce), l[i]? = some x → x.key.toList ≠ [] → InK x.key
theorem KIn.set {l : List Ce} (h : KIn l) (k : Nat) {c : Ce} (hc : c.key.toList ≠ [] → InK c.key) : KIn (l.set k c) := by
  intro i x hx hk
  rcases set_at hx with ⟨_, rfl⟩ | ⟨_, hx⟩
  · exact hc hk
  · exact h i x hx hk
theorem KIn.gone {l : List Ce} (h : KIn l) (k : Nat) : KIn (l.set k gC) := h.set k (fun e => absurd gC_key e)
theorem KIn.nil : KIn [] := fun i x hx => by simp at hx
theorem KIn.rep (n : Nat) : KIn (List.replicate n nC) := fun i x hx hk => by rw [rep_at hx] at hk; exact absurd nC_no hk
theorem KIn.putC {l l' : List Ce} {key : ByteArray} {hd : Int} (h : KIn l) (hk : InK key) (e : Go.Proofs.Ytinjohpeanlalaa.putC l key hd = some l') : KIn l' := by
  unfold Go.Proofs.Ytinjohpeanlalaa.putC at e
  split at e
  · split at e
    · split at e
      · cases e
      · injection e with e; rw [← e]; exact h.set _ (fun _ => hk)
    · cases e
  · cases e
theorem KIn.goneO {o : List Ce} {key : ByteArray} (h : KIn o) : KIn (goneO o key) := by
  unfold Go.Proofs.Ytinjohpeanlalaa.goneO
  split
  · exact h.gone _
  · exact h
theorem KIn.take {l o L O : List Ce} {mv M : Int} {key : ByteArray} (h : KIn l ∧ KIn o) (e : takeR l o mv key = some (L, O, M)) : KIn L ∧ KIn O := by
  unfold takeR at e
  split at e
  · injection e with e
    injection e with e1 e2
    injection e2 with e2 e3
    rw [← e1, ← e2]
    exact ⟨h.1.gone _, h.2⟩
  · split at e
    · injection e with e
      injection e with e1 e2
      injection e2 with e2 e3
      rw [← e1, ← e2]
      exact ⟨h.1, h.2.gone _⟩
    · cases e
theorem KIn.put {l o L O : List Ce} {mv M : Int} {key : ByteArray} {hd : Int} (h : KIn l ∧ KIn o) (hk : InK key) (e : putR l o mv key hd = some (L, O, M)) : KIn L ∧ KIn O := by
  unfold putR at e
  split at e
  · injection e with e
    injection e with e1 e2
    injection e2 with e2 e3
    rw [← e1, ← e2]
    exact ⟨h.1.set _ (fun _ => hk), h.2⟩
  · split at e
    · rename_i l' hp
      injection e with e
      injection e with e1 e2
      injection e2 with e2 e3
      rw [← e1, ← e2]
      exact ⟨h.1.putC hk hp, h.2.goneO⟩
    · cases e
theorem KIn.moves : ∀ (s : Nat) {l o : List Ce} {m : Nat}, KIn l ∧ KIn o → KIn (moveS l o m s).1 ∧ KIn (moveS l o m s).2.1
  | 0, _, _, _, h => h
  | s + 1, l, o, m, h => by
    rw [moveS]
    cases hx : o[m]? with
    | none => exact h
    | some x =>
      simp only
      by_cases hk : x.key.toList = []
      · rw [if_pos hk]
        exact KIn.moves s ⟨h.1, h.2.gone _⟩
      · rw [if_neg hk]
        cases hp : Go.Proofs.Ytinjohpeanlalaa.putC l x.key x.h with
        | none => exact h
        | some l' => exact KIn.moves s ⟨h.1.putC (h.2 m x hx hk) hp, h.2.gone _⟩
/-- A table that MoveSome answers: right, its keys drawn ones. -/
theorem mvR_ok {l o L O : List Ce} {m M s : Nat} (h : OkN l o (m : Int)) (hk : KIn l ∧ KIn o) (e : (L, O, M) = mvR l o m s) : OkN L O (M : Int) ∧ KIn L ∧ KIn O := by
  unfold mvR at e
  split at e
  · injection e with e1 e2
    injection e2 with e2 e3
    rw [e1, e2, e3]
    exact ⟨h, hk⟩
  · have h1 := h.moveR s
    have h2 := KIn.moves s hk (m := m)
    rw [← e] at h1
    refine ⟨h1, ?_⟩
    unfold Go.Proofs.Ytinjohpeanlalaa.moveR at e
    split at e
    · injection e with e1 e2
      injection e2 with e2 e3
      rw [e1, e2]
      exact ⟨h2.1, KIn.nil⟩
    · rw [← e] at h2
      exact h2
theorem grow_tr {w w1 w2 : World} {r : Option Nat} (h : w.grownBy w1 r) (k : w1.grownBy w2 r) : w.grownBy w2 r := h.trans k
theorem Blk.grw {w w' : World} {r g : Nat} {t : TypeId} {cs : List Value} (h : Blk w r t cs) (hg : w.grownBy w' (some g)) (hne : r ≠ g) : Blk w' r t cs := (hg.block r h.lt (fun e => hne (by simpa using e))).trans h

/-- What the draw of a table holds: its variable in block A, its rows, the cursor. -/
structure StT (B g A : Nat) (w wr : World) (a : Option Addr) (len cap : Nat) (l o : List Ce) (m : Nat) (ao : Option Addr) (ca : Nat) (a' : Option Addr) (ca' : Nat) : Prop where
  ok : OkN l o (m : Int)
  kin : KIn l ∧ KIn o
  var : Blk wr A 29 [.slice ao l.length ca, .slice a' o.length ca', .int .i64 (m : Int)]
  own : wr.ownsRow (w.heap.size + 1) 47 2 (.slice ao l.length ca) l.length (ces l)
  own' : wr.ownsRow (w.heap.size + 1) 47 2 (.slice a' o.length ca') o.length (ces o)
  ne : ∀ k, (Value.slice ao l.length ca).ownBlock = some k → k ≠ A
  ne' : ∀ k, (Value.slice a' o.length ca').ownBlock = some k → k ≠ A
  res : Blk wr w.heap.size 29 [.slice none 0 0, .slice none 0 0, .int .i64 0]
  drw : Drw B wr a len cap g
  grown : w.grownBy wr (some g)
  hg : g < w.heap.size
  hA : w.heap.size < A
theorem StT.draw {B g A : Nat} {w wr w2 : World} {a : Option Addr} {len cap : Nat} {l o : List Ce} {m ca ca' : Nat} {ao a' : Option Addr} (h : StT B g A w wr a len cap l o m ao ca a' ca') (hd : Drw B w2 a len cap g) (hg : wr.grownBy w2 (some g)) : StT B g A w w2 a len cap l o m ao ca a' ca' :=
  ⟨h.ok, h.kin, h.var.grw hg (by have := h.hg; have := h.hA; omega), own_grown h.own hg (fun k hk => by have := (h.own.lt k hk).1; have := h.hg; omega), own_grown h.own' hg (fun k hk => by have := (h.own'.lt k hk).1; have := h.hg; omega), h.ne, h.ne', h.res.grw hg (by have := h.hg; omega), hd, grow_tr h.grown hg, h.hg, h.hA⟩
theorem StT.later {B g A : Nat} {w wr w2 : World} {a : Option Addr} {len cap : Nat} {l o : List Ce} {m ca ca' : Nat} {ao a' : Option Addr} (h : StT B g A w wr a len cap l o m ao ca a' ca') (hb : Below wr.heap.size wr w2) : StT B g A w w2 a len cap l o m ao ca a' ca' :=
  ⟨h.ok, h.kin, h.var.below hb h.var.lt, own_kept h.own hb, own_kept h.own' hb, h.ne, h.ne', h.res.below hb h.res.lt, h.drw.later hb, grow_tr h.grown (gnew hb), h.hg, h.hA⟩
/-- The variable is set anew. -/
theorem StT.put {B g A : Nat} {w wr : World} {a : Option Addr} {len cap : Nat} {l o L O : List Ce} {m M ca ca' c c' base : Nat} {ao a' p p' : Option Addr} (h : StT B g A w wr a len cap l o m ao ca a' ca') (ho : OkN L O (M : Int)) (hk : KIn L ∧ KIn O) (o1 : wr.ownsRow base 47 2 (.slice p L.length c) L.length (ces L)) (o2 : wr.ownsRow base 47 2 (.slice p' O.length c') O.length (ces O)) (hbase : A < base) :
    StT B g A w (put3 wr A (.slice p L.length c) (.slice p' O.length c') (.int .i64 (M : Int))) a len cap L O M p c p' c' := by
  have hgA : g < A := Nat.lt_trans h.hg h.hA
  have hA := h.hA
  have n1 : ∀ k, (Value.slice p L.length c).ownBlock = some k → k ≠ A := fun k hk => by have := (o1.lt k hk).1; omega
  have n2 : ∀ k, (Value.slice p' O.length c').ownBlock = some k → k ≠ A := fun k hk => by have := (o2.lt k hk).1; omega
  refine ⟨ho, hk, put3_blk h.var _ _ _, own_base (own_put3 o1 n1 _ _ _) (by omega), own_base (own_put3 o2 n2 _ _ _) (by omega), n1, n2, ?_, ?_, ?_, h.hg, h.hA⟩
  · unfold put3
    exact ((h.res.far _ _ (by dsimp only; omega)).far _ _ (by dsimp only; omega)).far _ _ (by dsimp only; omega)
  · refine h.drw.keep (put3_below (Below.refl A wr) (Nat.le_refl _) _ _ _) ?_ hgA
    exact Nat.le_trans h.drw.cur.1 (Nat.le_of_lt hgA)
  · have g1 := h.grown
    have hb := put3_below (Below.refl A wr) (Nat.le_refl _) (.slice p L.length c) (.slice p' O.length c') (.int .i64 (M : Int))
    exact ⟨hb.os.trans g1.os, hb.tape.trans g1.tape, hb.output.trans g1.output, Nat.le_trans g1.size hb.size, fun k hk hne => (hb.block k (by omega)).trans (g1.block k hk hne)⟩
end Go.Proofs.Ytinjohpeanlalaa
