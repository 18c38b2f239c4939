/- Places held in variables, kept through calls and marks; the model's makers, each answer in one form. -/
import Derived.Test.YtpckbhficjjogaaArenaI
import Derived.Test.YtpckbhficjjogaaXBW
namespace Go.Proofs.Ytpckbhficjjogaa
open Go.RowKit

/-- A variable that holds a place. -/
def VarA (w : World) (A : Nat) (ao : Option Addr) (n ca : Nat) (F : Int) : Prop := A < w.heap.size ∧ w.cell? ⟨A, 0, none⟩ = some (.slice ao n ca) ∧ w.cell? ⟨A, 1, none⟩ = some (.int .i64 F)
theorem VarA.later {w w' : World} {A n ca : Nat} {ao : Option Addr} {F : Int} (h : VarA w A ao n ca F) (hb : Below w.heap.size w w') : VarA w' A ao n ca F :=
  ⟨Nat.lt_of_lt_of_le h.1 hb.size, (hb.cell (p := ⟨A, 0, none⟩) h.1).trans h.2.1, (hb.cell (p := ⟨A, 1, none⟩) h.1).trans h.2.2⟩
theorem VarA.grown {w w' : World} {A n ca : Nat} {ao : Option Addr} {F : Int} {r : Option Nat} (h : VarA w A ao n ca F) (hb : w.grownBy w' r) (hne : ∀ g, r = some g → A ≠ g) : VarA w' A ao n ca F := by
  have hn : some A ≠ r := fun e => hne A e.symm rfl
  exact ⟨Nat.lt_of_lt_of_le h.1 hb.size, hb.cell h.2.1 hn, hb.cell h.2.2 hn⟩
theorem VarA.box {w w1 : World} {n ca : Nat} {ao : Option Addr} {F : Int} {t : TypeId} (hb : Below (w.alloc (.cells #[.slice ao n ca, .int .i64 F] t)).heap.size (w.alloc (.cells #[.slice ao n ca, .int .i64 F] t)) w1) : VarA w1 w.heap.size ao n ca F :=
  ⟨by have := hb.size; rw [World.size_alloc] at this; omega, box_cells rfl hb 0, box_cells rfl hb 1⟩
theorem VarA.new (w : World) (n ca : Nat) (ao : Option Addr) (F : Int) (t : TypeId) : VarA (w.alloc (.cells #[.slice ao n ca, .int .i64 F] t)) w.heap.size ao n ca F :=
  VarA.box (Below.refl _ _)
theorem RdA.grown {w w' : World} {a : Option Addr} {l : List Sl} {r : Option Nat} (h : RdA w a l) (hb : w.grownBy w' r) (hne : ∀ g b, r = some g → a = some ⟨b, 0, none⟩ → b ≠ g) : RdA w' a l := by
  rcases h with h | ⟨g, ha, hg, hc⟩
  · exact .inl h
  · have hn : some g ≠ r := fun e => hne g g e.symm ha rfl
    refine .inr ⟨g, ha, Nat.lt_of_lt_of_le hg hb.size, fun i hi => ?_⟩
    obtain ⟨x0, x1, x2, x3, x4⟩ := hc i hi
    exact ⟨hb.cell x0 hn, hb.cell x1 hn, hb.cell x2 hn, hb.cell x3 hn, hb.cell x4 hn⟩
/-- Where an own row lies. -/
theorem own_place {w : World} {base n ca : Nat} {e : TypeId} {ao : Option Addr} {xs : List Value} (h : w.ownsRow base e 5 (.slice ao n ca) n xs) : ∀ b o, ao = some ⟨b, o, none⟩ → base ≤ b ∧ b < w.heap.size := by
  intro b o e
  exact h.lt b (by rw [e]; rfl)
theorem own_block {ao : Option Addr} {n ca g : Nat} (h : (Value.slice ao n ca).ownBlock = some g) : ∃ o s, ao = some ⟨g, o, s⟩ := by
  cases ao with
  | none => simp [Value.ownBlock] at h
  | some a => cases a; simp [Value.ownBlock] at h; subst h; exact ⟨_, _, rfl⟩

/-- What a new place is. -/
def NewA (n : Int) (L : List Sl) (F : Int) (t : Bool) : Prop := (∃ m : Nat, n = (m : Int) ∧ 1 ≤ m ∧ m ≤ 24 ∧ L = newL m m ∧ F = 0 ∧ t = true) ∨ (¬ (1 ≤ n ∧ n ≤ 24) ∧ L = [] ∧ F = 0 ∧ t = false)
theorem NewA.det {n : Int} {L L' : List Sl} {F F' : Int} {t t' : Bool} (x : NewA n L F t) (y : NewA n L' F' t') : L = L' ∧ F = F' ∧ t = t' := by
  rcases x with ⟨m, e, h1, h2, rfl, rfl, rfl⟩ | ⟨hn, rfl, rfl, rfl⟩ <;> rcases y with ⟨m', e', h1', h2', rfl, rfl, rfl⟩ | ⟨hn', rfl, rfl, rfl⟩
  · obtain rfl : m = m' := by omega
    exact ⟨rfl, rfl, rfl⟩
  · exact absurd ⟨by omega, by omega⟩ hn'
  · exact absurd ⟨by omega, by omega⟩ hn
  · exact ⟨rfl, rfl, rfl⟩
theorem NewA.small {n : Int} {L : List Sl} {F : Int} {t : Bool} (x : NewA n L F t) : L.length ≤ 24 := by
  rcases x with ⟨m, e, h1, h2, rfl, rfl, rfl⟩ | ⟨hn, rfl, rfl, rfl⟩
  · rw [newL_length]; exact h2
  · exact Nat.zero_le _
/-- A maker's answer, in one form. -/
def MadeA (w w' : World) (e : Ending) (R : List Sl → Int → Bool → Prop) : Prop := ∃ (ao : Option Addr) (L : List Sl) (ca : Nat) (F : Int) (t : Bool), e = .returned (.tuple #[arV ao L.length ca F, .bool t]) ∧ R L F t ∧ w'.ownsRow w.heap.size 40 5 (.slice ao L.length ca) L.length (sls L) ∧ Below w.heap.size w w'

theorem specNew_one (n : Int) (w : World) : Calls Try.prog 23 #[.int .i64 n] w fun e w' => MadeA w w' e (NewA n) := by
  refine (specNew_any n w).mono ?_
  rintro e w' ⟨⟨m, b, c, rfl, h1, h2, rfl, ho⟩ | ⟨rfl, hn⟩, hb⟩
  · refine ⟨some ⟨b, 0, none⟩, newL m m, c, 0, true, by rw [newL_length], .inl ⟨m, rfl, h1, h2, rfl, rfl, rfl⟩, by rw [newL_length]; exact ho, hb⟩
  · exact ⟨none, [], 0, 0, false, rfl, .inr ⟨hn, rfl, rfl, rfl⟩, World.ownsRow_nil _ _ _ _, hb⟩

theorem VarA.below {w w' : World} {A n ca B : Nat} {ao : Option Addr} {F : Int} (h : VarA w A ao n ca F) (hb : Below B w w') (hA : A < B) : VarA w' A ao n ca F :=
  ⟨Nat.lt_of_lt_of_le h.1 hb.size, (hb.cell (p := ⟨A, 0, none⟩) hA).trans h.2.1, (hb.cell (p := ⟨A, 1, none⟩) hA).trans h.2.2⟩
/-- What came in, and the model's answer, below a bound. -/
structure Bnd (B : Nat) (w : World) (s : Nat) (ao : Option Addr) (l : List Sl) (ca : Nat) (f : Int) (A : Nat) (po : Option Addr) (L : List Sl) (cp : Nat) (F : Int) : Prop where
  ls : s < B
  lA : A < B
  lp : ∀ b, po = some ⟨b, 0, none⟩ → b < B
  li : ∀ b o, ao = some ⟨b, o, none⟩ → l ≠ [] → b < B
  v0 : VarA w s ao l.length ca f
  ri : RdI w ao l
  v6 : VarA w A po L.length cp F
  r6 : RdA w po L
theorem Bnd.below {B s ca A cp : Nat} {w w' : World} {ao po : Option Addr} {l L : List Sl} {f F : Int} (h : Bnd B w s ao l ca f A po L cp F) (hb : Below B w w') : Bnd B w' s ao l ca f A po L cp F := by
  refine ⟨h.ls, h.lA, h.lp, h.li, h.v0.below hb h.ls, ?_, h.v6.below hb h.lA, ?_⟩
  · intro i hi
    obtain ⟨b, o, ha, hg, hc⟩ := h.ri i hi
    have hB := h.li b o ha (fun e => by subst e; simp at hi)
    exact ⟨b, o, ha, Nat.lt_of_lt_of_le hg hb.size, hc.below hb hB⟩
  · rcases h.r6 with h6 | ⟨g, ha, hg, hc⟩
    · exact .inl h6
    · exact .inr ⟨g, ha, Nat.lt_of_lt_of_le hg hb.size, fun i hi => (hc i hi).below hb (h.lp g ha)⟩
theorem Bnd.later {B s ca A cp : Nat} {w w' : World} {ao po : Option Addr} {l L : List Sl} {f F : Int} (h : Bnd B w s ao l ca f A po L cp F) (hB : B ≤ w.heap.size) (hb : Below w.heap.size w w') : Bnd B w' s ao l ca f A po L cp F := h.below (hb.mono hB)

/-- What lifting makes. -/
def LiftA (l : List Sl) (f h : Int) (L : List Sl) (F : Int) (t : Bool) : Prop := (∃ (k : Nat) (hk : k < l.length), AtA l f h k ∧ L = l.set k (lifted l[k] f) ∧ F = (k : Int) ∧ t = true) ∨ ((∀ k, ¬ AtA l f h k) ∧ L = [] ∧ F = 0 ∧ t = false)
theorem AtA.one {l : List Sl} {f h : Int} {k k' : Nat} (x : AtA l f h k) (y : AtA l f h k') : k = k' := by
  have h1 := x.place
  have h2 := y.place
  omega
theorem LiftA.det {l : List Sl} {f h : Int} {L L' : List Sl} {F F' : Int} {t t' : Bool} (x : LiftA l f h L F t) (y : LiftA l f h L' F' t') : L = L' ∧ F = F' ∧ t = t' := by
  rcases x with ⟨k, hk, p, rfl, rfl, rfl⟩ | ⟨n, rfl, rfl, rfl⟩ <;> rcases y with ⟨k', hk', p', rfl, rfl, rfl⟩ | ⟨n', rfl, rfl, rfl⟩
  · obtain rfl := p.one p'
    exact ⟨rfl, rfl, rfl⟩
  · exact absurd p (n' k)
  · exact absurd p' (n k')
  · exact ⟨rfl, rfl, rfl⟩
theorem LiftA.small {l : List Sl} {f h : Int} {L : List Sl} {F : Int} {t : Bool} (x : LiftA l f h L F t) : L.length ≤ 24 := by
  rcases x with ⟨k, hk, p, rfl, rfl, rfl⟩ | ⟨n, rfl, rfl, rfl⟩
  · rw [List.length_set]; exact p.ok.most
  · exact Nat.zero_le _
theorem lift_one {w w' : World} {l : List Sl} {f h : Int} {e : Ending}
    (x : ((∃ (k b c : Nat) (hk : k < l.length), e = .returned (.tuple #[arV (some ⟨b, 0, none⟩) l.length c (k : Int), .bool true]) ∧ AtA l f h k ∧ w'.ownsRow w.heap.size 40 5 (.slice (some ⟨b, 0, none⟩) l.length c) l.length (sls (l.set k (lifted l[k] f)))) ∨ (e = .returned (.tuple #[arV none 0 0 0, .bool false]) ∧ ∀ k, ¬ AtA l f h k)) ∧ Below w.heap.size w w') : MadeA w w' e (LiftA l f h) := by
  obtain ⟨⟨k, b, c, hk, rfl, p, ho⟩ | ⟨rfl, n⟩, hb⟩ := x
  · have hl : (l.set k (lifted l[k] f)).length = l.length := List.length_set
    exact ⟨some ⟨b, 0, none⟩, l.set k (lifted l[k] f), c, (k : Int), true, by rw [hl], .inl ⟨k, hk, p, rfl, rfl, rfl⟩, by rw [hl]; exact ho, hb⟩
  · exact ⟨none, [], 0, 0, false, rfl, .inr ⟨n, rfl, rfl, rfl⟩, World.ownsRow_nil _ _ _ _, hb⟩

/-- What laying makes. -/
def LayA (l : List Sl) (f : Int) (ky vl : ByteArray) (L : List Sl) (F H : Int) (t : Bool) : Prop := (∃ (k : Nat) (hk : k < l.length), f = (k : Int) ∧ OkA l f ∧ 1 ≤ ky.size ∧ ky.size ≤ 12 ∧ vl.size ≤ 20 ∧ L = l.set k ⟨l[k].gen, true, ky, vl, 0⟩ ∧ F = l[k].next ∧ H = 24 * l[k].gen + (k : Int) ∧ t = true) ∨ (¬ (OkA l f ∧ f ≠ -1 ∧ 1 ≤ ky.size ∧ ky.size ≤ 12 ∧ vl.size ≤ 20) ∧ L = [] ∧ F = 0 ∧ H = 0 ∧ t = false)
theorem LayA.det {l : List Sl} {f : Int} {ky vl : ByteArray} {L L' : List Sl} {F F' H H' : Int} {t t' : Bool} (x : LayA l f ky vl L F H t) (y : LayA l f ky vl L' F' H' t') : L = L' ∧ F = F' ∧ H = H' ∧ t = t' := by
  rcases x with ⟨k, hk, e, o, a, b, c, rfl, rfl, rfl, rfl⟩ | ⟨n, rfl, rfl, rfl, rfl⟩ <;> rcases y with ⟨k', hk', e', o', a', b', c', rfl, rfl, rfl, rfl⟩ | ⟨n', rfl, rfl, rfl, rfl⟩
  · obtain rfl : k = k' := by omega
    exact ⟨rfl, rfl, rfl, rfl⟩
  · exact absurd ⟨o, by omega, a, b, c⟩ n'
  · exact absurd ⟨o', by omega, a', b', c'⟩ n
  · exact ⟨rfl, rfl, rfl, rfl⟩
theorem LayA.small {l : List Sl} {f : Int} {ky vl : ByteArray} {L : List Sl} {F H : Int} {t : Bool} (x : LayA l f ky vl L F H t) : L.length ≤ 24 := by
  rcases x with ⟨k, hk, e, o, a, b, c, rfl, rfl, rfl, rfl⟩ | ⟨n, rfl, rfl, rfl, rfl⟩
  · rw [List.length_set]; exact o.most
  · exact Nat.zero_le _
def MadeB (w w' : World) (e : Ending) (R : List Sl → Int → Int → Bool → Prop) : Prop := ∃ (ao : Option Addr) (L : List Sl) (ca : Nat) (F H : Int) (t : Bool), e = .returned (.tuple #[arV ao L.length ca F, .int .i64 H, .bool t]) ∧ R L F H t ∧ w'.ownsRow w.heap.size 40 5 (.slice ao L.length ca) L.length (sls L) ∧ Below w.heap.size w w'
theorem lay_one {w w' : World} {l : List Sl} {f : Int} {ky vl : ByteArray} {e : Ending}
    (x : ((∃ (k b c : Nat) (hk : k < l.length), e = .returned (.tuple #[arV (some ⟨b, 0, none⟩) l.length c l[k].next, .int .i64 (24 * l[k].gen + (k : Int)), .bool true]) ∧ f = (k : Int) ∧ OkA l f ∧ 1 ≤ ky.size ∧ ky.size ≤ 12 ∧ vl.size ≤ 20 ∧ w'.ownsRow w.heap.size 40 5 (.slice (some ⟨b, 0, none⟩) l.length c) l.length (sls (l.set k ⟨l[k].gen, true, ky, vl, 0⟩)))
       ∨ (e = .returned (.tuple #[arV none 0 0 0, .int .i64 0, .bool false]) ∧ ¬ (OkA l f ∧ f ≠ -1 ∧ 1 ≤ ky.size ∧ ky.size ≤ 12 ∧ vl.size ≤ 20))) ∧ Below w.heap.size w w') : MadeB w w' e (LayA l f ky vl) := by
  obtain ⟨⟨k, b, c, hk, rfl, e1, o, a, b1, c1, ho⟩ | ⟨rfl, n⟩, hb⟩ := x
  · have hl : (l.set k ⟨l[k].gen, true, ky, vl, 0⟩).length = l.length := List.length_set
    exact ⟨some ⟨b, 0, none⟩, l.set k ⟨l[k].gen, true, ky, vl, 0⟩, c, _, _, true, by rw [hl], .inl ⟨k, hk, e1, o, a, b1, c1, rfl, rfl, rfl, rfl⟩, by rw [hl]; exact ho, hb⟩
  · exact ⟨none, [], 0, 0, 0, false, rfl, .inr ⟨n, rfl, rfl, rfl, rfl⟩, World.ownsRow_nil _ _ _ _, hb⟩
end Go.Proofs.Ytpckbhficjjogaa
