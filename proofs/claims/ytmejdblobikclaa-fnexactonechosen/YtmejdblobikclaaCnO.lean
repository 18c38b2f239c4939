/- A council whose rows are its own: what the program makes. -/
import Derived.Test.YtmejdblobikclaaCoZ
namespace Go.Proofs.Ytmejdblobikclaa
open Go.RowKit
set_option linter.unusedVariables false

/-- Two rows that lie in no one block. -/
def Apt (a b : Option Addr) : Prop := ∀ x y, a = some x → b = some y → x.block ≠ y.block
theorem Apt.symm {a b : Option Addr} (h : Apt a b) : Apt b a := fun x y hx hy e => h y x hy hx e.symm
theorem Apt.nilL (b : Option Addr) : Apt none b := fun x y hx => by cases hx
theorem Apt.nilR (b : Option Addr) : Apt b none := fun x y _ hy => by cases hy
/-- The rows of a council by number: voices, tries, notes, chosen; then promises and takers of each try. -/
def slot (A : CA) : Nat → Option Addr
  | 0 => A.va
  | 1 => A.ta
  | 2 => A.na
  | 3 => A.ca
  | k + 4 => match A.L[k / 2]? with
    | none => none
    | some t => if k % 2 = 0 then t.pa else t.ka
structure TmO (base : Nat) (w : World) (t : Tm) : Prop where
  p : w.ownsRow base 111 6 (.slice t.pa t.y.ps.length t.pc) t.y.ps.length (rowG ntC t.y.ps)
  k : w.ownsRow base 3 1 (.slice t.ka t.y.tk.length t.kc) t.y.tk.length (rowG izE t.y.tk)
/-- The rows of a council are its own; the row of tries has the cells xs. -/
structure OwX (base : Nat) (w : World) (A : CA) (xs : List Value) (c : Cn) : Prop where
  v : w.ownsRow base 43 3 (.slice A.va c.vs.length A.vc) c.vs.length (rowG voC c.vs)
  e : A.L.map (·.y) = c.ts
  t : w.ownsRow base 47 7 (.slice A.ta c.ts.length A.tc) c.ts.length xs
  r : ∀ t ∈ A.L, TmO base w t
  n : w.ownsRow base 111 6 (.slice A.na c.ns.length A.nc) c.ns.length (rowG ntC c.ns)
  c : w.ownsRow base 9 1 (.slice A.ca c.ch.length A.cc) c.ch.length (rowG txE c.ch)
  ap : ∀ i j, i ≠ j → Apt (slot A i) (slot A j)
/-- A council whose rows are its own. -/
abbrev OwC (base : Nat) (w : World) (A : CA) (c : Cn) : Prop := OwX base w A (rowG tmC A.L) c
theorem OwX.len {base : Nat} {w : World} {A : CA} {xs : List Value} {c : Cn} (h : OwX base w A xs c) : A.L.length = c.ts.length := by rw [← h.e, List.length_map]
theorem own_none0 {base k : Nat} {w : World} {e : TypeId} : w.ownsRow base e k (.slice none 0 0) 0 [] := ⟨by simp, .inl ⟨rfl, rfl⟩⟩
theorem TmO.kept {base : Nat} {w w' : World} {t : Tm} (h : TmO base w t) (hb : Below w.heap.size w w') : TmO base w' t := ⟨own_kept h.p hb, own_kept h.k hb⟩
theorem OwX.kept {base : Nat} {w w' : World} {A : CA} {xs : List Value} {c : Cn} (h : OwX base w A xs c) (hb : Below w.heap.size w w') : OwX base w' A xs c :=
  ⟨own_kept h.v hb, h.e, own_kept h.t hb, fun t ht => (h.r t ht).kept hb, own_kept h.n hb, own_kept h.c hb, h.ap⟩
theorem OwX.base {base base' : Nat} {w : World} {A : CA} {xs : List Value} {c : Cn} (h : OwX base' w A xs c) (hb : base ≤ base') : OwX base w A xs c :=
  ⟨own_base h.v hb, h.e, own_base h.t hb, fun t ht => ⟨own_base (h.r t ht).p hb, own_base (h.r t ht).k hb⟩, own_base h.n hb, own_base h.c hb, h.ap⟩
theorem own_far1 {w w' : World} {base n size B : Nat} {e : TypeId} {v : Value} {xs : List Value} (h : w.grownBy w' (some B)) (hO : w.ownsRow base e size v n xs) (hB : B < base) : w'.ownsRow base e size v n xs :=
  gown h hO (fun k hk e => by
    injection e with e
    have := (hO.lt k hk).1
    omega)
theorem OwX.far {base B : Nat} {w w' : World} {A : CA} {xs : List Value} {c : Cn} (h : OwX base w A xs c) (hb : w.grownBy w' (some B)) (hB : B < base) : OwX base w' A xs c :=
  ⟨own_far1 hb h.v hB, h.e, own_far1 hb h.t hB, fun t ht => ⟨own_far1 hb (h.r t ht).p hB, own_far1 hb (h.r t ht).k hB⟩, own_far1 hb h.n hB, own_far1 hb h.c hB, h.ap⟩
/-- What is owned is read. -/
theorem OwC.rd {base lo B : Nat} {w : World} {A : CA} {c : Cn} (h : OwC base w A c) (hB : B < base ∨ w.heap.size ≤ B) (hl : lo ≤ base) : RdC12 lo w B A c :=
  ⟨rdG_of_own encV.len h.v rfl, own_neE h.v hB hl, h.e, rdG_of_own encT.len h.t h.len, own_neE h.t hB hl,
    fun t ht => ⟨rdG_of_own encN.len (h.r t ht).p rfl, own_neE (h.r t ht).p hB hl, rdG_of_own encZ.len (h.r t ht).k rfl, own_neE (h.r t ht).k hB hl⟩,
    rdG_of_own encN.len h.n rfl, own_neE h.n hB hl, own_le h.n, rdG_of_own encX.len h.c rfl, own_neE h.c hB hl⟩
/-- A block that is a row, whole. -/
theorem own_blk {w : World} {base n k g : Nat} {e : TypeId} {xs : List Value} (h : Blk w g e xs) (hn : xs.length = n * k) (hm : n ≤ maxLen) (hb : base ≤ g) : w.ownsRow base e k (.slice (some ⟨g, 0, none⟩) n n) n xs :=
  ⟨hn, .inr ⟨g, n, xs.toArray, rfl, hb, h, Nat.le_refl _, hm, by simpa using hn, by rw [← hn, List.take_length]⟩⟩
/-- The zero council owns its rows: none. -/
theorem nil_own (w : World) (base : Nat) : OwC base w nilA zeroCn := by
  refine ⟨own_none0, rfl, own_none0, fun t ht => by simp [nilA] at ht, own_none0, own_none0, fun i j _ => ?_⟩
  have : slot nilA i = none := by
    match i with
    | 0 => rfl
    | 1 => rfl
    | 2 => rfl
    | 3 => rfl
    | k + 4 => rfl
  rw [this]
  exact Apt.nilL _
/-- A new council out of its two blocks. -/
theorem new_own {w : World} {base v t VB TB : Nat} (hv : v ≤ 5) (ht : t ≤ 4) (h1 : Blk w VB 43 (rowG voC (List.replicate v zeroVo))) (h2 : Blk w TB 47 (rowG tmC ((List.range t).map newTm))) (hb1 : base ≤ VB) (hb2 : base ≤ TB) (hne : VB ≠ TB) :
    OwC base w ⟨some ⟨VB, 0, none⟩, v, some ⟨TB, 0, none⟩, t, none, 0, none, 0, (List.range t).map newTm⟩ (newCn v t) := by
  have m1 : v ≤ maxLen := by unfold maxLen; omega
  have m2 : t ≤ maxLen := by unfold maxLen; omega
  refine ⟨?_, newTm_y t, ?_, fun x hx => ?_, own_none0, own_none0, ?_⟩
  · have := own_blk (base := base) (n := v) (k := 3) h1 (by rw [rowG_length voC 3 encV.len]; simp) m1 hb1
    simpa [newCn] using this
  · have := own_blk (base := base) (n := t) (k := 7) h2 (by rw [rowG_length tmC 7 encT.len]; simp) m2 hb2
    simpa [newCn] using this
  · obtain ⟨j, _, rfl⟩ := List.mem_map.1 hx
    exact ⟨own_none0, own_none0⟩
  · have hz : ∀ k, slot ⟨some ⟨VB, 0, none⟩, v, some ⟨TB, 0, none⟩, t, none, 0, none, 0, (List.range t).map newTm⟩ (k + 2) = none := by
      intro k
      match k with
      | 0 => rfl
      | 1 => rfl
      | k + 2 =>
        show (match ((List.range t).map newTm)[k / 2]? with | none => none | some t => if k % 2 = 0 then t.pa else t.ka) = none
        cases hq : ((List.range t).map newTm)[k / 2]? with
        | none => rfl
        | some y =>
          obtain ⟨j, _, rfl⟩ := List.mem_map.1 (List.mem_of_getElem? hq)
          show (if k % 2 = 0 then none else none) = none
          split <;> rfl
    intro i j hij
    match i, j with
    | 0, 0 => exact absurd rfl hij
    | 1, 1 => exact absurd rfl hij
    | 0, 1 =>
        intro x y hx hy
        have hx : some (⟨VB, 0, none⟩ : Addr) = some x := hx
        have hy : some (⟨TB, 0, none⟩ : Addr) = some y := hy
        injection hx with hx
        injection hy with hy
        subst hx hy
        exact hne
    | 1, 0 =>
        intro x y hx hy
        have hx : some (⟨TB, 0, none⟩ : Addr) = some x := hx
        have hy : some (⟨VB, 0, none⟩ : Addr) = some y := hy
        injection hx with hx
        injection hy with hy
        subst hx hy
        exact fun e => hne e.symm
    | k + 2, j => rw [hz k]; exact Apt.nilL _
    | 0, k + 2 => rw [hz k]; exact Apt.nilR _
    | 1, k + 2 => rw [hz k]; exact Apt.nilR _
end Go.Proofs.Ytmejdblobikclaa
