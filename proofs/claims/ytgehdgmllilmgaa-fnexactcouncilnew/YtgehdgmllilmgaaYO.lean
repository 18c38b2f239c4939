/- A council whose rows are its own: what the program makes. -/
import Derived.Test.YtgehdgmllilmgaaCoZ
import Derived.Test.YtgehdgmllilmgaaYR
namespace Go.Proofs.Ytgehdgmllilmgaa
open Go.RowKit
set_option linter.unusedVariables false

/-- Two rows that lie in no one block. -/
def Apt (a b : Option Addr) : Prop := ∀ x y, a = some x → b = some y → x.block ≠ y.block
theorem Apt.symm {a b : Option Addr} (h : Apt a b) : Apt b a := fun x y hx hy e => h y x hy hx e.symm
theorem Apt.nilL (b : Option Addr) : Apt none b := fun x y hx => by cases hx
theorem Apt.nilR (b : Option Addr) : Apt b none := fun x y _ hy => by cases hy
/-- The rows of a council by number: voices, tries, notes, chosen; then promises and takers of each try. -/
def slot (A : CA) : Nat → Option Addr
  | 0 => A.va
  | 1 => A.ta
  | 2 => A.na
  | 3 => A.ca
  | k + 4 => match A.L[k / 2]? with
    | none => none
    | some t => if k % 2 = 0 then t.pa else t.ka
structure TmO (base : Nat) (w : World) (t : Tm) : Prop where
  p : w.ownsRow base 111 6 (.slice t.pa t.y.ps.length t.pc) t.y.ps.length (rowG ntC t.y.ps)
  k : w.ownsRow base 3 1 (.slice t.ka t.y.tk.length t.kc) t.y.tk.length (rowG izE t.y.tk)
/-- The rows of a council are its own; the row of tries has the cells xs. -/
structure OwX (base : Nat) (w : World) (A : CA) (xs : List Value) (c : Cn) : Prop where
  v : w.ownsRow base 43 3 (.slice A.va c.vs.length A.vc) c.vs.length (rowG voC c.vs)
  e : A.L.map (·.y) = c.ts
  t : w.ownsRow base 47 7 (.slice A.ta c.ts.length A.tc) c.ts.length xs
  r : ∀ t ∈ A.L, TmO base w t
  n : w.ownsRow base 111 6 (.slice A.na c.ns.length A.nc) c.ns.length (rowG ntC c.ns)
  c : w.ownsRow base 9 1 (.slice A.ca c.ch.length A.cc) c.ch.length (rowG txE c.ch)
  ap : ∀ i j, i ≠ j → Apt (slot A i) (slot A j)
/-- A council whose rows are its own. -/
abbrev OwC (base : Nat) (w : World) (A : CA) (c : Cn) : Prop := OwX base w A (rowG tmC A.L) c
theorem OwX.len {base : Nat} {w : World} {A : CA} {xs : List Value} {c : Cn} (h : OwX base w A xs c) : A.L.length = c.ts.length := by rw [← h.e, List.length_map]
theorem own_none0 {base k : Nat} {w : World} {e : TypeId} : w.ownsRow base e k (.slice none 0 0) 0 [] := ⟨by simp, .inl ⟨rfl, rfl⟩⟩
theorem TmO.kept {base : Nat} {w w' : World} {t : Tm} (h : TmO base w t) (hb : Below w.heap.size w w') : TmO base w' t := ⟨own_kept h.p hb, own_kept h.k hb⟩
theorem OwX.kept {base : Nat} {w w' : World} {A : CA} {xs : List Value} {c : Cn} (h : OwX base w A xs c) (hb : Below w.heap.size w w') : OwX base w' A xs c :=
  ⟨own_kept h.v hb, h.e, own_kept h.t hb, fun t ht => (h.r t ht).kept hb, own_kept h.n hb, own_kept h.c hb, h.ap⟩
theorem OwX.base {base base' : Nat} {w : World} {A : CA} {xs : List Value} {c : Cn} (h : OwX base' w A xs c) (hb : base ≤ base') : OwX base w A xs c :=
  ⟨own_base h.v hb, h.e, own_base h.t hb, fun t ht => ⟨own_base (h.r t ht).p hb, own_base (h.r t ht).k hb⟩, own_base h.n hb, own_base h.c hb, h.ap⟩
theorem own_far1 {w w' : World} {base n size B : Nat} {e : TypeId} {v : Value} {xs : List Value} (h : w.grownBy w' (some B)) (hO : w.ownsRow base e size v n xs) (hB : B < base) : w'.ownsRow base e size v n xs :=
  gown h hO (fun k hk e => by
    injection e with e
    have := (hO.lt k hk).1
    omega)
theorem OwX.far {base B : Nat} {w w' : World} {A : CA} {xs : List Value} {c : Cn} (h : OwX base w A xs c) (hb : w.grownBy w' (some B)) (hB : B < base) : OwX base w' A xs c :=
  ⟨own_far1 hb h.v hB, h.e, own_far1 hb h.t hB, fun t ht => ⟨own_far1 hb (h.r t ht).p hB, own_far1 hb (h.r t ht).k hB⟩, own_far1 hb h.n hB, own_far1 hb h.c hB, h.ap⟩
/-- What is owned is read. -/
theorem OwC.rd {base B : Nat} {lo : Nat → Prop} {w : World} {A : CA} {c : Cn} (h : OwC base w A c) (hB : B < base ∨ w.heap.size ≤ B) (hl : LoLe lo base) : RdC12 lo w B A c :=
  ⟨rdG_of_own encV.len h.v rfl, own_neE h.v hB hl, h.e, rdG_of_own encT.len h.t h.len, own_neE h.t hB hl,
    fun t ht => ⟨rdG_of_own encN.len (h.r t ht).p rfl, own_neE (h.r t ht).p hB hl, rdG_of_own encZ.len (h.r t ht).k rfl, own_neE (h.r t ht).k hB hl⟩,
    rdG_of_own encN.len h.n rfl, own_neE h.n hB hl, own_le h.n, rdG_of_own encX.len h.c rfl, own_neE h.c hB hl⟩
/-- A block that is a row, whole. -/
theorem own_blk {w : World} {base n k g : Nat} {e : TypeId} {xs : List Value} (h : Blk w g e xs) (hn : xs.length = n * k) (hm : n ≤ maxLen) (hb : base ≤ g) : w.ownsRow base e k (.slice (some ⟨g, 0, none⟩) n n) n xs :=
  ⟨hn, .inr ⟨g, n, xs.toArray, rfl, hb, h, Nat.le_refl _, hm, by simpa using hn, by rw [← hn, List.take_length]⟩⟩
/-- The zero council owns its rows: none. -/
theorem nil_own (w : World) (base : Nat) : OwC base w nilA zeroCn := by
  refine ⟨own_none0, rfl, own_none0, fun t ht => by simp [nilA] at ht, own_none0, own_none0, fun i j _ => ?_⟩
  have : slot nilA i = none := by
    match i with
    | 0 => rfl
    | 1 => rfl
    | 2 => rfl
    | 3 => rfl
    | k + 4 => rfl
  rw [this]
  exact Apt.nilL _
/-- A new council out of its two blocks. -/
theorem new_own {w : World} {base v t VB TB : Nat} (hv : v ≤ 5) (ht : t ≤ 4) (h1 : Blk w VB 43 (rowG voC (List.replicate v zeroVo))) (h2 : Blk w TB 47 (rowG tmC ((List.range t).map newTm))) (hb1 : base ≤ VB) (hb2 : base ≤ TB) (hne : VB ≠ TB) :
    OwC base w ⟨some ⟨VB, 0, none⟩, v, some ⟨TB, 0, none⟩, t, none, 0, none, 0, (List.range t).map newTm⟩ (newCn v t) := by
  have m1 : v ≤ maxLen := by unfold maxLen; omega
  have m2 : t ≤ maxLen := by unfold maxLen; omega
  refine ⟨?_, newTm_y t, ?_, fun x hx => ?_, own_none0, own_none0, ?_⟩
  · have := own_blk (base := base) (n := v) (k := 3) h1 (by rw [rowG_length voC 3 encV.len]; simp) m1 hb1
    simpa [newCn] using this
  · have := own_blk (base := base) (n := t) (k := 7) h2 (by rw [rowG_length tmC 7 encT.len]; simp) m2 hb2
    simpa [newCn] using this
  · obtain ⟨j, _, rfl⟩ := List.mem_map.1 hx
    exact ⟨own_none0, own_none0⟩
  · have hz : ∀ k, slot ⟨some ⟨VB, 0, none⟩, v, some ⟨TB, 0, none⟩, t, none, 0, none, 0, (List.range t).map newTm⟩ (k + 2) = none := by
      intro k
      match k with
      | 0 => rfl
      | 1 => rfl
      | k + 2 =>
        show (match ((List.range t).map newTm)[k / 2]? with | none => none | some t => if k % 2 = 0 then t.pa else t.ka) = none
        cases hq : ((List.range t).map newTm)[k / 2]? with
        | none => rfl
        | some y =>
          obtain ⟨j, _, rfl⟩ := List.mem_map.1 (List.mem_of_getElem? hq)
          show (if k % 2 = 0 then none else none) = none
          split <;> rfl
    intro i j hij
    match i, j with
    | 0, 0 => exact absurd rfl hij
    | 1, 1 => exact absurd rfl hij
    | 0, 1 =>
        intro x y hx hy
        have hx : some (⟨VB, 0, none⟩ : Addr) = some x := hx
        have hy : some (⟨TB, 0, none⟩ : Addr) = some y := hy
        injection hx with hx
        injection hy with hy
        subst hx hy
        exact hne
    | 1, 0 =>
        intro x y hx hy
        have hx : some (⟨TB, 0, none⟩ : Addr) = some x := hx
        have hy : some (⟨VB, 0, none⟩ : Addr) = some y := hy
        injection hx with hx
        injection hy with hy
        subst hx hy
        exact fun e => hne e.symm
    | k + 2, j => rw [hz k]; exact Apt.nilL _
    | 0, k + 2 => rw [hz k]; exact Apt.nilR _
    | 1, k + 2 => rw [hz k]; exact Apt.nilR _
end Go.Proofs.Ytgehdgmllilmgaa
namespace Go.Proofs.Ytgehdgmllilmgaa
open Go.RowKit
set_option linter.unusedVariables false

theorem ownBlk {a : Option Addr} {n c q : Nat} (h : (Value.slice a n c).ownBlock = some q) : ∃ x, a = some x ∧ x.block = q := by
  cases a with
  | none => cases h
  | some x => exact ⟨x, rfl, by have h : some x.block = some q := h; injection h⟩
theorem gown_apt {w w' : World} {a b : Option Addr} {n c n2 c2 base k : Nat} {e : TypeId} {xs : List Value} (hg : w.grownBy w' (Value.slice a n c).ownBlock) (hO : w.ownsRow base e k (.slice b n2 c2) n2 xs) (h : Apt a b) : w'.ownsRow base e k (.slice b n2 c2) n2 xs :=
  gown hg hO (fun q hq e => by
    obtain ⟨x, hx, e1⟩ := ownBlk hq
    obtain ⟨y, hy, e2⟩ := ownBlk e
    exact h y x hy hx (by omega))
/-- A row lies where it lay, or in new memory. -/
def Lies (w : World) (a a' : Option Addr) : Prop := ∀ x', a' = some x' → w.heap.size ≤ x'.block ∨ ∃ x, a = some x ∧ x.block = x'.block
theorem Lies.refl (w : World) (a : Option Addr) : Lies w a a := fun x hx => .inr ⟨x, hx, rfl⟩
theorem ap_put {f f' : Nat → Option Addr} {w : World} (ap : ∀ i j, i ≠ j → Apt (f i) (f j)) (hl : ∀ j x, f j = some x → x.block < w.heap.size) (s : Nat) (hf : ∀ i, i ≠ s → f' i = f i) (hn : Lies w (f s) (f' s)) : ∀ i j, i ≠ j → Apt (f' i) (f' j) := by
  have h1 : ∀ j, j ≠ s → Apt (f' s) (f j) := fun j hj x' y hx hy => by
    rcases hn x' hx with h | ⟨x, h, e⟩
    · have := hl j y hy
      omega
    · rw [← e]
      exact ap s j (fun e => hj e.symm) x y h hy
  intro i j hij
  by_cases hi : i = s
  · subst hi
    rw [hf j (fun e => hij e.symm)]
    exact h1 j (fun e => hij e.symm)
  · rw [hf i hi]
    by_cases hj : j = s
    · subst hj
      exact (h1 i hi).symm
    · rw [hf j hj]
      exact ap i j hij
theorem own_blt {w : World} {base k n ca : Nat} {e : TypeId} {a : Option Addr} {xs : List Value} (h : w.ownsRow base e k (.slice a n ca) n xs) (x : Addr) (hx : a = some x) : x.block < w.heap.size := by
  subst hx
  exact (h.lt x.block rfl).2
theorem slotP (A : CA) (j : Nat) : slot A (2 * j + 4) = match A.L[j]? with | none => none | some t => t.pa := by
  show (match A.L[2 * j / 2]? with | none => none | some t => if 2 * j % 2 = 0 then t.pa else t.ka) = _
  rw [show 2 * j / 2 = j by omega, show 2 * j % 2 = 0 by omega]
  rfl
theorem slotK (A : CA) (j : Nat) : slot A (2 * j + 5) = match A.L[j]? with | none => none | some t => t.ka := by
  show (match A.L[(2 * j + 1) / 2]? with | none => none | some t => if (2 * j + 1) % 2 = 0 then t.pa else t.ka) = _
  rw [show (2 * j + 1) / 2 = j by omega, show (2 * j + 1) % 2 = 1 by omega]
  rfl
theorem slotCase (i : Nat) : i = 0 ∨ i = 1 ∨ i = 2 ∨ i = 3 ∨ (∃ j, i = 2 * j + 4) ∨ ∃ j, i = 2 * j + 5 := by
  by_cases h : i < 4
  · omega
  · by_cases e : i % 2 = 0
    · exact .inr (.inr (.inr (.inr (.inl ⟨(i - 4) / 2, by omega⟩))))
    · exact .inr (.inr (.inr (.inr (.inr ⟨(i - 5) / 2, by omega⟩))))
section
variable {base : Nat} {w w' : World} {A : CA} {xs : List Value} {c : Cn}
theorem OwX.lt (h : OwX base w A xs c) (j : Nat) (x : Addr) (hx : slot A j = some x) : x.block < w.heap.size := by
  rcases slotCase j with rfl | rfl | rfl | rfl | ⟨i, rfl⟩ | ⟨i, rfl⟩
  · exact own_blt h.v x hx
  · exact own_blt h.t x hx
  · exact own_blt h.n x hx
  · exact own_blt h.c x hx
  · rw [slotP] at hx
    cases hq : A.L[i]? with
    | none => rw [hq] at hx; cases hx
    | some t => rw [hq] at hx; exact own_blt (h.r t (List.mem_of_getElem? hq)).p x hx
  · rw [slotK] at hx
    cases hq : A.L[i]? with
    | none => rw [hq] at hx; cases hx
    | some t => rw [hq] at hx; exact own_blt (h.r t (List.mem_of_getElem? hq)).k x hx
theorem OwX.atP (h : OwX base w A xs c) {t : Tm} (ht : t ∈ A.L) : ∃ j, slot A (2 * j + 4) = t.pa ∧ slot A (2 * j + 5) = t.ka ∧ A.L[j]? = some t := by
  obtain ⟨j, hj, rfl⟩ := List.getElem_of_mem ht
  have hq : A.L[j]? = some A.L[j] := List.getElem?_eq_getElem hj
  exact ⟨j, by rw [slotP, hq], by rw [slotK, hq], hq⟩
/-- What is left of the tries' own rows when another row has changed. -/
theorem OwX.tm (h : OwX base w A xs c) {a : Option Addr} {n ca s : Nat} (hs : slot A s = a) (hg : w.grownBy w' (Value.slice a n ca).ownBlock) {t : Tm} (ht : t ∈ A.L) (hp : ∀ j, A.L[j]? = some t → s ≠ 2 * j + 4 ∧ s ≠ 2 * j + 5) : TmO base w' t := by
  obtain ⟨j, e1, e2, e3⟩ := h.atP ht
  obtain ⟨p1, p2⟩ := hp j e3
  exact ⟨gown_apt hg (h.r t ht).p (by rw [← hs, ← e1]; exact h.ap _ _ p1), gown_apt hg (h.r t ht).k (by rw [← hs, ← e2]; exact h.ap _ _ p2)⟩
theorem OwX.putV (h : OwX base w A xs c) {a' : Option Addr} {c' : Nat} {vs : List Vo} (hg : w.grownBy w' (Value.slice A.va c.vs.length A.vc).ownBlock) (ho : w'.ownsRow base 43 3 (.slice a' vs.length c') vs.length (rowG voC vs)) (hl : Lies w A.va a') : OwX base w' { A with va := a', vc := c' } xs { c with vs := vs } := by
  refine ⟨ho, h.e, gown_apt hg h.t (h.ap 0 1 (by decide)), fun t ht => h.tm (s := 0) rfl hg ht (fun j _ => by omega), gown_apt hg h.n (h.ap 0 2 (by decide)), gown_apt hg h.c (h.ap 0 3 (by decide)), ap_put (w := w) h.ap h.lt 0 (fun i hi => ?_) hl⟩
  match i, hi with
  | 0, hi => exact absurd rfl hi
  | 1, _ => rfl
  | 2, _ => rfl
  | 3, _ => rfl
  | k + 4, _ => rfl
theorem OwX.putN (h : OwX base w A xs c) {a' : Option Addr} {c' : Nat} {ns : List Nt} (hg : w.grownBy w' (Value.slice A.na c.ns.length A.nc).ownBlock) (ho : w'.ownsRow base 111 6 (.slice a' ns.length c') ns.length (rowG ntC ns)) (hl : Lies w A.na a') : OwX base w' { A with na := a', nc := c' } xs { c with ns := ns } := by
  refine ⟨gown_apt hg h.v (h.ap 2 0 (by decide)), h.e, gown_apt hg h.t (h.ap 2 1 (by decide)), fun t ht => h.tm (s := 2) rfl hg ht (fun j _ => by omega), ho, gown_apt hg h.c (h.ap 2 3 (by decide)), ap_put (w := w) h.ap h.lt 2 (fun i hi => ?_) hl⟩
  match i, hi with
  | 0, _ => rfl
  | 1, _ => rfl
  | 2, hi => exact absurd rfl hi
  | 3, _ => rfl
  | k + 4, _ => rfl
theorem OwX.putC (h : OwX base w A xs c) {a' : Option Addr} {c' : Nat} {ch : List ByteArray} (hg : w.grownBy w' (Value.slice A.ca c.ch.length A.cc).ownBlock) (ho : w'.ownsRow base 9 1 (.slice a' ch.length c') ch.length (rowG txE ch)) (hl : Lies w A.ca a') : OwX base w' { A with ca := a', cc := c' } xs { c with ch := ch } := by
  refine ⟨gown_apt hg h.v (h.ap 3 0 (by decide)), h.e, gown_apt hg h.t (h.ap 3 1 (by decide)), fun t ht => h.tm (s := 3) rfl hg ht (fun j _ => by omega), gown_apt hg h.n (h.ap 3 2 (by decide)), ho, ap_put (w := w) h.ap h.lt 3 (fun i hi => ?_) hl⟩
  match i, hi with
  | 0, _ => rfl
  | 1, _ => rfl
  | 2, _ => rfl
  | 3, hi => exact absurd rfl hi
  | k + 4, _ => rfl
/-- Cells of the tries' row are changed. -/
theorem OwX.putX (h : OwX base w A xs c) {xs' : List Value} (hg : w.grownBy w' (Value.slice A.ta c.ts.length A.tc).ownBlock) (ho : w'.ownsRow base 47 7 (.slice A.ta c.ts.length A.tc) c.ts.length xs') : OwX base w' A xs' c :=
  ⟨gown_apt hg h.v (h.ap 1 0 (by decide)), h.e, ho, fun t ht => h.tm (s := 1) rfl hg ht (fun j _ => by omega), gown_apt hg h.n (h.ap 1 2 (by decide)), gown_apt hg h.c (h.ap 1 3 (by decide)), h.ap⟩
theorem getL_set {L : List Tm} {j i : Nat} {t : Tm} (hj : j < L.length) : (L.set j t)[i]? = if i = j then some t else L[i]? := by
  rw [List.getElem?_set]
  by_cases e : j = i
  · subst e
    rw [if_pos rfl, if_pos hj, if_pos rfl]
  · rw [if_neg e, if_neg (fun h => e h.symm)]
/-- The rows of a try are changed, both or one. -/
theorem OwX.putY (h : OwX base w A xs c) (j : Nat) (hj : j < A.L.length) (y : Ty) (hp : y.ps = A.L[j].y.ps) (hk : y.tk = A.L[j].y.tk) : OwX base w { A with L := A.L.set j { A.L[j] with y := y } } xs { c with ts := c.ts.set j y } := by
  refine ⟨h.v, ?_, by have := h.t; simpa using this, fun t ht => ?_, h.n, h.c, ?_⟩
  · show (A.L.set j _).map (·.y) = c.ts.set j y
    rw [List.map_set, h.e]
  · rcases List.mem_or_eq_of_mem_set ht with ht | rfl
    · exact h.r t ht
    · have := h.r A.L[j] (List.getElem_mem hj)
      exact ⟨by have q := this.p; rw [← hp] at q; exact q, by have q := this.k; rw [← hk] at q; exact q⟩
  · refine ap_put (w := w) h.ap h.lt 0 (fun i hi => ?_) (Lies.refl _ _)
    rcases slotCase i with rfl | rfl | rfl | rfl | ⟨q, rfl⟩ | ⟨q, rfl⟩
    · rfl
    · rfl
    · rfl
    · rfl
    · rw [slotP, slotP]
      show (match (A.L.set j _)[q]? with | none => none | some t => t.pa) = _
      rw [getL_set hj]
      by_cases e : q = j
      · subst e
        rw [if_pos rfl, List.getElem?_eq_getElem hj]
      · rw [if_neg e]
    · rw [slotK, slotK]
      show (match (A.L.set j _)[q]? with | none => none | some t => t.ka) = _
      rw [getL_set hj]
      by_cases e : q = j
      · subst e
        rw [if_pos rfl, List.getElem?_eq_getElem hj]
      · rw [if_neg e]
theorem OwX.putP (h : OwX base w A xs c) (j : Nat) (hj : j < A.L.length) {a' : Option Addr} {c' : Nat} {ps : List Nt} (hg : w.grownBy w' (Value.slice A.L[j].pa A.L[j].y.ps.length A.L[j].pc).ownBlock) (ho : w'.ownsRow base 111 6 (.slice a' ps.length c') ps.length (rowG ntC ps)) (hl : Lies w A.L[j].pa a') :
    OwX base w' { A with L := A.L.set j { A.L[j] with y := { A.L[j].y with ps := ps }, pa := a', pc := c' } } xs { c with ts := c.ts.set j { A.L[j].y with ps := ps } } := by
  have hq : A.L[j]? = some A.L[j] := List.getElem?_eq_getElem hj
  have hs : slot A (2 * j + 4) = A.L[j].pa := by rw [slotP, hq]
  have hs2 : slot A (2 * j + 5) = A.L[j].ka := by rw [slotK, hq]
  refine ⟨gown_apt hg h.v (by rw [← hs]; exact h.ap _ 0 (by omega)), ?_, ?_, fun t ht => ?_, gown_apt hg h.n (by rw [← hs]; exact h.ap _ 2 (by omega)), gown_apt hg h.c (by rw [← hs]; exact h.ap _ 3 (by omega)), ?_⟩
  · show (A.L.set j _).map (·.y) = c.ts.set j _
    rw [List.map_set, h.e]
  · have := gown_apt hg h.t (by rw [← hs]; exact h.ap _ 1 (by omega))
    simpa using this
  · obtain ⟨i, hi, rfl⟩ := List.getElem_of_mem ht
    have hi' : i < A.L.length := by simpa using hi
    rw [List.getElem_set]
    by_cases e : j = i
    · rw [if_pos e]
      have := h.r A.L[j] (List.getElem_mem hj)
      exact ⟨ho, gown_apt hg this.k (by rw [← hs, ← hs2]; exact h.ap _ _ (by omega))⟩
    · rw [if_neg e]
      have hi2 : A.L[i]? = some A.L[i] := List.getElem?_eq_getElem hi'
      have r := h.r A.L[i] (List.getElem_mem hi')
      have e1 : slot A (2 * i + 4) = A.L[i].pa := by rw [slotP, hi2]
      have e2 : slot A (2 * i + 5) = A.L[i].ka := by rw [slotK, hi2]
      exact ⟨gown_apt hg r.p (by rw [← hs, ← e1]; exact h.ap _ _ (by omega)), gown_apt hg r.k (by rw [← hs, ← e2]; exact h.ap _ _ (by omega))⟩
  · refine ap_put (w := w) h.ap h.lt (2 * j + 4) (fun i hi => ?_) ?_
    · rcases slotCase i with rfl | rfl | rfl | rfl | ⟨q, rfl⟩ | ⟨q, rfl⟩
      · rfl
      · rfl
      · rfl
      · rfl
      · rw [slotP, slotP]
        show (match (A.L.set j _)[q]? with | none => none | some t => t.pa) = _
        rw [getL_set hj, if_neg (by omega)]
      · rw [slotK, slotK]
        show (match (A.L.set j _)[q]? with | none => none | some t => t.ka) = _
        rw [getL_set hj]
        by_cases e : q = j
        · subst e
          rw [if_pos rfl, List.getElem?_eq_getElem hj]
        · rw [if_neg e]
    · rw [hs, slotP]
      show Lies w _ (match (A.L.set j _)[j]? with | none => none | some t => t.pa)
      rw [getL_set hj, if_pos rfl]
      exact hl
theorem OwX.putK (h : OwX base w A xs c) (j : Nat) (hj : j < A.L.length) {a' : Option Addr} {c' : Nat} {tk : List Int} (hg : w.grownBy w' (Value.slice A.L[j].ka A.L[j].y.tk.length A.L[j].kc).ownBlock) (ho : w'.ownsRow base 3 1 (.slice a' tk.length c') tk.length (rowG izE tk)) (hl : Lies w A.L[j].ka a') :
    OwX base w' { A with L := A.L.set j { A.L[j] with y := { A.L[j].y with tk := tk }, ka := a', kc := c' } } xs { c with ts := c.ts.set j { A.L[j].y with tk := tk } } := by
  have hq : A.L[j]? = some A.L[j] := List.getElem?_eq_getElem hj
  have hs : slot A (2 * j + 5) = A.L[j].ka := by rw [slotK, hq]
  have hs2 : slot A (2 * j + 4) = A.L[j].pa := by rw [slotP, hq]
  refine ⟨gown_apt hg h.v (by rw [← hs]; exact h.ap _ 0 (by omega)), ?_, ?_, fun t ht => ?_, gown_apt hg h.n (by rw [← hs]; exact h.ap _ 2 (by omega)), gown_apt hg h.c (by rw [← hs]; exact h.ap _ 3 (by omega)), ?_⟩
  · show (A.L.set j _).map (·.y) = c.ts.set j _
    rw [List.map_set, h.e]
  · have := gown_apt hg h.t (by rw [← hs]; exact h.ap _ 1 (by omega))
    simpa using this
  · obtain ⟨i, hi, rfl⟩ := List.getElem_of_mem ht
    have hi' : i < A.L.length := by simpa using hi
    rw [List.getElem_set]
    by_cases e : j = i
    · rw [if_pos e]
      have := h.r A.L[j] (List.getElem_mem hj)
      exact ⟨gown_apt hg this.p (by rw [← hs, ← hs2]; exact h.ap _ _ (by omega)), ho⟩
    · rw [if_neg e]
      have hi2 : A.L[i]? = some A.L[i] := List.getElem?_eq_getElem hi'
      have r := h.r A.L[i] (List.getElem_mem hi')
      have e1 : slot A (2 * i + 4) = A.L[i].pa := by rw [slotP, hi2]
      have e2 : slot A (2 * i + 5) = A.L[i].ka := by rw [slotK, hi2]
      exact ⟨gown_apt hg r.p (by rw [← hs, ← e1]; exact h.ap _ _ (by omega)), gown_apt hg r.k (by rw [← hs, ← e2]; exact h.ap _ _ (by omega))⟩
  · refine ap_put (w := w) h.ap h.lt (2 * j + 5) (fun i hi => ?_) ?_
    · rcases slotCase i with rfl | rfl | rfl | rfl | ⟨q, rfl⟩ | ⟨q, rfl⟩
      · rfl
      · rfl
      · rfl
      · rfl
      · rw [slotP, slotP]
        show (match (A.L.set j _)[q]? with | none => none | some t => t.pa) = _
        rw [getL_set hj]
        by_cases e : q = j
        · subst e
          rw [if_pos rfl, List.getElem?_eq_getElem hj]
        · rw [if_neg e]
      · rw [slotK, slotK]
        show (match (A.L.set j _)[q]? with | none => none | some t => t.ka) = _
        rw [getL_set hj, if_neg (by omega)]
    · rw [hs, slotK]
      show Lies w _ (match (A.L.set j _)[j]? with | none => none | some t => t.ka)
      rw [getL_set hj, if_pos rfl]
      exact hl
theorem OwX.putP' (h : OwX base w A xs c) {j : Nat} {t : Tm} (hq : A.L[j]? = some t) {a' : Option Addr} {c' : Nat} {ps : List Nt} (hg : w.grownBy w' (Value.slice t.pa t.y.ps.length t.pc).ownBlock) (ho : w'.ownsRow base 111 6 (.slice a' ps.length c') ps.length (rowG ntC ps)) (hl : Lies w t.pa a') :
    OwX base w' { A with L := A.L.set j { t with y := { t.y with ps := ps }, pa := a', pc := c' } } xs { c with ts := c.ts.set j { t.y with ps := ps } } := by
  obtain ⟨hj, rfl⟩ := List.getElem?_eq_some_iff.1 hq
  exact h.putP j hj hg ho hl
theorem OwX.putK' (h : OwX base w A xs c) {j : Nat} {t : Tm} (hq : A.L[j]? = some t) {a' : Option Addr} {c' : Nat} {tk : List Int} (hg : w.grownBy w' (Value.slice t.ka t.y.tk.length t.kc).ownBlock) (ho : w'.ownsRow base 3 1 (.slice a' tk.length c') tk.length (rowG izE tk)) (hl : Lies w t.ka a') :
    OwX base w' { A with L := A.L.set j { t with y := { t.y with tk := tk }, ka := a', kc := c' } } xs { c with ts := c.ts.set j { t.y with tk := tk } } := by
  obtain ⟨hj, rfl⟩ := List.getElem?_eq_some_iff.1 hq
  exact h.putK j hj hg ho hl
theorem OwX.putY' (h : OwX base w A xs c) {j : Nat} {t : Tm} (hq : A.L[j]? = some t) (y : Ty) (hp : y.ps = t.y.ps) (hk : y.tk = t.y.tk) : OwX base w { A with L := A.L.set j { t with y := y } } xs { c with ts := c.ts.set j y } := by
  obtain ⟨hj, rfl⟩ := List.getElem?_eq_some_iff.1 hq
  exact h.putY j hj y hp hk
/-- One cell of the tries' row is stored. -/
theorem OwX.setX (h : OwX base w A xs c) {g : Nat} (ha : A.ta = some ⟨g, 0, none⟩) (m : Nat) (v : Value) : OwX base (w.setCell ⟨g, m, none⟩ v) A (xs.set m v) c := by
  have ho := h.t
  rw [ha] at ho
  have hs := (World.ownsRow.stored ho m v).1
  refine h.putX (by rw [ha]; exact gset (World.grownBy.refl _ _) m v) ?_
  rw [ha]
  exact hs
theorem OwX.cellX (h : OwX base w A xs c) {g : Nat} (ha : A.ta = some ⟨g, 0, none⟩) {m : Nat} {v : Value} (hv : xs[m]? = some v) : w.cell? ⟨g, m, none⟩ = some v := by
  have ho := h.t
  rw [ha] at ho
  have hl : m < c.ts.length * 7 := by
    have := (List.getElem?_eq_some_iff.1 hv).1
    rw [ho.1] at this
    exact this
  rw [ho.cellAt m hl, hv]
theorem OwX.someX (h : OwX base w A xs c) {g : Nat} (ha : A.ta = some ⟨g, 0, none⟩) {m : Nat} (hm : m < c.ts.length * 7) : ∃ v, w.cell? ⟨g, m, none⟩ = some v := by
  have ho := h.t
  rw [ha] at ho
  exact own_some ho m hm
theorem OwX.frozX (h : OwX base w A xs c) {g : Nat} (ha : A.ta = some ⟨g, 0, none⟩) (m : Nat) : w.frozen? ⟨g, m, none⟩ = false := by
  have ho := h.t
  rw [ha] at ho
  exact ho.frozenAt m
theorem OwX.geX (h : OwX base w A xs c) {g : Nat} (ha : A.ta = some ⟨g, 0, none⟩) : base ≤ g ∧ g < w.heap.size := by
  have ho := h.t
  rw [ha] at ho
  exact ho.lt g rfl
theorem OwX.len7 (h : OwX base w A xs c) : xs.length = A.L.length * 7 := by rw [h.len]; exact h.t.1
end
/-- A block is one of a council's rows. -/
def InA (A : CA) (G : Nat) : Prop := ∃ j x, slot A j = some x ∧ x.block = G
/-- What is outside a council's rows stays; new rows lie where rows lay, or in new memory. -/
structure Fr (A : CA) (w : World) (A' : CA) (w' : World) : Prop where
  os : w'.os = w.os
  tape : w'.tape = w.tape
  output : w'.output = w.output
  size : w.heap.size ≤ w'.heap.size
  block : ∀ G, G < w.heap.size → ¬ InA A G → w'.heap[G]? = w.heap[G]?
  rows : ∀ G, InA A' G → InA A G ∨ w.heap.size ≤ G
theorem Fr.refl (A : CA) (w : World) : Fr A w A w := ⟨rfl, rfl, rfl, Nat.le_refl _, fun _ _ _ => rfl, fun _ h => .inl h⟩
theorem Fr.trans {A A' A'' : CA} {w w' w'' : World} (h : Fr A w A' w') (k : Fr A' w' A'' w'') : Fr A w A'' w'' :=
  ⟨k.os.trans h.os, k.tape.trans h.tape, k.output.trans h.output, Nat.le_trans h.size k.size, fun G hG hn => (k.block G (Nat.lt_of_lt_of_le hG h.size) (fun e => by
    rcases h.rows G e with e | e
    · exact hn e
    · omega)).trans (h.block G hG hn), fun G hG => by
    rcases k.rows G hG with e | e
    · exact h.rows G e
    · exact .inr (Nat.le_trans h.size e)⟩
/-- A change of one of the rows, or of new memory. -/
theorem Fr.step {A A' : CA} {w w' w'' : World} {r : Option Nat} (h : Fr A w A' w') (hg : w'.grownBy w'' r) (hr : ∀ q, r = some q → InA A q ∨ w.heap.size ≤ q) : Fr A w A' w'' :=
  ⟨hg.os.trans h.os, hg.tape.trans h.tape, hg.output.trans h.output, Nat.le_trans h.size hg.size, fun G hG hn => (hg.block G (Nat.lt_of_lt_of_le hG h.size) (fun e => by
    rcases hr G e.symm with e | e
    · exact hn e
    · omega)).trans (h.block G hG hn), h.rows⟩
theorem Fr.below {A A' : CA} {w w' w'' : World} (h : Fr A w A' w') (hb : Below w'.heap.size w' w'') : Fr A w A' w'' := h.step (r := none) (gnew hb) (fun q hq => by cases hq)
theorem Fr.set {A A' : CA} {w w' : World} {g : Nat} (h : Fr A w A' w') (hg : InA A g ∨ w.heap.size ≤ g) (m : Nat) (v : Value) : Fr A w A' (w'.setCell ⟨g, m, none⟩ v) := h.step (gset (World.grownBy.refl _ (some g)) m v) (fun q hq => by injection hq with hq; subst hq; exact hg)
theorem Fr.put {A A' A'' : CA} {w w' : World} (h : Fr A w A' w') (hr : ∀ G, InA A'' G → InA A G ∨ w.heap.size ≤ G) : Fr A w A'' w' := ⟨h.os, h.tape, h.output, h.size, h.block, hr⟩
theorem Fr.blk {A A' : CA} {w w' : World} {G : Nat} {t : TypeId} {cs : List Value} (h : Fr A w A' w') (hB : Blk w G t cs) (hn : ¬ InA A G) : Blk w' G t cs := (h.block G hB.lt hn).trans hB
section
variable {base : Nat} {w w' : World} {A : CA} {xs : List Value} {c : Cn}
theorem own_bge {w : World} {base k n ca : Nat} {e : TypeId} {a : Option Addr} {xs : List Value} (h : w.ownsRow base e k (.slice a n ca) n xs) (x : Addr) (hx : a = some x) : base ≤ x.block := by
  subst hx
  exact (h.lt x.block rfl).1
theorem OwX.ge (h : OwX base w A xs c) (j : Nat) (x : Addr) (hx : slot A j = some x) : base ≤ x.block := by
  rcases slotCase j with rfl | rfl | rfl | rfl | ⟨i, rfl⟩ | ⟨i, rfl⟩
  · exact own_bge h.v x hx
  · exact own_bge h.t x hx
  · exact own_bge h.n x hx
  · exact own_bge h.c x hx
  · rw [slotP] at hx
    cases hq : A.L[i]? with
    | none => rw [hq] at hx; cases hx
    | some t => rw [hq] at hx; exact own_bge (h.r t (List.mem_of_getElem? hq)).p x hx
  · rw [slotK] at hx
    cases hq : A.L[i]? with
    | none => rw [hq] at hx; cases hx
    | some t => rw [hq] at hx; exact own_bge (h.r t (List.mem_of_getElem? hq)).k x hx
theorem OwX.inA (h : OwX base w A xs c) {G : Nat} (hG : InA A G) : base ≤ G ∧ G < w.heap.size := by
  obtain ⟨j, x, hx, rfl⟩ := hG
  exact ⟨h.ge j x hx, h.lt j x hx⟩
/-- What lies ahead of a council's rows, or behind them, stays. -/
theorem OwX.frB (h : OwX base w A xs c) {A' : CA} (hf : Fr A w A' w') (hb : base ≤ w.heap.size) : Below base w w' :=
  ⟨hf.os, hf.tape, hf.output, hf.size, fun G hG => hf.block G (by omega) (fun e => by have := (h.inA e).1; omega)⟩
theorem inV {A : CA} {n c q : Nat} (h : (Value.slice A.va n c).ownBlock = some q) : InA A q := by obtain ⟨x, hx, e⟩ := ownBlk h; exact ⟨0, x, hx, e⟩
theorem inT {A : CA} {n c q : Nat} (h : (Value.slice A.ta n c).ownBlock = some q) : InA A q := by obtain ⟨x, hx, e⟩ := ownBlk h; exact ⟨1, x, hx, e⟩
theorem inN {A : CA} {n c q : Nat} (h : (Value.slice A.na n c).ownBlock = some q) : InA A q := by obtain ⟨x, hx, e⟩ := ownBlk h; exact ⟨2, x, hx, e⟩
theorem inC {A : CA} {n c q : Nat} (h : (Value.slice A.ca n c).ownBlock = some q) : InA A q := by obtain ⟨x, hx, e⟩ := ownBlk h; exact ⟨3, x, hx, e⟩
theorem inP {A : CA} {t : Tm} {j n c q : Nat} (ht : A.L[j]? = some t) (h : (Value.slice t.pa n c).ownBlock = some q) : InA A q := by obtain ⟨x, hx, e⟩ := ownBlk h; exact ⟨2 * j + 4, x, by rw [slotP, ht]; exact hx, e⟩
theorem inK {A : CA} {t : Tm} {j n c q : Nat} (ht : A.L[j]? = some t) (h : (Value.slice t.ka n c).ownBlock = some q) : InA A q := by obtain ⟨x, hx, e⟩ := ownBlk h; exact ⟨2 * j + 5, x, by rw [slotK, ht]; exact hx, e⟩
end
end Go.Proofs.Ytgehdgmllilmgaa
namespace Go.Proofs.Ytgehdgmllilmgaa
open Go.RowKit
set_option linter.unusedVariables false

structure VaO (base : Nat) (w : World) (B : Nat) (A : CA) (c : Cn) : Prop where
  b : Blk w B 32 (cnC A c)
  o : OwC base w A c
  nb : ¬ InA A B
  lb : base ≤ w.heap.size
/-- What is neither the variable nor one of the council's rows stays. -/
structure FrB (A : CA) (B : Nat) (w : World) (A' : CA) (w' : World) : Prop where
  os : w'.os = w.os
  tape : w'.tape = w.tape
  output : w'.output = w.output
  size : w.heap.size ≤ w'.heap.size
  block : ∀ G, G < w.heap.size → ¬ InA A G → G ≠ B → w'.heap[G]? = w.heap[G]?
  rows : ∀ G, InA A' G → InA A G ∨ w.heap.size ≤ G
theorem FrB.refl (A : CA) (B : Nat) (w : World) : FrB A B w A w := ⟨rfl, rfl, rfl, Nat.le_refl _, fun _ _ _ _ => rfl, fun _ h => .inl h⟩
theorem FrB.trans {A A' A'' : CA} {B : Nat} {w w' w'' : World} (h : FrB A B w A' w') (k : FrB A' B w' A'' w'') : FrB A B w A'' w'' :=
  ⟨k.os.trans h.os, k.tape.trans h.tape, k.output.trans h.output, Nat.le_trans h.size k.size, fun G hG hn hB => (k.block G (Nat.lt_of_lt_of_le hG h.size) (fun e => by
    rcases h.rows G e with e | e
    · exact hn e
    · omega) hB).trans (h.block G hG hn hB), fun G hG => by
    rcases k.rows G hG with e | e
    · exact h.rows G e
    · exact .inr (Nat.le_trans h.size e)⟩
theorem FrB.step {A A' : CA} {B : Nat} {w w' w'' : World} {r : Option Nat} (h : FrB A B w A' w') (hg : w'.grownBy w'' r) (hr : ∀ q, r = some q → InA A q ∨ q = B ∨ w.heap.size ≤ q) : FrB A B w A' w'' :=
  ⟨hg.os.trans h.os, hg.tape.trans h.tape, hg.output.trans h.output, Nat.le_trans h.size hg.size, fun G hG hn hB => (hg.block G (Nat.lt_of_lt_of_le hG h.size) (fun e => by
    rcases hr G e.symm with e | e | e
    · exact hn e
    · exact hB e
    · omega)).trans (h.block G hG hn hB), h.rows⟩
theorem FrB.below {A A' : CA} {B : Nat} {w w' w'' : World} (h : FrB A B w A' w') (hb : Below w'.heap.size w' w'') : FrB A B w A' w'' := h.step (r := none) (gnew hb) (fun q hq => by cases hq)
theorem FrB.put {A A' A'' : CA} {B : Nat} {w w' : World} (h : FrB A B w A' w') (hr : ∀ G, InA A'' G → InA A G ∨ w.heap.size ≤ G) : FrB A B w A'' w' := ⟨h.os, h.tape, h.output, h.size, h.block, hr⟩
theorem FrB.blk {A A' : CA} {B : Nat} {w w' : World} {G : Nat} {t : TypeId} {cs : List Value} (h : FrB A B w A' w') (hB : Blk w G t cs) (hn : ¬ InA A G) (hG : G ≠ B) : Blk w' G t cs := (h.block G hB.lt hn hG).trans hB
theorem FrB.own {A A' : CA} {B : Nat} {w w' : World} {base n k : Nat} {e : TypeId} {v : Value} {xs : List Value} (h : FrB A B w A' w') (ho : w.ownsRow base e k v n xs) (hn : ∀ q, v.ownBlock = some q → ¬ InA A q ∧ q ≠ B) : w'.ownsRow base e k v n xs :=
  ⟨ho.1, by
    rcases ho.2 with hv | ⟨g, cap, cur, hv, h1, h2, h3⟩
    · exact .inl hv
    · have hq := hn g (by rw [hv]; rfl)
      exact .inr ⟨g, cap, cur, hv, h1, (h.block g (Array.getElem?_eq_some_iff.1 h2).1 hq.1 hq.2).trans h2, h3⟩⟩
theorem FrB.rd {α : Type} {enc : α → List Value} {k : Nat} {A A' : CA} {B : Nat} {w w' : World} {a : Option Addr} {l : List α} (h : FrB A B w A' w') (hr : RdG enc k w a l) (hn : ∀ x, a = some x → ¬ InA A x.block ∧ x.block ≠ B) : RdG enc k w' a l := by
  intro i hi
  obtain ⟨b, o, ha, hg, hc⟩ := hr i hi
  have hq := hn _ ha
  refine ⟨b, o, ha, Nat.lt_of_lt_of_le hg h.size, fun j hj => ?_⟩
  rw [← hc j hj]
  exact World.cell?_of_block (h.block b hg hq.1 hq.2)
theorem FrB.toBelow {A A' : CA} {B D : Nat} {w w' : World} (h : FrB A B w A' w') (hA : ∀ G, InA A G → D ≤ G) (hB : D ≤ B) (hD : D ≤ w.heap.size) : Below D w w' :=
  ⟨h.os, h.tape, h.output, h.size, fun G hG => h.block G (by omega) (fun e => by have := hA G e; omega) (by omega)⟩
section
variable {base : Nat} {w w' : World} {B : Nat} {A : CA} {c : Cn}
theorem VaO.cells (h : VaO base w B A c) : w.cell? ⟨B, 0, none⟩ = some (.slice A.va c.vs.length A.vc) ∧ w.cell? ⟨B, 1, none⟩ = some (.slice A.ta c.ts.length A.tc) ∧ w.cell? ⟨B, 2, none⟩ = some (.slice A.na c.ns.length A.nc) ∧ w.cell? ⟨B, 3, none⟩ = some (.slice A.ca c.ch.length A.cc) := ⟨h.b.cell 0, h.b.cell 1, h.b.cell 2, h.b.cell 3⟩
theorem VaO.kept (h : VaO base w B A c) (hb : Below w.heap.size w w') : VaO base w' B A c := ⟨h.b.below hb h.b.lt, h.o.kept hb, h.nb, Nat.le_trans h.lb hb.size⟩
theorem inA_N {A : CA} {a' : Option Addr} {c' G : Nat} (h : InA { A with na := a', nc := c' } G) : InA A G ∨ ∃ x, a' = some x ∧ x.block = G := by
  obtain ⟨j, x, hx, e⟩ := h
  match j, hx with
  | 0, hx => exact .inl ⟨0, x, hx, e⟩
  | 1, hx => exact .inl ⟨1, x, hx, e⟩
  | 2, hx => exact .inr ⟨x, hx, e⟩
  | 3, hx => exact .inl ⟨3, x, hx, e⟩
  | k + 4, hx => exact .inl ⟨k + 4, x, hx, e⟩
theorem inA_C {A : CA} {a' : Option Addr} {c' G : Nat} (h : InA { A with ca := a', cc := c' } G) : InA A G ∨ ∃ x, a' = some x ∧ x.block = G := by
  obtain ⟨j, x, hx, e⟩ := h
  match j, hx with
  | 0, hx => exact .inl ⟨0, x, hx, e⟩
  | 1, hx => exact .inl ⟨1, x, hx, e⟩
  | 2, hx => exact .inl ⟨2, x, hx, e⟩
  | 3, hx => exact .inr ⟨x, hx, e⟩
  | k + 4, hx => exact .inl ⟨k + 4, x, hx, e⟩
theorem lies_of {a a' : Option Addr} {n ca : Nat} (h : ∀ x, a' = some x → (Value.slice a n ca).ownBlock = some x.block ∨ w.heap.size ≤ x.block) : Lies w a a' := fun x hx => by
  rcases h x hx with h | h
  · obtain ⟨y, hy, e⟩ := ownBlk h
    exact .inr ⟨y, hy, e⟩
  · exact .inl h
/-- The notes' row is changed, and its slice stored. -/
theorem VaO.putN (h : VaO base w B A c) {a' : Option Addr} {c' : Nat} {ns : List Nt} (hg : w.grownBy w' (Value.slice A.na c.ns.length A.nc).ownBlock) (ho : w'.ownsRow base 111 6 (.slice a' ns.length c') ns.length (rowG ntC ns)) (hl : ∀ x, a' = some x → (Value.slice A.na c.ns.length A.nc).ownBlock = some x.block ∨ w.heap.size ≤ x.block) :
    VaO base (w'.setCell ⟨B, 2, none⟩ (.slice a' ns.length c')) B { A with na := a', nc := c' } { c with ns := ns } ∧ FrB A B w { A with na := a', nc := c' } (w'.setCell ⟨B, 2, none⟩ (.slice a' ns.length c')) := by
  have hB : Blk w' B 32 (cnC A c) := gblk hg h.b (fun e => h.nb (inN e))
  have hO := h.o.putN hg ho (lies_of hl)
  have hin : ∀ G, InA { A with na := a', nc := c' } G → InA A G ∨ w.heap.size ≤ G := fun G hG => by
    rcases inA_N hG with e | ⟨x, hx, rfl⟩
    · exact .inl e
    · rcases hl x hx with e | e
      · exact .inl (inN e)
      · exact .inr e
  have hnb : ¬ InA { A with na := a', nc := c' } B := fun e => by
    rcases hin B e with e | e
    · exact h.nb e
    · have := h.b.lt; omega
  have hf : FrB A B w { A with na := a', nc := c' } (w'.setCell ⟨B, 2, none⟩ (.slice a' ns.length c')) := (((FrB.refl A B w).step hg (fun q hq => .inl (inN hq))).step (gset (World.grownBy.refl _ (some B)) 2 _) (fun q hq => by injection hq with hq; exact .inr (.inl hq.symm))).put hin
  refine ⟨⟨hB.set 2 _, ?_, hnb, Nat.le_trans h.lb hf.size⟩, hf⟩
  have hgB : w'.grownBy (w'.setCell ⟨B, 2, none⟩ (.slice a' ns.length c')) (some B) := gset (World.grownBy.refl _ (some B)) 2 _
  have nbq : ∀ {n c q : Nat} {a : Option Addr}, (Value.slice a n c).ownBlock = some q → (∀ x, a = some x → InA { A with na := a', nc := c' } x.block) → some B ≠ some q := fun hq hx e => by
    injection e with e
    obtain ⟨x, hx', ex⟩ := ownBlk hq
    exact hnb (by rw [e, ← ex]; exact hx x hx')
  exact ⟨gown hgB hO.v (fun q hq => nbq hq (fun x hx => ⟨0, x, hx, rfl⟩)), hO.e, gown hgB hO.t (fun q hq => nbq hq (fun x hx => ⟨1, x, hx, rfl⟩)), fun t ht => by
    obtain ⟨j, e1, e2, e3⟩ := hO.atP ht
    exact ⟨gown hgB (hO.r t ht).p (fun q hq => nbq hq (fun x hx => ⟨_, x, e1.trans hx, rfl⟩)), gown hgB (hO.r t ht).k (fun q hq => nbq hq (fun x hx => ⟨_, x, e2.trans hx, rfl⟩))⟩, gown hgB hO.n (fun q hq => nbq hq (fun x hx => ⟨2, x, hx, rfl⟩)), gown hgB hO.c (fun q hq => nbq hq (fun x hx => ⟨3, x, hx, rfl⟩)), hO.ap⟩
/-- A store into the variable leaves the rows. -/
theorem OwX.setB {xs : List Value} (hO : OwX base w' A xs c) (hnb : ¬ InA A B) (m : Nat) (v : Value) : OwX base (w'.setCell ⟨B, m, none⟩ v) A xs c := by
  have hgB : w'.grownBy (w'.setCell ⟨B, m, none⟩ v) (some B) := gset (World.grownBy.refl _ (some B)) m v
  have nbq : ∀ {n c q : Nat} {a : Option Addr}, (Value.slice a n c).ownBlock = some q → (∀ x, a = some x → InA A x.block) → some B ≠ some q := fun hq hx e => by
    injection e with e
    obtain ⟨x, hx', ex⟩ := ownBlk hq
    exact hnb (by rw [e, ← ex]; exact hx x hx')
  exact ⟨gown hgB hO.v (fun q hq => nbq hq (fun x hx => ⟨0, x, hx, rfl⟩)), hO.e, gown hgB hO.t (fun q hq => nbq hq (fun x hx => ⟨1, x, hx, rfl⟩)), fun t ht => by
    obtain ⟨j, e1, e2, e3⟩ := hO.atP ht
    exact ⟨gown hgB (hO.r t ht).p (fun q hq => nbq hq (fun x hx => ⟨_, x, e1.trans hx, rfl⟩)), gown hgB (hO.r t ht).k (fun q hq => nbq hq (fun x hx => ⟨_, x, e2.trans hx, rfl⟩))⟩, gown hgB hO.n (fun q hq => nbq hq (fun x hx => ⟨2, x, hx, rfl⟩)), gown hgB hO.c (fun q hq => nbq hq (fun x hx => ⟨3, x, hx, rfl⟩)), hO.ap⟩
/-- The row of what was chosen is changed, and its slice stored. -/
theorem VaO.putC (h : VaO base w B A c) {a' : Option Addr} {c' : Nat} {ch : List ByteArray} (hg : w.grownBy w' (Value.slice A.ca c.ch.length A.cc).ownBlock) (ho : w'.ownsRow base 9 1 (.slice a' ch.length c') ch.length (rowG txE ch)) (hl : ∀ x, a' = some x → (Value.slice A.ca c.ch.length A.cc).ownBlock = some x.block ∨ w.heap.size ≤ x.block) :
    VaO base (w'.setCell ⟨B, 3, none⟩ (.slice a' ch.length c')) B { A with ca := a', cc := c' } { c with ch := ch } ∧ FrB A B w { A with ca := a', cc := c' } (w'.setCell ⟨B, 3, none⟩ (.slice a' ch.length c')) := by
  have hB : Blk w' B 32 (cnC A c) := gblk hg h.b (fun e => h.nb (inC e))
  have hO := h.o.putC hg ho (lies_of hl)
  have hin : ∀ G, InA { A with ca := a', cc := c' } G → InA A G ∨ w.heap.size ≤ G := fun G hG => by
    rcases inA_C hG with e | ⟨x, hx, rfl⟩
    · exact .inl e
    · rcases hl x hx with e | e
      · exact .inl (inC e)
      · exact .inr e
  have hnb : ¬ InA { A with ca := a', cc := c' } B := fun e => by
    rcases hin B e with e | e
    · exact h.nb e
    · have := h.b.lt; omega
  have hf : FrB A B w { A with ca := a', cc := c' } (w'.setCell ⟨B, 3, none⟩ (.slice a' ch.length c')) := (((FrB.refl A B w).step hg (fun q hq => .inl (inC hq))).step (gset (World.grownBy.refl _ (some B)) 3 _) (fun q hq => by injection hq with hq; exact .inr (.inl hq.symm))).put hin
  exact ⟨⟨hB.set 3 _, hO.setB hnb 3 _, hnb, Nat.le_trans h.lb hf.size⟩, hf⟩
/-- A row is changed in its place. -/
theorem VaO.putV (h : VaO base w B A c) {vs : List Vo} (hlen : vs.length = c.vs.length) (hg : w.grownBy w' (Value.slice A.va c.vs.length A.vc).ownBlock) (ho : w'.ownsRow base 43 3 (.slice A.va vs.length A.vc) vs.length (rowG voC vs)) :
    VaO base w' B A { c with vs := vs } ∧ FrB A B w A w' := by
  have hB : Blk w' B 32 (cnC A c) := gblk hg h.b (fun e => h.nb (inV e))
  have hf : FrB A B w A w' := (FrB.refl A B w).step hg (fun q hq => .inl (inV hq))
  refine ⟨⟨?_, h.o.putV (a' := A.va) (c' := A.vc) hg ho (Lies.refl _ _), h.nb, Nat.le_trans h.lb hf.size⟩, hf⟩
  unfold cnC at hB ⊢
  show Blk w' B _ [.slice A.va vs.length A.vc, _, _, _]
  rw [hlen]
  exact hB
/-- A change of a block that is none of the council's. -/
theorem OwX.farR {xs : List Value} {R : Nat} (hO : OwX base w A xs c) (hnb : ¬ InA A R) (hg : w.grownBy w' (some R)) : OwX base w' A xs c := by
  have nbq : ∀ {n c q : Nat} {a : Option Addr}, (Value.slice a n c).ownBlock = some q → (∀ x, a = some x → InA A x.block) → some R ≠ some q := fun hq hx e => by
    injection e with e
    obtain ⟨x, hx', ex⟩ := ownBlk hq
    exact hnb (by rw [e, ← ex]; exact hx x hx')
  exact ⟨gown hg hO.v (fun q hq => nbq hq (fun x hx => ⟨0, x, hx, rfl⟩)), hO.e, gown hg hO.t (fun q hq => nbq hq (fun x hx => ⟨1, x, hx, rfl⟩)), fun t ht => by
    obtain ⟨j, e1, e2, e3⟩ := hO.atP ht
    exact ⟨gown hg (hO.r t ht).p (fun q hq => nbq hq (fun x hx => ⟨_, x, e1.trans hx, rfl⟩)), gown hg (hO.r t ht).k (fun q hq => nbq hq (fun x hx => ⟨_, x, e2.trans hx, rfl⟩))⟩, gown hg hO.n (fun q hq => nbq hq (fun x hx => ⟨2, x, hx, rfl⟩)), gown hg hO.c (fun q hq => nbq hq (fun x hx => ⟨3, x, hx, rfl⟩)), hO.ap⟩
theorem VaO.farR {R : Nat} (h : VaO base w B A c) (hR : R ≠ B) (hn : ¬ InA A R) (hg : w.grownBy w' (some R)) : VaO base w' B A c :=
  ⟨gblk hg h.b (fun e => by injection e with e; exact hR e), h.o.farR hn hg, h.nb, Nat.le_trans h.lb hg.size⟩
end
end Go.Proofs.Ytgehdgmllilmgaa
