/- Ballots, plain: voices, notes; what a voice hears; what is picked; how many are most. -/
import Derived.Test.YtgehdgmllilmgaaYA
namespace Go.Proofs.Ytgehdgmllilmgaa
open Go.RowKit
set_option linter.unusedVariables false

/-- A voice: Promised, Taken, Value. -/
structure Vo where
  p : Int
  t : Int
  v : ByteArray
/-- A note: Kind, From, To, Ballot, Taken, Value. -/
structure Nt where
  k : Int
  f : Int
  o : Int
  b : Int
  t : Int
  v : ByteArray
def okVo (x : Vo) : Prop := (0 ≤ x.p ∧ x.p ≤ 10000) ∧ (0 ≤ x.t ∧ x.t ≤ x.p) ∧ x.v.size ≤ 40 ∧ (0 < x.t ∨ x.v.toList = [])
instance (x : Vo) : Decidable (okVo x) := by unfold okVo; infer_instance
def zeroNt : Nt := ⟨0, 0, 0, 0, 0, ⟨#[]⟩⟩
def zeroVo : Vo := ⟨0, 0, ⟨#[]⟩⟩
theorem okVo_zero : okVo zeroVo := ⟨⟨by decide, by decide⟩, ⟨by decide, by decide⟩, by decide, .inr (by show (⟨#[]⟩ : ByteArray).toList = []; rw [ByteArray.toList_eq])⟩
/-- What may be heard at all. -/
def fitN (x : Vo) (m : Nt) : Prop := okVo x ∧ (1 ≤ m.b ∧ m.b ≤ 10000) ∧ m.v.size ≤ 40
instance (x : Vo) (m : Nt) : Decidable (fitN x m) := by unfold fitN; infer_instance
/-- What a voice answers to a note. -/
def hearA (x : Vo) (m : Nt) : Vo × Nt × Bool :=
  if fitN x m then
    if m.k = 1 ∧ x.p < m.b then (⟨m.b, x.t, x.v⟩, ⟨2, m.o, m.f, m.b, x.t, x.v⟩, true)
    else if m.k = 3 ∧ x.p ≤ m.b then (⟨m.b, m.b, m.v⟩, ⟨4, m.o, m.f, m.b, 0, m.v⟩, true)
    else (x, zeroNt, false)
  else (x, zeroNt, false)
theorem hear_ask {x : Vo} {m : Nt} (h : fitN x m) (h1 : m.k = 1 ∧ x.p < m.b) : hearA x m = (⟨m.b, x.t, x.v⟩, ⟨2, m.o, m.f, m.b, x.t, x.v⟩, true) := by
  unfold hearA
  rw [if_pos h, if_pos h1]
theorem hear_take {x : Vo} {m : Nt} (h : fitN x m) (h2 : m.k = 3 ∧ x.p ≤ m.b) : hearA x m = (⟨m.b, m.b, m.v⟩, ⟨4, m.o, m.f, m.b, 0, m.v⟩, true) := by
  unfold hearA
  rw [if_pos h, if_neg (by omega), if_pos h2]
theorem hear_else {x : Vo} {m : Nt} (h1 : ¬ (m.k = 1 ∧ x.p < m.b)) (h2 : ¬ (m.k = 3 ∧ x.p ≤ m.b)) : hearA x m = (x, zeroNt, false) := by
  unfold hearA
  rw [if_neg h1, if_neg h2]
  split <;> rfl
theorem hear_no {x : Vo} {m : Nt} (h : ¬ fitN x m) : hearA x m = (x, zeroNt, false) := by
  unfold hearA
  rw [if_neg h]
/-- A voice never promises less than it did, nor takes what is below; it stays right; what it tells is of the note. -/
theorem hear_law (x : Vo) (m : Nt) (h : okVo x) : okVo (hearA x m).1 ∧ x.p ≤ (hearA x m).1.p ∧ x.t ≤ (hearA x m).1.t ∧ ((hearA x m).2.2 = false → (hearA x m).1 = x) ∧
    ((hearA x m).2.2 = true → (hearA x m).2.1.b = m.b ∧ (hearA x m).2.1.o = m.f ∧ (hearA x m).1.p = m.b ∧ (m.k = 3 → (hearA x m).1.t = m.b ∧ (hearA x m).1.v = m.v)) := by
  obtain ⟨⟨a1, a2⟩, ⟨a3, a4⟩, a5, a6⟩ := h
  by_cases c : fitN x m
  · obtain ⟨_, ⟨b1, b2⟩, b3⟩ := id c
    by_cases c1 : m.k = 1 ∧ x.p < m.b
    · rw [hear_ask c c1]
      refine ⟨⟨⟨by show 0 ≤ m.b; omega, by show m.b ≤ 10000; omega⟩, ⟨a3, by show x.t ≤ m.b; omega⟩, a5, a6⟩, by show x.p ≤ m.b; omega, Int.le_refl _, (fun e => by cases e), fun _ => ⟨rfl, rfl, rfl, fun e => ?_⟩⟩
      omega
    · by_cases c2 : m.k = 3 ∧ x.p ≤ m.b
      · rw [hear_take c c2]
        exact ⟨⟨⟨by show 0 ≤ m.b; omega, by show m.b ≤ 10000; omega⟩, ⟨by show 0 ≤ m.b; omega, Int.le_refl _⟩, b3, .inl (by show 0 < m.b; omega)⟩, by show x.p ≤ m.b; omega, by show x.t ≤ m.b; omega, (fun e => by cases e), fun _ => ⟨rfl, rfl, rfl, fun _ => ⟨rfl, rfl⟩⟩⟩
      · rw [hear_else c1 c2]
        exact ⟨⟨⟨a1, a2⟩, ⟨a3, a4⟩, a5, a6⟩, Int.le_refl _, Int.le_refl _, fun _ => rfl, fun e => by cases e⟩
  · rw [hear_no c]
    exact ⟨⟨⟨a1, a2⟩, ⟨a3, a4⟩, a5, a6⟩, Int.le_refl _, Int.le_refl _, fun _ => rfl, fun e => by cases e⟩
/-- What was met: the greatest Taken of the promises told, and its Value. -/
def pickN (a : Int × ByteArray) (n : Nt) : Int × ByteArray := if n.k = 2 ∧ a.1 < n.t then (n.t, n.v) else a
def pickS (l : List Nt) (own : ByteArray) : Int × ByteArray := l.foldl pickN (0, own)
theorem pickS_next {l : List Nt} {own : ByteArray} {i : Nat} (h : i < l.length) : pickS (l.take (i + 1)) own = pickN (pickS (l.take i) own) l[i] := by
  unfold pickS
  rw [List.take_succ_eq_append_getElem h, List.foldl_append]
  rfl
theorem pick_facts (l : List Nt) (own : ByteArray) : ∀ i, i ≤ l.length → 0 ≤ (pickS (l.take i) own).1 ∧ ((pickS (l.take i) own).1 = 0 → (pickS (l.take i) own).2 = own) ∧ (∀ j (hj : j < l.length), j < i → l[j].k = 2 → l[j].t ≤ (pickS (l.take i) own).1) ∧ ((pickS (l.take i) own).1 ≠ 0 → ∃ j, ∃ (hj : j < l.length), j < i ∧ l[j].k = 2 ∧ l[j].t = (pickS (l.take i) own).1 ∧ l[j].v = (pickS (l.take i) own).2)
  | 0, _ => ⟨Int.le_refl _, fun _ => rfl, fun j _ h => by omega, fun h => absurd rfl h⟩
  | i + 1, hi => by
    obtain ⟨h1, h2, h3, h4⟩ := pick_facts l own i (by omega)
    rw [pickS_next (by omega)]
    generalize pickS (l.take i) own = a at *
    unfold pickN
    by_cases c : l[i].k = 2 ∧ a.1 < l[i].t
    · rw [if_pos c]
      refine ⟨by show 0 ≤ l[i].t; omega, fun e => ?_, fun j hj hji hk => ?_, fun _ => ⟨i, by omega, by omega, c.1, rfl, rfl⟩⟩
      · have e : l[i].t = 0 := e
        omega
      · by_cases e : j < i
        · have := h3 j hj e hk
          show l[j].t ≤ l[i].t
          omega
        · obtain rfl : j = i := by omega
          exact Int.le_refl _
    · rw [if_neg c]
      refine ⟨h1, h2, fun j hj hji hk => ?_, fun e => ?_⟩
      · by_cases e : j < i
        · exact h3 j hj e hk
        · obtain rfl : j = i := by omega
          omega
      · obtain ⟨j, hj, a1, a2⟩ := h4 e
        exact ⟨j, hj, by omega, a2⟩
/-- How many of n are most of them. -/
def mostI (n : Int) : Int := if n < 0 then 0 else n / 2 + 1
end Go.Proofs.Ytgehdgmllilmgaa
namespace Go.Proofs.Ytgehdgmllilmgaa
open Go.RowKit
set_option linter.unusedVariables false

/-- A try: Id, Ballot, Value, Promises, Asked, Takers, Chosen. -/
structure Ty where
  i : Int
  b : Int
  v : ByteArray
  ps : List Nt
  «as» : Bool
  tk : List Int
  ch : Bool
/-- What happens: Kind, Id, At, Value. -/
structure Hp where
  k : Int
  i : Int
  a : Int
  v : ByteArray
/-- A council: Voices, Tries, Notes, Chosen. -/
structure Cn where
  vs : List Vo
  ts : List Ty
  ns : List Nt
  ch : List ByteArray
def zeroTy : Ty := ⟨0, 0, ⟨#[]⟩, [], false, [], false⟩
def zeroCn : Cn := ⟨[], [], [], []⟩
def newTy (i : Nat) : Ty := ⟨(i : Int) + 1, 0, ⟨#[]⟩, [], false, [], false⟩
def newCn (v t : Nat) : Cn := ⟨List.replicate v zeroVo, (List.range t).map newTy, [], []⟩
/-- A right event among so many tries. -/
def okHp (t : Int) (e : Hp) : Prop := (1 ≤ e.k ∧ e.k ≤ 4) ∧ (1 ≤ e.i ∧ e.i ≤ t) ∧ 0 ≤ e.a ∧ (e.k = 1 → 1 ≤ e.v.size ∧ e.v.size ≤ 40) ∧ (e.k ≠ 1 → e.v.toList = [])
instance (t : Int) (e : Hp) : Decidable (okHp t e) := by unfold okHp; infer_instance
def tyAt (c : Cn) (i : Int) : Ty := c.ts.getD (i.toNat - 1) zeroTy
def voAt (c : Cn) (i : Int) : Vo := c.vs.getD (i.toNat - 1) zeroVo
def setTy (c : Cn) (i : Int) (t : Ty) : Cn := { c with ts := c.ts.set (i.toNat - 1) t }
def setVo (c : Cn) (i : Int) (v : Vo) : Cn := { c with vs := c.vs.set (i.toNat - 1) v }
/-- The next ballot of a try. -/
def nextB (t : Ty) (i : Int) : Int := if 0 < t.b then t.b + 10 else i
def askP (i b : Int) (k : Nat) : Nt := ⟨1, i, (k : Int) + 1, b, 0, ⟨#[]⟩⟩
def askT (i b : Int) (v : ByteArray) (k : Nat) : Nt := ⟨3, i, (k : Int) + 1, b, 0, v⟩
def propC (c : Cn) (e : Hp) : Cn × Int :=
  if 10000 < nextB (tyAt c e.i) e.i then (c, 1)
  else ({ setTy c e.i ⟨e.i, nextB (tyAt c e.i) e.i, e.v, [], false, [], false⟩ with ns := c.ns ++ (List.range c.vs.length).map (askP e.i (nextB (tyAt c e.i) e.i)) }, 0)
def promC (c : Cn) (m : Nt) : Cn × Int :=
  if (tyAt c m.o).b ≠ m.b ∨ (tyAt c m.o).as = true then (c, 1)
  else if (tyAt c m.o).ps.any (fun p => p.f == m.f) = true then (c, 1)
  else if ((tyAt c m.o).ps.length : Int) + 1 = mostI c.vs.length then
    ({ setTy c m.o ⟨(tyAt c m.o).i, (tyAt c m.o).b, (pickS ((tyAt c m.o).ps ++ [m]) (tyAt c m.o).v).2, (tyAt c m.o).ps ++ [m], true, (tyAt c m.o).tk, (tyAt c m.o).ch⟩ with ns := c.ns ++ (List.range c.vs.length).map (askT (tyAt c m.o).i (tyAt c m.o).b (pickS ((tyAt c m.o).ps ++ [m]) (tyAt c m.o).v).2) }, 0)
  else (setTy c m.o { tyAt c m.o with ps := (tyAt c m.o).ps ++ [m] }, 0)
def takC (c : Cn) (m : Nt) : Cn × Int :=
  if (tyAt c m.o).b ≠ m.b ∨ (tyAt c m.o).tk.any (fun p => p == m.f) = true then (c, 1)
  else if ((tyAt c m.o).tk.length : Int) + 1 = mostI c.vs.length then
    ({ setTy c m.o { tyAt c m.o with tk := (tyAt c m.o).tk ++ [m.f], ch := true } with ch := c.ch ++ [(tyAt c m.o).v] }, 0)
  else (setTy c m.o { tyAt c m.o with tk := (tyAt c m.o).tk ++ [m.f] }, 0)
def hearC (c : Cn) (m : Nt) : Cn × Int :=
  if (hearA (voAt c m.o) m).2.2 = true then ({ setVo c m.o (hearA (voAt c m.o) m).1 with ns := c.ns ++ [(hearA (voAt c m.o) m).2.1] }, 0)
  else (c, 1)
def carrC (c : Cn) (m : Nt) : Cn × Int := if m.k = 2 then promC c m else if m.k = 4 then takC c m else hearC c m
def ntAt (c : Cn) (k : Nat) : Nt := c.ns.getD k zeroNt
def dropC (c : Cn) (k : Nat) : Cn := { c with ns := c.ns.take k ++ c.ns.drop (k + 1) }
def placeC (c : Cn) (e : Hp) : Nat := e.a.toNat % c.ns.length
def doC (c : Cn) (e : Hp) : Cn × Int :=
  if e.k = 1 then propC c e
  else if c.ns = [] then (c, 1)
  else if e.k = 4 then ({ c with ns := c.ns ++ [ntAt c (placeC c e)] }, 0)
  else if e.k = 3 then (dropC c (placeC c e), 0)
  else carrC (dropC c (placeC c e)) (ntAt c (placeC c e))
def runC (c : Cn) : List Hp → Cn × List Int
  | [] => (c, [])
  | e :: es => ((runC (doC c e).1 es).1, (doC c e).2 :: (runC (doC c e).1 es).2)
theorem runC_append (c : Cn) (es : List Hp) (e : Hp) : runC c (es ++ [e]) = ((doC (runC c es).1 e).1, (runC c es).2 ++ [(doC (runC c es).1 e).2]) := by
  induction es generalizing c with
  | nil => rfl
  | cons x xs ih => simp only [List.cons_append, runC, ih]
end Go.Proofs.Ytgehdgmllilmgaa
namespace Go.Proofs.Ytgehdgmllilmgaa
open Go.RowKit
set_option linter.unusedVariables false

def vj (vs : List Vo) (i : Nat) : Vo := vs.getD i zeroVo
def tj (ts : List Ty) (j : Nat) : Ty := ts.getD j zeroTy
theorem getD_set {α : Type} (l : List α) (k j : Nat) (x d : α) (hk : k < l.length) : (l.set k x).getD j d = if j = k then x else l.getD j d := by
  simp only [List.getD_eq_getElem?_getD, List.getElem?_set]
  by_cases h : k = j
  · subst h
    rw [if_pos rfl, if_pos hk, if_pos rfl]
    rfl
  · rw [if_neg h, if_neg (fun e => h e.symm)]
theorem nodup_le : ∀ (n : Nat) (l : List Nat), l.Nodup → (∀ x ∈ l, x < n) → l.length ≤ n
  | 0, l, _, h => by
    cases l with
    | nil => exact Nat.le_refl _
    | cons a l => exact absurd (h a (by simp)) (by omega)
  | n + 1, l, hn, h => by
    by_cases c : n ∈ l
    · have h1 := nodup_le n (l.erase n) (hn.erase n) (fun x hx => by
        have hm := (hn.mem_erase_iff).1 hx
        have := h x hm.2
        have := hm.1
        omega)
      rw [List.length_erase_of_mem c] at h1
      omega
    · have := nodup_le n l hn (fun x hx => by
        have := h x hx
        have : x ≠ n := fun e => c (e ▸ hx)
        omega)
      omega
/-- Two lists of most of n have one in common. -/
theorem common {n : Nat} {S R : List Nat} (hS : S.Nodup) (hR : R.Nodup) (h1 : ∀ x ∈ S, x < n) (h2 : ∀ x ∈ R, x < n) (hs : n < 2 * S.length) (hr : n < 2 * R.length) : ∃ x, x ∈ S ∧ x ∈ R := by
  by_cases c : ∃ x, x ∈ S ∧ x ∈ R
  · exact c
  · have hn : (S ++ R).Nodup := List.nodup_append.2 ⟨hS, hR, fun a ha b hb e => c ⟨a, ha, e ▸ hb⟩⟩
    have := nodup_le n (S ++ R) hn (fun x hx => by rcases List.mem_append.1 hx with h | h; exact h1 x h; exact h2 x h)
    rw [List.length_append] at this
    omega

abbrev Vts := Nat → Int → ByteArray → Prop
abbrev Aks := Int → ByteArray → Prop
/-- What a promise that was told says of its voice. -/
def Prm (n : Nat) (vs : List Vo) (V : Vts) (m : Nt) : Prop :=
  (1 ≤ m.f ∧ m.f ≤ n) ∧ m.b ≤ (vj vs (m.f.toNat - 1)).p ∧ 0 ≤ m.t ∧ m.t < m.b ∧ (0 < m.t → V (m.f.toNat - 1) m.t m.v) ∧ ∀ b v, V (m.f.toNat - 1) b v → b < m.b → b ≤ m.t
def NtOk (n T : Nat) (vs : List Vo) (V : Vts) (A : Aks) (m : Nt) : Prop :=
  (1 ≤ m.b ∧ m.b ≤ 10000) ∧ ((m.k = 1 ∧ (1 ≤ m.f ∧ m.f ≤ T) ∧ (1 ≤ m.o ∧ m.o ≤ n)) ∨ (m.k = 2 ∧ Prm n vs V m ∧ (1 ≤ m.o ∧ m.o ≤ T)) ∨
    (m.k = 3 ∧ (1 ≤ m.f ∧ m.f ≤ T) ∧ (1 ≤ m.o ∧ m.o ≤ n) ∧ A m.b m.v) ∨ (m.k = 4 ∧ (1 ≤ m.f ∧ m.f ≤ n) ∧ (1 ≤ m.o ∧ m.o ≤ T) ∧ V (m.f.toNat - 1) m.b m.v))
def TyOk (n : Nat) (Pr : ByteArray → Prop) (vs : List Vo) (V : Vts) (j : Nat) (t : Ty) : Prop :=
  t.i = (j : Int) + 1 ∧ (t.b = 0 ∨ 0 < t.b ∧ t.b % 10 = (j : Int) + 1 ∧ t.b ≤ 10000) ∧ (0 < t.b → Pr t.v) ∧ (∀ m ∈ t.ps, m.k = 2 ∧ m.b = t.b ∧ Prm n vs V m) ∧ (t.ps.map (·.f)).Nodup ∧ t.tk.Nodup ∧ ∀ x ∈ t.tk, (1 ≤ x ∧ x ≤ n) ∧ V (x.toNat - 1) t.b t.v
/-- No other value can be chosen below. -/
def Safe (n : Nat) (vs : List Vo) (V : Vts) (A : Aks) (b : Int) (v : ByteArray) : Prop :=
  ∃ S : List Nat, S.Nodup ∧ n < 2 * S.length ∧ (∀ i ∈ S, i < n ∧ b ≤ (vj vs i).p) ∧ ((∀ i ∈ S, ∀ d u, V i d u → b ≤ d) ∨ ∃ e, e < b ∧ 0 < e ∧ A e v ∧ ∀ i ∈ S, ∀ d u, V i d u → d < b → d ≤ e)
structure GI (n T : Nat) (Pr : ByteArray → Prop) (vs : List Vo) (ts : List Ty) (ns : List Nt) (ch : List ByteArray) (V : Vts) (A : Aks) : Prop where
  nv : vs.length = n
  nt : ts.length = T
  hT : T ≤ 4
  ok : ∀ i, i < n → okVo (vj vs i)
  v1 : ∀ i b v, V i b v → i < n ∧ 0 < b ∧ b ≤ (vj vs i).t ∧ A b v
  v2 : ∀ i, i < n → 0 < (vj vs i).t → V i (vj vs i).t (vj vs i).v
  a1 : ∀ b v u, A b v → A b u → v = u
  a2 : ∀ b v, A b v → 0 < b ∧ Pr v ∧ ∃ j, j < T ∧ b % 10 = (j : Int) + 1 ∧ ((tj ts j).b = b ∧ (tj ts j).as = true ∧ (tj ts j).v = v ∨ b < (tj ts j).b)
  sa : ∀ b v, A b v → Safe n vs V A b v
  no : ∀ m ∈ ns, NtOk n T vs V A m
  ty : ∀ j, j < T → TyOk n Pr vs V j (tj ts j)
  ce : ∀ v ∈ ch, ∃ b, ∃ S : List Nat, S.Nodup ∧ n < 2 * S.length ∧ ∀ i ∈ S, V i b v

/-- What may change among voices and votes. -/
structure Adv (n : Nat) (vs : List Vo) (V : Vts) (A : Aks) (vs' : List Vo) (V' : Vts) (A' : Aks) : Prop where
  p : ∀ i, i < n → (vj vs i).p ≤ (vj vs' i).p
  v : ∀ i b u, V i b u → V' i b u
  w : ∀ i b u, V' i b u → V i b u ∨ (vj vs i).p ≤ b
  a : ∀ b u, A b u → A' b u
theorem Prm.adv {n : Nat} {vs vs' : List Vo} {V V' : Vts} {A A' : Aks} {m : Nt} (h : Prm n vs V m) (H : Adv n vs V A vs' V' A') : Prm n vs' V' m := by
  obtain ⟨h1, h2, h3, h4, h5, h6⟩ := h
  have hi : m.f.toNat - 1 < n := by omega
  refine ⟨h1, Int.le_trans h2 (H.p _ hi), h3, h4, fun e => H.v _ _ _ (h5 e), fun b v hv hb => ?_⟩
  rcases H.w _ _ _ hv with e | e
  · exact h6 b v e hb
  · omega
theorem NtOk.adv {n T : Nat} {vs vs' : List Vo} {V V' : Vts} {A A' : Aks} {m : Nt} (h : NtOk n T vs V A m) (H : Adv n vs V A vs' V' A') : NtOk n T vs' V' A' m := by
  obtain ⟨h0, h⟩ := h
  refine ⟨h0, ?_⟩
  rcases h with h | ⟨h1, h2, h3⟩ | ⟨h1, h2, h3, h4⟩ | ⟨h1, h2, h3, h4⟩
  · exact .inl h
  · exact .inr (.inl ⟨h1, h2.adv H, h3⟩)
  · exact .inr (.inr (.inl ⟨h1, h2, h3, H.a _ _ h4⟩))
  · exact .inr (.inr (.inr ⟨h1, h2, h3, H.v _ _ _ h4⟩))
theorem TyOk.adv {n : Nat} {Pr : ByteArray → Prop} {vs vs' : List Vo} {V V' : Vts} {A A' : Aks} {j : Nat} {t : Ty} (h : TyOk n Pr vs V j t) (H : Adv n vs V A vs' V' A') : TyOk n Pr vs' V' j t := by
  obtain ⟨h1, h2, h3, h4, h5, h6, h7⟩ := h
  exact ⟨h1, h2, h3, fun m hm => ⟨(h4 m hm).1, (h4 m hm).2.1, (h4 m hm).2.2.adv H⟩, h5, h6, fun x hx => ⟨(h7 x hx).1, H.v _ _ _ (h7 x hx).2⟩⟩
theorem Safe.adv {n : Nat} {vs vs' : List Vo} {V V' : Vts} {A A' : Aks} {b : Int} {v : ByteArray} (h : Safe n vs V A b v) (H : Adv n vs V A vs' V' A') : Safe n vs' V' A' b v := by
  obtain ⟨S, h1, h2, h3, h4⟩ := h
  refine ⟨S, h1, h2, fun i hi => ⟨(h3 i hi).1, Int.le_trans (h3 i hi).2 (H.p _ (h3 i hi).1)⟩, ?_⟩
  rcases h4 with h4 | ⟨e, e1, e2, e3, e4⟩
  · refine .inl fun i hi d u hd => ?_
    rcases H.w _ _ _ hd with g | g
    · exact h4 i hi d u g
    · exact Int.le_trans (h3 i hi).2 g
  · refine .inr ⟨e, e1, e2, H.a _ _ e3, fun i hi d u hd hb => ?_⟩
    rcases H.w _ _ _ hd with g | g
    · exact e4 i hi d u g hb
    · have := (h3 i hi).2
      omega
theorem Adv.refl (n : Nat) (vs : List Vo) (V : Vts) (A : Aks) : Adv n vs V A vs V A := ⟨fun _ _ => Int.le_refl _, fun _ _ _ h => h, fun _ _ _ h => .inl h, fun _ _ h => h⟩

/-- What was asked for above a ballot in which most took a value is this value. -/
theorem GI.one {n T : Nat} {Pr : ByteArray → Prop} {vs : List Vo} {ts : List Ty} {ns : List Nt} {ch : List ByteArray} {V : Vts} {A : Aks} (G : GI n T Pr vs ts ns ch V A) {e : Int} {u : ByteArray} {R : List Nat} (hR : R.Nodup) (hr : n < 2 * R.length) (hv : ∀ i ∈ R, V i e u) :
    ∀ (k : Nat) (b : Int) (v : ByteArray), b.toNat ≤ k → A b v → e ≤ b → v = u
  | k, b, v, hk, ha, he => by
    have hRn : ∀ x ∈ R, x < n := fun x hx => (G.v1 _ _ _ (hv x hx)).1
    by_cases c : e = b
    · subst c
      cases R with
      | nil => simp at hr
      | cons x R => exact G.a1 _ _ _ ha (G.v1 _ _ _ (hv x (by simp))).2.2.2
    · obtain ⟨S, h1, h2, h3, h4⟩ := G.sa b v ha
      obtain ⟨x, hx, hy⟩ := common h1 hR (fun x hx => (h3 x hx).1) hRn h2 hr
      have g := hv x hy
      rcases h4 with h4 | ⟨d, d1, d2, d3, d4⟩
      · have := h4 x hx _ _ g
        omega
      · have hd := d4 x hx _ _ g (by omega)
        cases k with
        | zero => exact absurd hk (by omega)
        | succ k => exact GI.one G hR hr hv k d v (by omega) d3 hd
theorem GI.alike {n T : Nat} {Pr : ByteArray → Prop} {vs : List Vo} {ts : List Ty} {ns : List Nt} {ch : List ByteArray} {V : Vts} {A : Aks} (G : GI n T Pr vs ts ns ch V A) {v u : ByteArray} (hv : v ∈ ch) (hu : u ∈ ch) : v = u := by
  obtain ⟨b, S, h1, h2, h3⟩ := G.ce v hv
  obtain ⟨d, R, g1, g2, g3⟩ := G.ce u hu
  obtain ⟨x, hx⟩ : ∃ x, x ∈ S := by cases S with | nil => simp at h2 | cons a l => exact ⟨a, by simp⟩
  obtain ⟨y, hy⟩ : ∃ y, y ∈ R := by cases R with | nil => simp at g2 | cons a l => exact ⟨a, by simp⟩
  by_cases c : d ≤ b
  · exact G.one g1 g2 g3 b.toNat b v (Nat.le_refl _) (G.v1 _ _ _ (h3 x hx)).2.2.2 c
  · exact (G.one h1 h2 h3 d.toNat d u (Nat.le_refl _) (G.v1 _ _ _ (g3 y hy)).2.2.2 (by omega)).symm
/-- What was chosen was proposed, and most voices have it. -/
theorem GI.most {n T : Nat} {Pr : ByteArray → Prop} {vs : List Vo} {ts : List Ty} {ns : List Nt} {ch : List ByteArray} {V : Vts} {A : Aks} (G : GI n T Pr vs ts ns ch V A) {v : ByteArray} (hv : v ∈ ch) : Pr v ∧ ∃ S : List Nat, S.Nodup ∧ n < 2 * S.length ∧ ∀ i ∈ S, i < n ∧ 0 < (vj vs i).t ∧ (vj vs i).v = v := by
  obtain ⟨b, S, h1, h2, h3⟩ := G.ce v hv
  obtain ⟨x, hx⟩ : ∃ x, x ∈ S := by cases S with | nil => simp at h2 | cons a l => exact ⟨a, by simp⟩
  refine ⟨(G.a2 _ _ (G.v1 _ _ _ (h3 x hx)).2.2.2).2.1, S, h1, h2, fun i hi => ?_⟩
  obtain ⟨g1, g2, g3, g4⟩ := G.v1 _ _ _ (h3 i hi)
  have g5 := (G.v1 _ _ _ (G.v2 i g1 (by omega))).2.2.2
  exact ⟨g1, by omega, G.one h1 h2 h3 _ _ _ (Nat.le_refl _) g5 g3⟩
end Go.Proofs.Ytgehdgmllilmgaa
namespace Go.Proofs.Ytgehdgmllilmgaa
open Go.RowKit
set_option linter.unusedVariables false

section
variable {n T : Nat} {Pr : ByteArray → Prop} {vs : List Vo} {ts : List Ty} {ns : List Nt} {ch : List ByteArray} {V : Vts} {A : Aks}
theorem GI.notes {ns' : List Nt} (G : GI n T Pr vs ts ns ch V A) (h : ∀ m ∈ ns', NtOk n T vs V A m) : GI n T Pr vs ts ns' ch V A :=
  ⟨G.nv, G.nt, G.hT, G.ok, G.v1, G.v2, G.a1, G.a2, G.sa, h, G.ty, G.ce⟩
/-- Another try in its place, nothing asked for by it. -/
theorem GI.setT {j : Nat} {t : Ty} (G : GI n T Pr vs ts ns ch V A) (hj : j < T) (ht : TyOk n Pr vs V j t) (ha : ∀ v, A (tj ts j).b v → (tj ts j).as = true → (tj ts j).v = v → t.b = (tj ts j).b ∧ t.as = true ∧ t.v = v ∨ (tj ts j).b < t.b) (hb : (tj ts j).b ≤ t.b) : GI n T Pr vs (ts.set j t) ns ch V A := by
  have hl : j < ts.length := by rw [G.nt]; exact hj
  have e : ∀ k, tj (ts.set j t) k = if k = j then t else tj ts k := fun k => getD_set ts j k t zeroTy hl
  refine ⟨G.nv, by rw [List.length_set]; exact G.nt, G.hT, G.ok, G.v1, G.v2, G.a1, fun b v h => ?_, G.sa, G.no, fun k hk => ?_, G.ce⟩
  · obtain ⟨h1, h2, k, hk, h3, h4⟩ := G.a2 b v h
    refine ⟨h1, h2, k, hk, h3, ?_⟩
    rw [e]
    by_cases c : k = j
    · subst c
      rw [if_pos rfl]
      rcases h4 with ⟨g1, g2, g3⟩ | g
      · subst g1
        exact ha v h g2 g3
      · exact .inr (by omega)
    · rw [if_neg c]
      exact h4
  · rw [e]
    by_cases c : k = j
    · subst c; rw [if_pos rfl]; exact ht
    · rw [if_neg c]; exact G.ty k hk
/-- Voices and votes go on. -/
theorem GI.adv {vs' : List Vo} {V' : Vts} (G : GI n T Pr vs ts ns ch V A) (H : Adv n vs V A vs' V' A) (hl : vs'.length = n) (hok : ∀ i, i < n → okVo (vj vs' i)) (h1 : ∀ i b v, V' i b v → i < n ∧ 0 < b ∧ b ≤ (vj vs' i).t ∧ A b v) (h2 : ∀ i, i < n → 0 < (vj vs' i).t → V' i (vj vs' i).t (vj vs' i).v) : GI n T Pr vs' ts ns ch V' A :=
  ⟨hl, G.nt, G.hT, hok, h1, h2, G.a1, G.a2, fun b v h => (G.sa b v h).adv H, fun m hm => (G.no m hm).adv H, fun j hj => (G.ty j hj).adv H, fun v hv => by
    obtain ⟨b, S, g1, g2, g3⟩ := G.ce v hv
    exact ⟨b, S, g1, g2, fun i hi => H.v _ _ _ (g3 i hi)⟩⟩
theorem GI.promise {i : Nat} {b : Int} (G : GI n T Pr vs ts ns ch V A) (hi : i < n) (h1 : (vj vs i).p < b) (h2 : b ≤ 10000) :
    GI n T Pr (vs.set i ⟨b, (vj vs i).t, (vj vs i).v⟩) ts ns ch V A ∧ ∀ (o : Int), (1 ≤ o ∧ o ≤ T) → NtOk n T (vs.set i ⟨b, (vj vs i).t, (vj vs i).v⟩) V A ⟨2, (i : Int) + 1, o, b, (vj vs i).t, (vj vs i).v⟩ := by
  have hl : i < vs.length := by rw [G.nv]; exact hi
  have e : ∀ k, vj (vs.set i ⟨b, (vj vs i).t, (vj vs i).v⟩) k = if k = i then ⟨b, (vj vs i).t, (vj vs i).v⟩ else vj vs k := fun k => getD_set vs i k _ zeroVo hl
  have o1 := G.ok i hi
  obtain ⟨⟨p1, p2⟩, ⟨p3, p4⟩, p5, p6⟩ := id o1
  have H : Adv n vs V A (vs.set i ⟨b, (vj vs i).t, (vj vs i).v⟩) V A := ⟨fun k hk => by
      rw [e]; by_cases c : k = i
      · subst c; rw [if_pos rfl]; exact Int.le_of_lt h1
      · rw [if_neg c]; exact Int.le_refl _, fun _ _ _ h => h, fun _ _ _ h => .inl h, fun _ _ h => h⟩
  refine ⟨G.adv H (by rw [List.length_set]; exact G.nv) (fun k hk => ?_) (fun k d u h => ?_) (fun k hk h => ?_), fun o ho => ⟨⟨by show 1 ≤ b; omega, h2⟩, .inr (.inl ⟨rfl, ⟨⟨by show 1 ≤ (i : Int) + 1; omega, by show (i : Int) + 1 ≤ n; omega⟩, ?_, p3, by show (vj vs i).t < b; omega, ?_, ?_⟩, ho⟩)⟩⟩
  · rw [e]
    by_cases c : k = i
    · subst c; rw [if_pos rfl]
      exact ⟨⟨by show 0 ≤ b; omega, h2⟩, ⟨p3, by show (vj vs k).t ≤ b; omega⟩, p5, p6⟩
    · rw [if_neg c]; exact G.ok k hk
  · obtain ⟨g1, g2, g3, g4⟩ := G.v1 k d u h
    refine ⟨g1, g2, ?_, g4⟩
    rw [e]
    by_cases c : k = i
    · subst c; rw [if_pos rfl]; exact g3
    · rw [if_neg c]; exact g3
  · rw [e] at h ⊢
    by_cases c : k = i
    · subst c
      rw [if_pos rfl] at h ⊢
      exact G.v2 k hk h
    · rw [if_neg c] at h ⊢
      exact G.v2 k hk h
  · show b ≤ (vj _ (((i : Int) + 1).toNat - 1)).p
    rw [show ((i : Int) + 1).toNat - 1 = i by omega, e, if_pos rfl]
    exact Int.le_refl _
  · show 0 < (vj vs i).t → V (((i : Int) + 1).toNat - 1) (vj vs i).t (vj vs i).v
    rw [show ((i : Int) + 1).toNat - 1 = i by omega]
    exact G.v2 i hi
  · show ∀ d u, V (((i : Int) + 1).toNat - 1) d u → d < b → d ≤ (vj vs i).t
    rw [show ((i : Int) + 1).toNat - 1 = i by omega]
    exact fun d u h _ => (G.v1 i d u h).2.2.1
theorem GI.take {i : Nat} {b : Int} {v : ByteArray} (G : GI n T Pr vs ts ns ch V A) (hi : i < n) (h0 : 0 < b) (h1 : (vj vs i).p ≤ b) (h2 : b ≤ 10000) (hv : v.size ≤ 40) (ha : A b v) :
    ∃ V' : Vts, GI n T Pr (vs.set i ⟨b, b, v⟩) ts ns ch V' A ∧ V' i b v := by
  have hl : i < vs.length := by rw [G.nv]; exact hi
  have e : ∀ k, vj (vs.set i ⟨b, b, v⟩) k = if k = i then ⟨b, b, v⟩ else vj vs k := fun k => getD_set vs i k _ zeroVo hl
  obtain ⟨⟨p1, p2⟩, ⟨p3, p4⟩, p5, p6⟩ := G.ok i hi
  refine ⟨fun k d u => V k d u ∨ (k = i ∧ d = b ∧ u = v), G.adv ⟨fun k hk => ?_, fun _ _ _ h => .inl h, fun k d u h => ?_, fun _ _ h => h⟩ (by rw [List.length_set]; exact G.nv) (fun k hk => ?_) (fun k d u h => ?_) (fun k hk h => ?_), .inr ⟨rfl, rfl, rfl⟩⟩
  · rw [e]; by_cases c : k = i
    · subst c; rw [if_pos rfl]; exact h1
    · rw [if_neg c]; exact Int.le_refl _
  · rcases h with h | ⟨rfl, rfl, rfl⟩
    · exact .inl h
    · exact .inr h1
  · rw [e]; by_cases c : k = i
    · subst c; rw [if_pos rfl]; exact ⟨⟨by show 0 ≤ b; omega, h2⟩, ⟨by show 0 ≤ b; omega, Int.le_refl _⟩, hv, .inl h0⟩
    · rw [if_neg c]; exact G.ok k hk
  · rcases h with h | ⟨rfl, rfl, rfl⟩
    · obtain ⟨g1, g2, g3, g4⟩ := G.v1 k d u h
      refine ⟨g1, g2, ?_, g4⟩
      rw [e]; by_cases c : k = i
      · subst c; rw [if_pos rfl]; show d ≤ b; omega
      · rw [if_neg c]; exact g3
    · exact ⟨hi, h0, by rw [e, if_pos rfl]; exact Int.le_refl _, ha⟩
  · rw [e] at h ⊢
    by_cases c : k = i
    · subst c
      rw [if_pos rfl]
      exact .inr ⟨rfl, rfl, rfl⟩
    · rw [if_neg c] at h ⊢
      exact .inl (G.v2 k hk h)
/-- A value is asked for by a try that has most promises. -/
theorem GI.ask {j : Nat} {t : Ty} (G : GI n T Pr vs ts ns ch V A) (hj : j < T) (hb : 0 < (tj ts j).b) (has : (tj ts j).as = false) (e1 : t.b = (tj ts j).b) (e2 : t.as = true) (htk : t.tk = []) (hi : t.i = (tj ts j).i)
    (hps : ∀ m ∈ t.ps, m.k = 2 ∧ m.b = t.b ∧ Prm n vs V m) (hnd : (t.ps.map (·.f)).Nodup) (hm : n < 2 * t.ps.length) (hv : t.v = (pickS t.ps (tj ts j).v).2) :
    ∃ A' : Aks, GI n T Pr vs (ts.set j t) ns ch V A' ∧ A' t.b t.v := by
  have hl : j < ts.length := by rw [G.nt]; exact hj
  have e : ∀ k, tj (ts.set j t) k = if k = j then t else tj ts k := fun k => getD_set ts j k t zeroTy hl
  obtain ⟨y1, y2, y3, y4, y5, y6, y7⟩ := G.ty j hj
  obtain ⟨f1, f2, f3, f4⟩ := by have := pick_facts t.ps (tj ts j).v t.ps.length (Nat.le_refl _); rw [List.take_length] at this; exact this
  have y2' : 0 < (tj ts j).b ∧ (tj ts j).b % 10 = (j : Int) + 1 ∧ (tj ts j).b ≤ 10000 := by rcases y2 with y2 | y2; omega; exact y2
  have noA : ∀ u, ¬ A t.b u := fun u h => by
    obtain ⟨_, _, k, hk, h3, h4⟩ := G.a2 _ _ h
    rw [e1, y2'.2.1] at h3
    obtain rfl : k = j := by omega
    rcases h4 with ⟨_, h5, _⟩ | h5
    · rw [has] at h5; cases h5
    · omega
  have hPr : Pr t.v := by
    by_cases c : (pickS t.ps (tj ts j).v).1 = 0
    · rw [hv, f2 c]; exact y3 hb
    · obtain ⟨k, hk, _, k2, k3, k4⟩ := f4 c
      have hp := (hps _ (List.getElem_mem hk)).2.2
      rw [hv, ← k4]
      exact (G.a2 _ _ (G.v1 _ _ _ (hp.2.2.2.2.1 (by omega))).2.2.2).2.1
  have H : Adv n vs V A vs V (fun d u => A d u ∨ (d = t.b ∧ u = t.v)) := ⟨fun _ _ => Int.le_refl _, fun _ _ _ h => h, fun _ _ _ h => .inl h, fun _ _ h => .inl h⟩
  refine ⟨fun d u => A d u ∨ (d = t.b ∧ u = t.v), ⟨G.nv, by rw [List.length_set]; exact G.nt, G.hT, G.ok, fun i b v h => ?_, G.v2, fun b v u h1 h2 => ?_, fun b v h => ?_, fun b v h => ?_, fun m hm => (G.no m hm).adv H, fun k hk => ?_, G.ce⟩, .inr ⟨rfl, rfl⟩⟩
  · obtain ⟨g1, g2, g3, g4⟩ := G.v1 i b v h
    exact ⟨g1, g2, g3, .inl g4⟩
  · rcases h1 with h1 | ⟨rfl, rfl⟩ <;> rcases h2 with h2 | ⟨h3, h4⟩
    · exact G.a1 _ _ _ h1 h2
    · subst h3; exact absurd h1 (noA _)
    · exact absurd h2 (noA _)
    · exact h4.symm
  · rcases h with h | ⟨rfl, rfl⟩
    · obtain ⟨h1, h2, k, hk, h3, h4⟩ := G.a2 b v h
      refine ⟨h1, h2, k, hk, h3, ?_⟩
      rw [e]
      by_cases c : k = j
      · subst c
        rw [if_pos rfl]
        rcases h4 with ⟨g1, g2, g3⟩ | g
        · rw [has] at g2; cases g2
        · exact .inr (by omega)
      · rw [if_neg c]
        exact h4
    · refine ⟨by omega, hPr, j, hj, by rw [e1]; exact y2'.2.1, ?_⟩
      rw [e, if_pos rfl]
      exact .inl ⟨rfl, e2, rfl⟩
  · rcases h with h | ⟨rfl, rfl⟩
    · exact (G.sa b v h).adv H
    · refine ⟨t.ps.map (fun m => m.f.toNat - 1), ?_, by rw [List.length_map]; exact hm, fun i hi => ?_, ?_⟩
      · have : t.ps.map (fun m => m.f.toNat - 1) = (t.ps.map (·.f)).map (fun x => x.toNat - 1) := by rw [List.map_map]; rfl
        rw [this]
        refine List.Pairwise.map (R := fun a b => a ∈ t.ps.map (·.f) ∧ b ∈ t.ps.map (·.f) ∧ a ≠ b) _ ?_ ?_
        · rintro a b ⟨ha, hb, hab⟩
          obtain ⟨m, hm, rfl⟩ := List.mem_map.1 ha
          obtain ⟨m', hm', rfl⟩ := List.mem_map.1 hb
          have q1 := (hps m hm).2.2.1
          have q2 := (hps m' hm').2.2.1
          omega
        · refine List.Pairwise.imp_of_mem ?_ hnd
          intro a b ha hb hab
          exact ⟨ha, hb, hab⟩
      · obtain ⟨m, hm, rfl⟩ := List.mem_map.1 hi
        obtain ⟨q1, q2, q3⟩ := hps m hm
        exact ⟨by have := q3.1; omega, by rw [← q2]; exact q3.2.1⟩
      · by_cases c : (pickS t.ps (tj ts j).v).1 = 0
        · refine .inl fun i hi d u hd => ?_
          obtain ⟨m, hm, rfl⟩ := List.mem_map.1 hi
          obtain ⟨q1, q2, q3⟩ := hps m hm
          obtain ⟨k, hk, rfl⟩ := List.getElem_of_mem hm
          have r1 := f3 k hk hk q1
          have r2 := (G.v1 _ _ _ hd).2.1
          by_cases c2 : t.b ≤ d
          · exact c2
          · have r3 := q3.2.2.2.2.2 d u hd (by omega)
            omega
        · obtain ⟨k, hk, _, k2, k3, k4⟩ := f4 c
          have hp := (hps _ (List.getElem_mem hk)).2.2
          have hq := (hps _ (List.getElem_mem hk)).2.1
          refine .inr ⟨(pickS t.ps (tj ts j).v).1, by have := hp.2.2.2.1; omega, by omega, .inl ?_, fun i hi d u hd hlt => ?_⟩
          · have := (G.v1 _ _ _ (hp.2.2.2.2.1 (by omega))).2.2.2
            rw [hv, ← k4, ← k3]
            exact this
          · obtain ⟨m, hm, rfl⟩ := List.mem_map.1 hi
            obtain ⟨q1, q2, q3⟩ := hps m hm
            obtain ⟨k', hk', rfl⟩ := List.getElem_of_mem hm
            have r1 := f3 k' hk' hk' q1
            have r3 := q3.2.2.2.2.2 d u hd (by omega)
            omega
  · rw [e]
    by_cases c : k = j
    · subst c
      rw [if_pos rfl]
      exact ⟨by rw [hi]; exact y1, by rw [e1]; exact y2, fun _ => hPr, hps, hnd, by rw [htk]; exact List.nodup_nil, by rw [htk]; intro x hx; simp at hx⟩
    · rw [if_neg c]; exact (G.ty k hk).adv H
theorem GI.chose {b : Int} {v : ByteArray} {S : List Nat} (G : GI n T Pr vs ts ns ch V A) (h1 : S.Nodup) (h2 : n < 2 * S.length) (h3 : ∀ i ∈ S, V i b v) : GI n T Pr vs ts ns (ch ++ [v]) V A :=
  ⟨G.nv, G.nt, G.hT, G.ok, G.v1, G.v2, G.a1, G.a2, G.sa, G.no, G.ty, fun u hu => by
    rcases List.mem_append.1 hu with h | h
    · exact G.ce u h
    · rw [List.mem_singleton] at h
      subst h
      exact ⟨b, S, h1, h2, h3⟩⟩
end
end Go.Proofs.Ytgehdgmllilmgaa
namespace Go.Proofs.Ytgehdgmllilmgaa
open Go.RowKit
set_option linter.unusedVariables false

/-- A council in which voices choose one value. -/
def GC (n T : Nat) (Pr : ByteArray → Prop) (c : Cn) : Prop := ∃ V A, GI n T Pr c.vs c.ts c.ns c.ch V A
theorem most_half (n : Nat) (k : Nat) (h : (k : Int) = mostI n) : n < 2 * k := by
  unfold mostI at h
  rw [if_neg (by omega)] at h
  omega
section
variable {n T : Nat} {Pr : ByteArray → Prop}
theorem GC.prop {c : Cn} {e : Hp} (G : GC n T Pr c) (he : okHp T e) (h1 : e.k = 1) (hp : Pr e.v) : GC n T Pr (propC c e).1 := by
  obtain ⟨V, A, G⟩ := G
  obtain ⟨_, ⟨h2, h3⟩, _, _, _⟩ := he
  unfold propC
  have hj : e.i.toNat - 1 < T := by omega
  obtain ⟨y1, y2, y3, y4, y5, y6, y7⟩ := G.ty _ hj
  have hT := G.hT
  have hty : tyAt c e.i = tj c.ts (e.i.toNat - 1) := rfl
  by_cases c1 : 10000 < nextB (tyAt c e.i) e.i
  · rw [if_pos c1]; exact ⟨V, A, G⟩
  · rw [if_neg c1]
    have hb : (tj c.ts (e.i.toNat - 1)).b < nextB (tyAt c e.i) e.i ∧ 0 < nextB (tyAt c e.i) e.i ∧ nextB (tyAt c e.i) e.i % 10 = ((e.i.toNat - 1 : Nat) : Int) + 1 := by
      rw [hty]
      unfold nextB
      rcases y2 with y2 | ⟨z1, z2, z3⟩
      · rw [if_neg (by omega)]; omega
      · rw [if_pos z1]; omega
    obtain ⟨b1, b2, b3⟩ := hb
    generalize nextB (tyAt c e.i) e.i = b at *
    refine ⟨V, A, GI.notes (ns := c.ns) (G.setT hj ⟨by show e.i = _; omega, .inr ⟨b2, b3, by show b ≤ 10000; omega⟩, fun _ => hp, by intro m hm; simp at hm, List.nodup_nil, List.nodup_nil, by intro m hm; simp at hm⟩ (fun v _ _ _ => .inr b1) (Int.le_of_lt b1)) ?_⟩
    intro m hm
    rcases List.mem_append.1 hm with hm | hm
    · exact G.no m hm
    · obtain ⟨k, hk, rfl⟩ := List.mem_map.1 hm
      have hk := List.mem_range.1 hk
      rw [G.nv] at hk
      exact ⟨⟨by show 1 ≤ b; omega, by show b ≤ 10000; omega⟩, .inl ⟨rfl, ⟨h2, h3⟩, by show 1 ≤ (k : Int) + 1; omega, by show (k : Int) + 1 ≤ n; omega⟩⟩
theorem GC.prom {c : Cn} {m : Nt} {V : Vts} {A : Aks} (G : GI n T Pr c.vs c.ts c.ns c.ch V A) (hm : NtOk n T c.vs V A m) (h2 : m.k = 2) : GC n T Pr (promC c m).1 := by
  obtain ⟨⟨hb1, hb2⟩, hm⟩ := hm
  have hm : Prm n c.vs V m ∧ (1 ≤ m.o ∧ m.o ≤ T) := by rcases hm with h | h | h | h <;> first | exact h.2 | (have := h.1; omega)
  obtain ⟨hp, ho1, ho2⟩ := hm
  have hj : m.o.toNat - 1 < T := by omega
  obtain ⟨y1, y2, y3, y4, y5, y6, y7⟩ := G.ty _ hj
  have hty : tyAt c m.o = tj c.ts (m.o.toNat - 1) := rfl
  unfold promC
  by_cases c1 : (tyAt c m.o).b ≠ m.b ∨ (tyAt c m.o).as = true
  · rw [if_pos c1]; exact ⟨V, A, G⟩
  · rw [if_neg c1]
    have e1 : (tj c.ts (m.o.toNat - 1)).b = m.b := by by_cases h : (tyAt c m.o).b = m.b; exact h; exact absurd (.inl h) c1
    have e2 : (tj c.ts (m.o.toNat - 1)).as = false := by cases h : (tyAt c m.o).as with | false => exact h | true => exact absurd (.inr h) c1
    by_cases c2 : (tyAt c m.o).ps.any (fun p => p.f == m.f) = true
    · rw [if_pos c2]; exact ⟨V, A, G⟩
    · rw [if_neg c2]
      have c2 : ∀ p ∈ (tj c.ts (m.o.toNat - 1)).ps, p.f ≠ m.f := fun p hp e => c2 (List.any_eq_true.2 ⟨p, hp, by simp [e]⟩)
      have hps : ∀ p ∈ (tj c.ts (m.o.toNat - 1)).ps ++ [m], p.k = 2 ∧ p.b = (tj c.ts (m.o.toNat - 1)).b ∧ Prm n c.vs V p := fun p h => by
        rcases List.mem_append.1 h with h | h
        · exact y4 p h
        · rw [List.mem_singleton] at h; subst h; exact ⟨h2, e1.symm, hp⟩
      have hnd : (((tj c.ts (m.o.toNat - 1)).ps ++ [m]).map (·.f)).Nodup := by
        rw [List.map_append]
        refine List.nodup_append.2 ⟨y5, by simp, fun a ha b hb => ?_⟩
        obtain ⟨p, hp, rfl⟩ := List.mem_map.1 ha
        simp only [List.map_cons, List.map_nil, List.mem_singleton] at hb
        subst hb
        exact c2 p hp
      rw [hty]
      by_cases c3 : ((tj c.ts (m.o.toNat - 1)).ps.length : Int) + 1 = mostI c.vs.length
      · rw [if_pos c3]
        have htk : (tj c.ts (m.o.toNat - 1)).tk = [] := by
          cases h : (tj c.ts (m.o.toNat - 1)).tk with
          | nil => rfl
          | cons x l =>
            have := (G.v1 _ _ _ (y7 x (by rw [h]; simp)).2).2.2.2
            obtain ⟨_, _, k, hk, g1, g2⟩ := G.a2 _ _ this
            have : (tj c.ts (m.o.toNat - 1)).b % 10 = ((m.o.toNat - 1 : Nat) : Int) + 1 := by rcases y2 with h | h; omega; exact h.2.1
            obtain rfl : k = m.o.toNat - 1 := by omega
            rcases g2 with ⟨_, g, _⟩ | g
            · rw [e2] at g; cases g
            · omega
        have hm2 : n < 2 * ((tj c.ts (m.o.toNat - 1)).ps ++ [m]).length := by
          rw [List.length_append, List.length_singleton]
          exact most_half n _ (by rw [G.nv] at c3; exact c3)
        obtain ⟨A', G', ha⟩ := G.ask (t := ⟨(tj c.ts (m.o.toNat - 1)).i, (tj c.ts (m.o.toNat - 1)).b, (pickS ((tj c.ts (m.o.toNat - 1)).ps ++ [m]) (tj c.ts (m.o.toNat - 1)).v).2, (tj c.ts (m.o.toNat - 1)).ps ++ [m], true, (tj c.ts (m.o.toNat - 1)).tk, (tj c.ts (m.o.toNat - 1)).ch⟩) hj (by omega) e2 rfl rfl htk rfl hps hnd hm2 rfl
        refine ⟨V, A', G'.notes ?_⟩
        intro p hp
        rcases List.mem_append.1 hp with hp | hp
        · exact G'.no p hp
        · obtain ⟨k, hk, rfl⟩ := List.mem_map.1 hp
          have hk := List.mem_range.1 hk
          rw [G.nv] at hk
          exact ⟨⟨by show 1 ≤ (tj c.ts (m.o.toNat - 1)).b; omega, by show (tj c.ts (m.o.toNat - 1)).b ≤ 10000; omega⟩, .inr (.inr (.inl ⟨rfl, ⟨by show 1 ≤ (tj c.ts (m.o.toNat - 1)).i; omega, by show (tj c.ts (m.o.toNat - 1)).i ≤ T; omega⟩, ⟨by show 1 ≤ (k : Int) + 1; omega, by show (k : Int) + 1 ≤ n; omega⟩, ha⟩))⟩
      · rw [if_neg c3]
        exact ⟨V, A, G.setT hj ⟨y1, y2, y3, hps, hnd, y6, y7⟩ (fun v _ h _ => by rw [e2] at h; cases h) (Int.le_refl _)⟩
theorem GC.tak {c : Cn} {m : Nt} {V : Vts} {A : Aks} (G : GI n T Pr c.vs c.ts c.ns c.ch V A) (hm : NtOk n T c.vs V A m) (h2 : m.k = 4) : GC n T Pr (takC c m).1 := by
  obtain ⟨⟨hb1, hb2⟩, hm⟩ := hm
  have hm : (1 ≤ m.f ∧ m.f ≤ n) ∧ (1 ≤ m.o ∧ m.o ≤ T) ∧ V (m.f.toNat - 1) m.b m.v := by rcases hm with h | h | h | h <;> first | exact h.2 | (have := h.1; omega)
  obtain ⟨hf, ⟨ho1, ho2⟩, hV⟩ := hm
  have hj : m.o.toNat - 1 < T := by omega
  obtain ⟨y1, y2, y3, y4, y5, y6, y7⟩ := G.ty _ hj
  have hty : tyAt c m.o = tj c.ts (m.o.toNat - 1) := rfl
  unfold takC
  by_cases c1 : (tyAt c m.o).b ≠ m.b ∨ (tyAt c m.o).tk.any (fun p => p == m.f) = true
  · rw [if_pos c1]; exact ⟨V, A, G⟩
  · rw [if_neg c1]
    have e1 : (tj c.ts (m.o.toNat - 1)).b = m.b := by by_cases h : (tyAt c m.o).b = m.b; exact h; exact absurd (.inl h) c1
    have c2 : ∀ p ∈ (tj c.ts (m.o.toNat - 1)).tk, p ≠ m.f := fun p hp e => c1 (.inr (List.any_eq_true.2 ⟨p, hp, by simp [e]⟩))
    have e3 : (tj c.ts (m.o.toNat - 1)).v = m.v := by
      obtain ⟨_, _, k, hk, g1, g2⟩ := G.a2 _ _ (G.v1 _ _ _ hV).2.2.2
      have : (tj c.ts (m.o.toNat - 1)).b % 10 = ((m.o.toNat - 1 : Nat) : Int) + 1 := by rcases y2 with h | h; omega; exact h.2.1
      obtain rfl : k = m.o.toNat - 1 := by omega
      rcases g2 with ⟨_, _, g⟩ | g
      · exact g
      · omega
    have hnd : ((tj c.ts (m.o.toNat - 1)).tk ++ [m.f]).Nodup := List.nodup_append.2 ⟨y6, by simp, fun a ha b hb => by rw [List.mem_singleton] at hb; subst hb; exact c2 a ha⟩
    have htk : ∀ x ∈ (tj c.ts (m.o.toNat - 1)).tk ++ [m.f], (1 ≤ x ∧ x ≤ n) ∧ V (x.toNat - 1) (tj c.ts (m.o.toNat - 1)).b (tj c.ts (m.o.toNat - 1)).v := fun x h => by
      rcases List.mem_append.1 h with h | h
      · exact y7 x h
      · rw [List.mem_singleton] at h; subst h; exact ⟨hf, by rw [e1, e3]; exact hV⟩
    rw [hty]
    by_cases c3 : ((tj c.ts (m.o.toNat - 1)).tk.length : Int) + 1 = mostI c.vs.length
    · rw [if_pos c3]
      have G1 := G.setT (t := { tj c.ts (m.o.toNat - 1) with tk := (tj c.ts (m.o.toNat - 1)).tk ++ [m.f], ch := true }) hj ⟨y1, y2, y3, y4, y5, hnd, htk⟩ (fun v _ h g => .inl ⟨rfl, h, g⟩) (Int.le_refl _)
      refine ⟨V, A, G1.chose (b := (tj c.ts (m.o.toNat - 1)).b) (S := ((tj c.ts (m.o.toNat - 1)).tk ++ [m.f]).map (fun x => x.toNat - 1)) ?_ ?_ ?_⟩
      · refine List.Pairwise.map (R := fun a b => a ∈ (tj c.ts (m.o.toNat - 1)).tk ++ [m.f] ∧ b ∈ (tj c.ts (m.o.toNat - 1)).tk ++ [m.f] ∧ a ≠ b) _ ?_ (List.Pairwise.imp_of_mem (fun ha hb hab => ⟨ha, hb, hab⟩) hnd)
        rintro a b ⟨ha, hb, hab⟩
        have q1 := (htk a ha).1
        have q2 := (htk b hb).1
        omega
      · rw [List.length_map, List.length_append, List.length_singleton]
        exact most_half n _ (by rw [G.nv] at c3; exact c3)
      · intro i hi
        obtain ⟨x, hx, rfl⟩ := List.mem_map.1 hi
        exact (htk x hx).2
    · rw [if_neg c3]
      exact ⟨V, A, G.setT hj ⟨y1, y2, y3, y4, y5, hnd, htk⟩ (fun v _ h g => .inl ⟨rfl, h, g⟩) (Int.le_refl _)⟩
theorem GC.hear {c : Cn} {m : Nt} {V : Vts} {A : Aks} (G : GI n T Pr c.vs c.ts c.ns c.ch V A) (hm : NtOk n T c.vs V A m) (h2 : m.k ≠ 2) (h4 : m.k ≠ 4) : GC n T Pr (hearC c m).1 := by
  obtain ⟨⟨hb1, hb2⟩, hm⟩ := hm
  have hm : (1 ≤ m.f ∧ m.f ≤ T) ∧ (1 ≤ m.o ∧ m.o ≤ n) ∧ (m.k = 3 → A m.b m.v) := by
    rcases hm with h | h | h | h
    · exact ⟨h.2.1, h.2.2, fun e => by have := h.1; omega⟩
    · exact absurd h.1 h2
    · exact ⟨h.2.1, h.2.2.1, fun _ => h.2.2.2⟩
    · exact absurd h.1 h4
  obtain ⟨hf, ⟨ho1, ho2⟩, hA⟩ := hm
  have hj : m.o.toNat - 1 < n := by omega
  have ho : ((m.o.toNat - 1 : Nat) : Int) + 1 = m.o := by omega
  have hvo : voAt c m.o = vj c.vs (m.o.toNat - 1) := rfl
  unfold hearC
  rw [hvo]
  by_cases c0 : fitN (vj c.vs (m.o.toNat - 1)) m
  · by_cases c1 : m.k = 1 ∧ (vj c.vs (m.o.toNat - 1)).p < m.b
    · rw [hear_ask c0 c1, if_pos rfl]
      obtain ⟨G1, hn⟩ := G.promise hj c1.2 hb2
      refine ⟨V, A, G1.notes fun p hp => ?_⟩
      rcases List.mem_append.1 hp with hp | hp
      · exact G1.no p hp
      · rw [List.mem_singleton] at hp
        subst hp
        have := hn m.f hf
        rw [ho] at this
        exact this
    · by_cases c2 : m.k = 3 ∧ (vj c.vs (m.o.toNat - 1)).p ≤ m.b
      · rw [hear_take c0 c2, if_pos rfl]
        obtain ⟨V', G1, hv⟩ := G.take hj (by omega) c2.2 hb2 c0.2.2 (hA c2.1)
        refine ⟨V', A, G1.notes fun p hp => ?_⟩
        rcases List.mem_append.1 hp with hp | hp
        · exact G1.no p hp
        · rw [List.mem_singleton] at hp
          subst hp
          exact ⟨⟨hb1, hb2⟩, .inr (.inr (.inr ⟨rfl, ⟨ho1, ho2⟩, hf, hv⟩))⟩
      · rw [hear_else c1 c2, if_neg (by simp)]
        exact ⟨V, A, G⟩
  · rw [hear_no c0, if_neg (by simp)]
    exact ⟨V, A, G⟩
theorem ntAt_mem {c : Cn} {k : Nat} (h : k < c.ns.length) : ntAt c k ∈ c.ns := by
  unfold ntAt
  rw [List.getD_eq_getElem?_getD, List.getElem?_eq_getElem h]
  exact List.getElem_mem h
theorem place_lt {c : Cn} {e : Hp} (h : c.ns ≠ []) : placeC c e < c.ns.length := Nat.mod_lt _ (by cases hc : c.ns with | nil => exact absurd hc h | cons a l => simp)
theorem drop_mem {c : Cn} {k : Nat} {m : Nt} (h : m ∈ (dropC c k).ns) : m ∈ c.ns := by
  rcases List.mem_append.1 h with h | h
  · exact List.mem_of_mem_take h
  · exact List.mem_of_mem_drop h
theorem GC.doC {c : Cn} {e : Hp} (G : GC n T Pr c) (he : okHp T e) (hp : e.k = 1 → Pr e.v) : GC n T Pr (doC c e).1 := by
  unfold Go.Proofs.Ytgehdgmllilmgaa.doC
  by_cases c1 : e.k = 1
  · rw [if_pos c1]; exact G.prop he c1 (hp c1)
  · rw [if_neg c1]
    by_cases c2 : c.ns = []
    · rw [if_pos c2]; exact G
    · rw [if_neg c2]
      obtain ⟨V, A, G⟩ := G
      have hk := place_lt (e := e) c2
      have hm := G.no _ (ntAt_mem hk)
      have G1 : GI n T Pr (dropC c (placeC c e)).vs (dropC c (placeC c e)).ts (dropC c (placeC c e)).ns (dropC c (placeC c e)).ch V A := G.notes (fun m hm => G.no m (drop_mem hm))
      by_cases c3 : e.k = 4
      · rw [if_pos c3]
        refine ⟨V, A, G.notes fun p hp => ?_⟩
        rcases List.mem_append.1 hp with hp | hp
        · exact G.no p hp
        · rw [List.mem_singleton] at hp; subst hp; exact hm
      · rw [if_neg c3]
        by_cases c4 : e.k = 3
        · rw [if_pos c4]; exact ⟨V, A, G1⟩
        · rw [if_neg c4]
          unfold carrC
          by_cases c5 : (ntAt c (placeC c e)).k = 2
          · rw [if_pos c5]; exact GC.prom G1 hm c5
          · rw [if_neg c5]
            by_cases c6 : (ntAt c (placeC c e)).k = 4
            · rw [if_pos c6]; exact GC.tak G1 hm c6
            · rw [if_neg c6]; exact GC.hear G1 hm c5 c6
theorem GC.runC : ∀ (es : List Hp) {c : Cn} (G : GC n T Pr c) (he : ∀ e ∈ es, okHp T e) (hp : ∀ e ∈ es, e.k = 1 → Pr e.v), GC n T Pr (runC c es).1
  | [], c, G, _, _ => G
  | e :: es, c, G, he, hp => GC.runC es (G.doC (he e (by simp)) (hp e (by simp))) (fun x hx => he x (by simp [hx])) (fun x hx => hp x (by simp [hx]))
theorem GC.new (v t : Nat) (ht : t ≤ 4) : GC v t Pr (newCn v t) := by
  refine ⟨fun _ _ _ => False, fun _ _ => False, ⟨by simp [newCn], by simp [newCn], ht, fun i hi => ?_, fun _ _ _ h => h.elim, fun i hi h => ?_, fun _ _ _ h => h.elim, fun _ _ h => h.elim, fun _ _ h => h.elim, fun m hm => by simp [newCn] at hm, fun j hj => ?_, fun m hm => by simp [newCn] at hm⟩⟩
  · have : vj (newCn v t).vs i = zeroVo := by simp [vj, newCn, hi]
    rw [this]; exact okVo_zero
  · have e : vj (newCn v t).vs i = zeroVo := by simp [vj, newCn, hi]
    rw [e] at h
    exact absurd h (by decide)
  · have e : tj (newCn v t).ts j = newTy j := by simp [tj, newCn, hj]
    rw [e]
    exact ⟨rfl, .inl rfl, fun h => absurd (show (0 : Int) < 0 from h) (by decide), fun m hm => by simp [newTy] at hm, List.nodup_nil, List.nodup_nil, fun m hm => by simp [newTy] at hm⟩
end
end Go.Proofs.Ytgehdgmllilmgaa
