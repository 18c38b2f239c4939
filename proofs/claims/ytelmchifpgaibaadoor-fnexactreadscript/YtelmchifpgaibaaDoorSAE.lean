/- Rings in order, plain: the spots around from a key on; without a node; homes. -/
import Derived.Test.YtelmchifpgaibaaDoorSAD
import Derived.Test.YtelmchifpgaibaaDoorProg
import Derived.Test.YtelmchifpgaibaaDoorSAA
import Derived.Handy
namespace Go.Proofs.YtelmchifpgaibaaDoor
open Go.RowKit

theorem SrtS.at {l : List Sp} (h : SrtS l) (n : Int) : l.filter (fun s => !decide (n ≤ s.1)) ++ l.filter (fun s => decide (n ≤ s.1)) = l := by
  induction l with
  | nil => rfl
  | cons a l ih =>
    obtain ⟨h1, h2⟩ := List.pairwise_cons.1 h
    by_cases ha : n ≤ a.1
    · have hn : ∀ b ∈ l, n ≤ b.1 := by
        intro b hb
        have := ahd_not.1 (h1 b hb)
        omega
      have e1 : l.filter (fun s => !decide (n ≤ s.1)) = [] := List.filter_eq_nil_iff.2 (fun b hb => by simp [hn b hb])
      have e2 : l.filter (fun s => decide (n ≤ s.1)) = l := List.filter_eq_self.2 (fun b hb => by simp [hn b hb])
      rw [List.filter_cons_of_neg (by simp [ha]), List.filter_cons_of_pos (by simp [ha]), e1, e2]
      rfl
    · rw [List.filter_cons_of_pos (by simp [ha]), List.filter_cons_of_neg (by simp [ha]), List.cons_append, ih h2]
theorem from_app (A B : List Sp) (n : Int) (hA : ∀ s ∈ A, ¬ n ≤ s.1) (hB : ∀ s ∈ B, n ≤ s.1) : fromS (A ++ B) n = if B = [] then 0 else A.length := by
  unfold fromS
  rw [List.findIdx?_append, List.findIdx?_eq_none_iff.2 (fun s hs => by simp [hA s hs])]
  cases B with
  | nil => rfl
  | cons b B =>
    rw [List.findIdx?_cons, if_pos (by simp [hB b List.mem_cons_self])]
    simp
/-- From a key on, around: those at least there, then those ahead. -/
theorem around_eq {l : List Sp} (h : SrtS l) (n : Int) : aroundS l n = l.filter (fun s => decide (n ≤ s.1)) ++ l.filter (fun s => !decide (n ≤ s.1)) := by
  have e := h.at n
  have hA : ∀ s ∈ l.filter (fun s => !decide (n ≤ s.1)), ¬ n ≤ s.1 := fun s hs => by simpa using (List.mem_filter.1 hs).2
  have hB : ∀ s ∈ l.filter (fun s => decide (n ≤ s.1)), n ≤ s.1 := fun s hs => by simpa using (List.mem_filter.1 hs).2
  generalize l.filter (fun s => !decide (n ≤ s.1)) = A at *
  generalize l.filter (fun s => decide (n ≤ s.1)) = B at *
  subst e
  unfold aroundS
  rw [from_app A B n hA hB]
  split
  · rename_i hb
    subst hb
    simp
  · rw [List.drop_left, List.take_left]
theorem around_keep {l : List Sp} (h : SrtS l) (n : Int) (p : Sp → Bool) : aroundS (l.filter p) n = (aroundS l n).filter p := by
  rw [around_eq h, around_eq (show SrtS (l.filter p) from h.filter _), List.filter_append, List.filter_filter, List.filter_filter, List.filter_filter, List.filter_filter]
  congr 1
  · exact List.filter_congr (fun y _ => Bool.and_comm _ _)
  · exact List.filter_congr (fun y _ => Bool.and_comm _ _)
theorem around_mem {l : List Sp} {n : Int} {s : Sp} : s ∈ aroundS l n ↔ s ∈ l := by
  unfold aroundS
  rw [List.mem_append, or_comm, ← List.mem_append, List.take_append_drop]
/-- The home without a node: another's stays, its own goes to another. -/
theorem home_rest {l : List Sp} (h : SrtS l) (n x : Int) (hx : homeS l n ≠ x) : homeS (l.filter (fun s => s.2 != x)) n = homeS l n := by
  unfold homeS at *
  rw [around_keep h]
  cases e : aroundS l n with
  | nil => rfl
  | cons s r =>
    rw [e] at hx
    dsimp only at hx
    rw [List.filter_cons_of_pos (by simp [hx])]
theorem home_gone {l : List Sp} (h : SrtS l) (n x : Int) (hl : ∃ s ∈ l, s.2 ≠ x) : homeS (l.filter (fun s => s.2 != x)) n ≠ x := by
  unfold homeS
  rw [around_keep h]
  cases e : (aroundS l n).filter (fun s => s.2 != x) with
  | nil =>
    obtain ⟨s, hs, hn⟩ := hl
    have := List.filter_eq_nil_iff.1 e s (around_mem.2 hs)
    simp [hn] at this
  | cons s r =>
    have : s ∈ (aroundS l n).filter (fun s => s.2 != x) := by rw [e]; exact List.mem_cons_self
    have := (List.mem_filter.1 this).2
    dsimp only
    simpa using this
theorem once_mem {vs : List Int} : ∀ {seen : List Int} {v : Int}, v ∈ onceS seen vs ↔ v ∈ vs ∧ ¬ v ∈ seen := by
  induction vs with
  | nil => intro seen v; simp [onceS]
  | cons a vs ih =>
    intro seen v
    rw [onceS]
    split
    · rename_i ha
      rw [ih]
      constructor
      · rintro ⟨h1, h2⟩; exact ⟨List.mem_cons_of_mem _ h1, h2⟩
      · rintro ⟨h1, h2⟩
        rcases List.mem_cons.1 h1 with rfl | h1
        · exact absurd ha h2
        · exact ⟨h1, h2⟩
    · rename_i ha
      rw [List.mem_cons, ih]
      constructor
      · rintro (rfl | ⟨h1, h2⟩)
        · exact ⟨List.mem_cons_self, ha⟩
        · exact ⟨List.mem_cons_of_mem _ h1, fun e => h2 (List.mem_cons_of_mem _ e)⟩
      · rintro ⟨h1, h2⟩
        by_cases e : v = a
        · exact .inl e
        · rcases List.mem_cons.1 h1 with h1 | h1
          · exact absurd h1 e
          · exact .inr ⟨h1, fun h => (List.mem_cons.1 h).elim e h2⟩
theorem once_nodup {vs : List Int} : ∀ {seen : List Int}, (onceS seen vs).Nodup := by
  induction vs with
  | nil => intro seen; exact List.Pairwise.nil
  | cons a vs ih =>
    intro seen
    rw [onceS]
    split
    · exact ih
    · refine List.nodup_cons.2 ⟨fun h => ?_, ih⟩
      exact (once_mem.1 h).2 List.mem_cons_self
theorem once_congr {vs : List Int} : ∀ {s t : List Int}, (∀ v ∈ vs, v ∈ s ↔ v ∈ t) → onceS s vs = onceS t vs := by
  induction vs with
  | nil => intro s t _; rfl
  | cons a vs ih =>
    intro s t h
    rw [onceS, onceS]
    have ha := h a List.mem_cons_self
    by_cases e : a ∈ s
    · rw [if_pos e, if_pos (ha.1 e)]
      exact ih (fun v hv => h v (List.mem_cons_of_mem _ hv))
    · rw [if_neg e, if_neg (fun e2 => e (ha.2 e2))]
      congr 1
      refine ih (fun v hv => ?_)
      rw [List.mem_cons, List.mem_cons, h v (List.mem_cons_of_mem _ hv)]
/-- Without a node: the others that it had, in order. -/
theorem once_rest (x : Int) {vs : List Int} : ∀ {seen : List Int}, onceS seen (vs.filter (fun v => v != x)) = (onceS seen vs).filter (fun v => v != x) := by
  induction vs with
  | nil => intro seen; rfl
  | cons a vs ih =>
    intro seen
    by_cases hx : a = x
    · subst hx
      rw [List.filter_cons_of_neg (by simp), onceS]
      split
      · exact ih
      · rw [List.filter_cons_of_neg (by simp), ← ih]
        refine once_congr (fun v hv => ?_)
        have : v ≠ a := by simpa using (List.mem_filter.1 hv).2
        rw [List.mem_cons]
        constructor
        · exact .inr
        · rintro (e | e)
          · exact absurd e this
          · exact e
    · rw [List.filter_cons_of_pos (by simp [hx]), onceS, onceS]
      split
      · exact ih
      · rw [List.filter_cons_of_pos (by simp [hx]), ih]
theorem homes_rest {l : List Sp} (h : SrtS l) (n x : Int) : onceS [] ((aroundS (l.filter (fun s => s.2 != x)) n).map (·.2)) = (onceS [] ((aroundS l n).map (·.2))).filter (fun v => v != x) := by
  rw [around_keep h, ← once_rest]
  congr 1
  rw [List.filter_map]
  rfl
end Go.Proofs.YtelmchifpgaibaaDoor
namespace Go.Proofs.YtelmchifpgaibaaDoor
open Go.RowKit

theorem ring_in (f : Int → Nat → Int) (nodes : List Int) : ∀ {l : List Sp}, SrtS l → ∀ s, s ∈ nodes.foldl (nodeS f) l ↔ (∃ v ∈ nodes, ∃ k, k < 4 ∧ s = (f v k, v)) ∨ s ∈ l := by
  induction nodes with
  | nil => intro l _ s; simp
  | cons v nodes ih =>
    intro l h s
    have h1 := nodeS_fold f v (List.range 4) h
    rw [List.foldl_cons, ih (show SrtS (nodeS f l v) from h1.1)]
    have h2 : s ∈ nodeS f l v ↔ (∃ k ∈ List.range 4, s = (f v k, v)) ∨ s ∈ l := h1.2.2 s
    rw [h2]
    constructor
    · rintro (⟨x, hx, k, hk, e⟩ | ⟨k, hk, e⟩ | e)
      · exact .inl ⟨x, List.mem_cons_of_mem _ hx, k, hk, e⟩
      · exact .inl ⟨v, List.mem_cons_self, k, List.mem_range.1 hk, e⟩
      · exact .inr e
    · rintro (⟨x, hx, k, hk, e⟩ | e)
      · rcases List.mem_cons.1 hx with rfl | hx
        · exact .inr (.inl ⟨k, List.mem_range.2 hk, e⟩)
        · exact .inl ⟨x, hx, k, hk, e⟩
      · exact .inr (.inr e)
theorem ringL_in (f : Int → Nat → Int) (nodes : List Int) (s : Sp) : s ∈ ringL f nodes ↔ ∃ v ∈ nodes, ∃ k, k < 4 ∧ s = (f v k, v) := by
  have := ring_in f nodes (l := []) List.Pairwise.nil s
  rw [ringL, this]
  simp
theorem ringL_node (f : Int → Nat → Int) (nodes : List Int) (v : Int) : (∃ s ∈ ringL f nodes, s.2 = v) ↔ v ∈ nodes := by
  constructor
  · rintro ⟨s, hs, rfl⟩
    obtain ⟨x, hx, k, _, rfl⟩ := (ringL_in f nodes s).1 hs
    exact hx
  · intro h
    exact ⟨(f v 0, v), (ringL_in f nodes _).2 ⟨v, h, 0, by omega, rfl⟩, rfl⟩
theorem sub_len : ∀ (a b : List Int), a.Nodup → (∀ x ∈ a, x ∈ b) → a.length ≤ b.length
  | [], _, _, _ => Nat.zero_le _
  | x :: a, b, hn, hs => by
    obtain ⟨h1, h2⟩ := List.nodup_cons.1 hn
    have hx := hs x List.mem_cons_self
    have := sub_len a (b.erase x) h2 (fun y hy => (List.mem_erase_of_ne (fun e : y = x => h1 (by rw [← e]; exact hy))).2 (hs y (List.mem_cons_of_mem _ hy)))
    rw [List.length_erase_of_mem hx] at this
    have := List.length_pos_of_mem hx
    rw [List.length_cons]
    omega
theorem same_len {a b : List Int} (ha : a.Nodup) (hb : b.Nodup) (h : ∀ x, x ∈ a ↔ x ∈ b) : a.length = b.length :=
  Nat.le_antisymm (sub_len a b ha (fun x hx => (h x).1 hx)) (sub_len b a hb (fun x hx => (h x).2 hx))
/-- All homes of a key. -/
def allH (l : List Sp) (n : Int) : List Int := onceS [] ((aroundS l n).map (·.2))
theorem allH_mem {l : List Sp} {n v : Int} : v ∈ allH l n ↔ ∃ s ∈ l, s.2 = v := by
  unfold allH
  rw [once_mem, List.mem_map]
  constructor
  · rintro ⟨⟨s, hs, e⟩, _⟩; exact ⟨s, around_mem.1 hs, e⟩
  · rintro ⟨s, hs, e⟩; exact ⟨⟨s, around_mem.2 hs, e⟩, by simp⟩
theorem allH_len (f : Int → Nat → Int) {nodes : List Int} (hn : nodes.Nodup) (n : Int) : (allH (ringL f nodes) n).length = nodes.length :=
  same_len once_nodup hn (fun v => by rw [allH_mem, ringL_node])
/-- The first of the homes is the home. -/
theorem allH_first {l : List Sp} (h : l ≠ []) (n : Int) : ∃ r, allH l n = homeS l n :: r := by
  unfold allH homeS
  cases e : aroundS l n with
  | nil =>
    have : ∀ s, ¬ s ∈ l := fun s hs => by have := (around_mem (n := n)).2 hs; rw [e] at this; cases this
    cases l with
    | nil => exact absurd rfl h
    | cons a l => exact absurd List.mem_cons_self (this a)
  | cons s r =>
    rw [List.map_cons, onceS, if_neg (by simp)]
    exact ⟨_, rfl⟩
/-- The nodes of a ring: of 0 .. 9 those that stand there. -/
def nodesL (l : List Sp) : List Int := ((List.range 10).map (fun v : Nat => (v : Int))).filter (fun v => l.any (fun s => s.2 == v))
theorem asc_ext : ∀ (a b : List Int), a.Pairwise (· < ·) → b.Pairwise (· < ·) → (∀ x, x ∈ a ↔ x ∈ b) → a = b
  | [], [], _, _, _ => rfl
  | [], y :: b, _, _, h => absurd ((h y).2 List.mem_cons_self) (by simp)
  | x :: a, [], _, _, h => absurd ((h x).1 List.mem_cons_self) (by simp)
  | x :: a, y :: b, ha, hb, h => by
    obtain ⟨a1, a2⟩ := List.pairwise_cons.1 ha
    obtain ⟨b1, b2⟩ := List.pairwise_cons.1 hb
    have e : x = y := by
      rcases List.mem_cons.1 ((h x).1 List.mem_cons_self) with e | e
      · exact e
      · rcases List.mem_cons.1 ((h y).2 List.mem_cons_self) with e2 | e2
        · exact e2.symm
        · have := b1 x e; have := a1 y e2; omega
    subst e
    rw [asc_ext a b a2 b2 (fun z => ?_)]
    have hz := h z
    rw [List.mem_cons, List.mem_cons] at hz
    constructor
    · intro hza
      rcases hz.1 (.inr hza) with e | e
      · have := a1 z hza; omega
      · exact e
    · intro hzb
      rcases hz.2 (.inr hzb) with e | e
      · have := b1 z hzb; omega
      · exact e
theorem range_asc : ∀ n : Nat, ((List.range n).map (fun v : Nat => (v : Int))).Pairwise (· < ·)
  | 0 => List.Pairwise.nil
  | n + 1 => by
    rw [List.range_succ, List.map_append]
    refine List.pairwise_append.2 ⟨range_asc n, by simp, ?_⟩
    intro a ha b hb
    obtain ⟨i, hi, rfl⟩ := List.mem_map.1 ha
    obtain ⟨j, hj, rfl⟩ := List.mem_map.1 hb
    have := List.mem_range.1 hi
    have : j = n := by simpa using hj
    omega
theorem nodesL_ring (f : Int → Nat → Int) {nodes : List Int} (ha : nodes.Pairwise (· < ·)) (hr : ∀ v ∈ nodes, 1 ≤ v ∧ v ≤ 9) : nodesL (ringL f nodes) = nodes := by
  refine asc_ext _ _ ((range_asc 10).filter _) ha (fun x => ?_)
  unfold nodesL
  rw [List.mem_filter, List.any_eq_true]
  constructor
  · rintro ⟨_, s, hs, e⟩
    exact (ringL_node f nodes x).1 ⟨s, hs, by simpa using e⟩
  · intro h
    have := hr x h
    refine ⟨List.mem_map.2 ⟨x.toNat, List.mem_range.2 (by omega), by omega⟩, ?_⟩
    obtain ⟨s, hs, e⟩ := (ringL_node f nodes x).2 h
    exact ⟨s, hs, by simpa using e⟩
end Go.Proofs.YtelmchifpgaibaaDoor
namespace Go.Proofs.YtelmchifpgaibaaDoor
open Go.RowKit

/-- One byte more. -/
def hstep (h b : Nat) : Nat := ((h ^^^ b) * 16777619) % 4294967296
def hashK (f : Nat → Nat) (h : Nat) : Nat → Nat
  | 0 => h
  | k + 1 => hstep (hashK f h k) (f k)
def seedOf (seed : Int) : Nat := if seed < 0 then 0 else if 1000000000 < seed then 1000000000 else seed.toNat
/-- What a seed begins with. -/
def hash0 (seed : Int) : Nat := (2166136261 + seedOf seed) % 4294967296
def hashN (s : ByteArray) (seed : Int) : Nat := hashK (byt s) (hash0 seed) s.size ^^^ (hashK (byt s) (hash0 seed) s.size / 65536)
theorem hstep_lt (h b : Nat) : hstep h b < 4294967296 := Nat.mod_lt _ (by decide)
theorem hash0_lt (seed : Int) : hash0 seed < 4294967296 := Nat.mod_lt _ (by decide)
theorem hashK_lt (f : Nat → Nat) (h : Nat) (hh : h < 4294967296) : ∀ k, hashK f h k < 4294967296
  | 0 => hh
  | _ + 1 => hstep_lt _ _
theorem seedOf_le (seed : Int) : seedOf seed ≤ 1000000000 := by
  unfold seedOf
  split
  · omega
  · split <;> omega
theorem xor_lt {a b : Nat} (ha : a < 4294967296) (hb : b < 4294967296) : a ^^^ b < 4294967296 := Nat.xor_lt_two_pow (n := 32) ha hb
theorem hashN_lt (s : ByteArray) (seed : Int) : hashN s seed < 4294967296 := by
  have h := hashK_lt (byt s) _ (hash0_lt seed) s.size
  exact xor_lt h (Nat.lt_of_le_of_lt (Nat.div_le_self _ _) h)
theorem xor_low (a b i : Nat) : (a ^^^ b) % 2 ^ (i + 1) = (a ^^^ b) % 2 ^ i + (if (a / 2 ^ i) % 2 ≠ (b / 2 ^ i) % 2 then 2 ^ i else 0) := by
  have h1 : (a ^^^ b) % 2 ^ (i + 1) = (a ^^^ b) % 2 ^ i + 2 ^ i * ((a ^^^ b) / 2 ^ i % 2) := by
    rw [Nat.pow_succ, Nat.mod_mul]
  rw [h1]
  congr 1
  have h2 : (a ^^^ b) / 2 ^ i % 2 = ((a / 2 ^ i) ^^^ (b / 2 ^ i)) % 2 := by rw [← Nat.xor_div_two_pow]
  rw [h2]
  have h3 : ∀ x y : Nat, (x ^^^ y) % 2 = if x % 2 ≠ y % 2 then 1 else 0 := by
    intro x y
    have e := Nat.xor_mod_two_pow (a := x) (b := y) (n := 1)
    simp only [Nat.pow_one] at e
    rw [e]
    rcases Nat.mod_two_eq_zero_or_one x with hx | hx <;> rcases Nat.mod_two_eq_zero_or_one y with hy | hy <;> rw [hx, hy] <;> rfl
  rw [h3]
  split <;> simp

theorem pow_in (i : Nat) (h : i ≤ 32) : 2 ^ i ≤ 4294967296 := by
  have : (2 : Nat) ^ i ≤ 2 ^ 32 := Nat.pow_le_pow_right (by decide) h
  simpa using this
theorem half_next (a i : Nat) : a / 2 ^ i / 2 = a / 2 ^ (i + 1) := by rw [Nat.div_div_eq_div_mul, Nat.pow_succ]

end Go.Proofs.YtelmchifpgaibaaDoor
namespace Go.Proofs.YtelmchifpgaibaaDoor
open Go.RowKit
set_option linter.unusedVariables false

theorem fromS_hit {l : List Sp} {n : Int} {i : Nat} (hi : i < l.length) (h : n ≤ l[i].1) (hb : ∀ j (hj : j < i), ¬ n ≤ (l[j]'(by omega)).1) : fromS l n = i := by
  unfold fromS
  have : l.findIdx? (fun s => decide (n ≤ s.1)) = some i := List.findIdx?_eq_some_iff_getElem.2 ⟨hi, by simpa using h, fun j hj => by simpa using hb j hj⟩
  rw [this]
  rfl
theorem fromS_none {l : List Sp} {n : Int} (hb : ∀ s ∈ l, ¬ n ≤ s.1) : fromS l n = 0 := by
  unfold fromS
  rw [List.findIdx?_eq_none_iff.2 (fun s hs => by simp [hb s hs])]
  rfl
theorem fromS_lt {l : List Sp} (h : l ≠ []) (n : Int) : fromS l n < l.length := by
  unfold fromS
  have hl : 0 < l.length := List.length_pos_iff.2 h
  cases e : l.findIdx? (fun s => decide (n ≤ s.1)) with
  | none => exact hl
  | some i =>
    obtain ⟨hi, _⟩ := List.findIdx?_eq_some_iff_getElem.1 e
    exact hi
theorem homeS_at {l : List Sp} (h : l ≠ []) (n : Int) : homeS l n = (l[fromS l n]'(fromS_lt h n)).2 := by
  unfold homeS aroundS
  rw [List.drop_eq_getElem_cons (fromS_lt h n), List.cons_append]
/-- A ring as a value. -/
def riV (ao : Option Addr) (n ca : Nat) : Value := .agg #[.slice ao n ca]

end Go.Proofs.YtelmchifpgaibaaDoor
