/- Rings of nodes, plain: whose spots stand there, the nodes of a ring, all homes of a key. -/
import Derived.Test.YtmfpgnoeemjhiaaRiQ
namespace Go.Proofs.Ytmfpgnoeemjhiaa
open Go.RowKit

theorem ring_in (f : Int → Nat → Int) (nodes : List Int) : ∀ {l : List Sp}, SrtS l → ∀ s, s ∈ nodes.foldl (nodeS f) l ↔ (∃ v ∈ nodes, ∃ k, k < 4 ∧ s = (f v k, v)) ∨ s ∈ l := by
  induction nodes with
  | nil => intro l _ s; simp
  | cons v nodes ih =>
    intro l h s
    have h1 := nodeS_fold f v (List.range 4) h
    rw [List.foldl_cons, ih (show SrtS (nodeS f l v) from h1.1)]
    have h2 : s ∈ nodeS f l v ↔ (∃ k ∈ List.range 4, s = (f v k, v)) ∨ s ∈ l := h1.2.2 s
    rw [h2]
    constructor
    · rintro (⟨x, hx, k, hk, e⟩ | ⟨k, hk, e⟩ | e)
      · exact .inl ⟨x, List.mem_cons_of_mem _ hx, k, hk, e⟩
      · exact .inl ⟨v, List.mem_cons_self, k, List.mem_range.1 hk, e⟩
      · exact .inr e
    · rintro (⟨x, hx, k, hk, e⟩ | e)
      · rcases List.mem_cons.1 hx with rfl | hx
        · exact .inr (.inl ⟨k, List.mem_range.2 hk, e⟩)
        · exact .inl ⟨x, hx, k, hk, e⟩
      · exact .inr (.inr e)
theorem ringL_in (f : Int → Nat → Int) (nodes : List Int) (s : Sp) : s ∈ ringL f nodes ↔ ∃ v ∈ nodes, ∃ k, k < 4 ∧ s = (f v k, v) := by
  have := ring_in f nodes (l := []) List.Pairwise.nil s
  rw [ringL, this]
  simp
theorem ringL_node (f : Int → Nat → Int) (nodes : List Int) (v : Int) : (∃ s ∈ ringL f nodes, s.2 = v) ↔ v ∈ nodes := by
  constructor
  · rintro ⟨s, hs, rfl⟩
    obtain ⟨x, hx, k, _, rfl⟩ := (ringL_in f nodes s).1 hs
    exact hx
  · intro h
    exact ⟨(f v 0, v), (ringL_in f nodes _).2 ⟨v, h, 0, by omega, rfl⟩, rfl⟩
theorem sub_len : ∀ (a b : List Int), a.Nodup → (∀ x ∈ a, x ∈ b) → a.length ≤ b.length
  | [], _, _, _ => Nat.zero_le _
  | x :: a, b, hn, hs => by
    obtain ⟨h1, h2⟩ := List.nodup_cons.1 hn
    have hx := hs x List.mem_cons_self
    have := sub_len a (b.erase x) h2 (fun y hy => (List.mem_erase_of_ne (fun e : y = x => h1 (by rw [← e]; exact hy))).2 (hs y (List.mem_cons_of_mem _ hy)))
    rw [List.length_erase_of_mem hx] at this
    have := List.length_pos_of_mem hx
    rw [List.length_cons]
    omega
theorem same_len {a b : List Int} (ha : a.Nodup) (hb : b.Nodup) (h : ∀ x, x ∈ a ↔ x ∈ b) : a.length = b.length :=
  Nat.le_antisymm (sub_len a b ha (fun x hx => (h x).1 hx)) (sub_len b a hb (fun x hx => (h x).2 hx))
/-- All homes of a key. -/
def allH (l : List Sp) (n : Int) : List Int := onceS [] ((aroundS l n).map (·.2))
theorem allH_mem {l : List Sp} {n v : Int} : v ∈ allH l n ↔ ∃ s ∈ l, s.2 = v := by
  unfold allH
  rw [once_mem, List.mem_map]
  constructor
  · rintro ⟨⟨s, hs, e⟩, _⟩; exact ⟨s, around_mem.1 hs, e⟩
  · rintro ⟨s, hs, e⟩; exact ⟨⟨s, around_mem.2 hs, e⟩, by simp⟩
theorem allH_len (f : Int → Nat → Int) {nodes : List Int} (hn : nodes.Nodup) (n : Int) : (allH (ringL f nodes) n).length = nodes.length :=
  same_len once_nodup hn (fun v => by rw [allH_mem, ringL_node])
/-- The first of the homes is the home. -/
theorem allH_first {l : List Sp} (h : l ≠ []) (n : Int) : ∃ r, allH l n = homeS l n :: r := by
  unfold allH homeS
  cases e : aroundS l n with
  | nil =>
    have : ∀ s, ¬ s ∈ l := fun s hs => by have := (around_mem (n := n)).2 hs; rw [e] at this; cases this
    cases l with
    | nil => exact absurd rfl h
    | cons a l => exact absurd List.mem_cons_self (this a)
  | cons s r =>
    rw [List.map_cons, onceS, if_neg (by simp)]
    exact ⟨_, rfl⟩
/-- The nodes of a ring: of 0 .. 9 those that stand there. -/
def nodesL (l : List Sp) : List Int := ((List.range 10).map (fun v : Nat => (v : Int))).filter (fun v => l.any (fun s => s.2 == v))
theorem asc_ext : ∀ (a b : List Int), a.Pairwise (· < ·) → b.Pairwise (· < ·) → (∀ x, x ∈ a ↔ x ∈ b) → a = b
  | [], [], _, _, _ => rfl
  | [], y :: b, _, _, h => absurd ((h y).2 List.mem_cons_self) (by simp)
  | x :: a, [], _, _, h => absurd ((h x).1 List.mem_cons_self) (by simp)
  | x :: a, y :: b, ha, hb, h => by
    obtain ⟨a1, a2⟩ := List.pairwise_cons.1 ha
    obtain ⟨b1, b2⟩ := List.pairwise_cons.1 hb
    have e : x = y := by
      rcases List.mem_cons.1 ((h x).1 List.mem_cons_self) with e | e
      · exact e
      · rcases List.mem_cons.1 ((h y).2 List.mem_cons_self) with e2 | e2
        · exact e2.symm
        · have := b1 x e; have := a1 y e2; omega
    subst e
    rw [asc_ext a b a2 b2 (fun z => ?_)]
    have hz := h z
    rw [List.mem_cons, List.mem_cons] at hz
    constructor
    · intro hza
      rcases hz.1 (.inr hza) with e | e
      · have := a1 z hza; omega
      · exact e
    · intro hzb
      rcases hz.2 (.inr hzb) with e | e
      · have := b1 z hzb; omega
      · exact e
theorem range_asc : ∀ n : Nat, ((List.range n).map (fun v : Nat => (v : Int))).Pairwise (· < ·)
  | 0 => List.Pairwise.nil
  | n + 1 => by
    rw [List.range_succ, List.map_append]
    refine List.pairwise_append.2 ⟨range_asc n, by simp, ?_⟩
    intro a ha b hb
    obtain ⟨i, hi, rfl⟩ := List.mem_map.1 ha
    obtain ⟨j, hj, rfl⟩ := List.mem_map.1 hb
    have := List.mem_range.1 hi
    have : j = n := by simpa using hj
    omega
theorem nodesL_ring (f : Int → Nat → Int) {nodes : List Int} (ha : nodes.Pairwise (· < ·)) (hr : ∀ v ∈ nodes, 1 ≤ v ∧ v ≤ 9) : nodesL (ringL f nodes) = nodes := by
  refine asc_ext _ _ ((range_asc 10).filter _) ha (fun x => ?_)
  unfold nodesL
  rw [List.mem_filter, List.any_eq_true]
  constructor
  · rintro ⟨_, s, hs, e⟩
    exact (ringL_node f nodes x).1 ⟨s, hs, by simpa using e⟩
  · intro h
    have := hr x h
    refine ⟨List.mem_map.2 ⟨x.toNat, List.mem_range.2 (by omega), by omega⟩, ?_⟩
    obtain ⟨s, hs, e⟩ := (ringL_node f nodes x).2 h
    exact ⟨s, hs, by simpa using e⟩
end Go.Proofs.Ytmfpgnoeemjhiaa
