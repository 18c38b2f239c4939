/- Rings in order, plain: the spots around from a key on; without a node; homes. -/
import Derived.Test.YtmfpgnoeemjhiaaRiP
namespace Go.Proofs.Ytmfpgnoeemjhiaa
open Go.RowKit

theorem SrtS.at {l : List Sp} (h : SrtS l) (n : Int) : l.filter (fun s => !decide (n ≤ s.1)) ++ l.filter (fun s => decide (n ≤ s.1)) = l := by
  induction l with
  | nil => rfl
  | cons a l ih =>
    obtain ⟨h1, h2⟩ := List.pairwise_cons.1 h
    by_cases ha : n ≤ a.1
    · have hn : ∀ b ∈ l, n ≤ b.1 := by
        intro b hb
        have := ahd_not.1 (h1 b hb)
        omega
      have e1 : l.filter (fun s => !decide (n ≤ s.1)) = [] := List.filter_eq_nil_iff.2 (fun b hb => by simp [hn b hb])
      have e2 : l.filter (fun s => decide (n ≤ s.1)) = l := List.filter_eq_self.2 (fun b hb => by simp [hn b hb])
      rw [List.filter_cons_of_neg (by simp [ha]), List.filter_cons_of_pos (by simp [ha]), e1, e2]
      rfl
    · rw [List.filter_cons_of_pos (by simp [ha]), List.filter_cons_of_neg (by simp [ha]), List.cons_append, ih h2]
theorem from_app (A B : List Sp) (n : Int) (hA : ∀ s ∈ A, ¬ n ≤ s.1) (hB : ∀ s ∈ B, n ≤ s.1) : fromS (A ++ B) n = if B = [] then 0 else A.length := by
  unfold fromS
  rw [List.findIdx?_append, List.findIdx?_eq_none_iff.2 (fun s hs => by simp [hA s hs])]
  cases B with
  | nil => rfl
  | cons b B =>
    rw [List.findIdx?_cons, if_pos (by simp [hB b List.mem_cons_self])]
    simp
/-- From a key on, around: those at least there, then those ahead. -/
theorem around_eq {l : List Sp} (h : SrtS l) (n : Int) : aroundS l n = l.filter (fun s => decide (n ≤ s.1)) ++ l.filter (fun s => !decide (n ≤ s.1)) := by
  have e := h.at n
  have hA : ∀ s ∈ l.filter (fun s => !decide (n ≤ s.1)), ¬ n ≤ s.1 := fun s hs => by simpa using (List.mem_filter.1 hs).2
  have hB : ∀ s ∈ l.filter (fun s => decide (n ≤ s.1)), n ≤ s.1 := fun s hs => by simpa using (List.mem_filter.1 hs).2
  generalize l.filter (fun s => !decide (n ≤ s.1)) = A at *
  generalize l.filter (fun s => decide (n ≤ s.1)) = B at *
  subst e
  unfold aroundS
  rw [from_app A B n hA hB]
  split
  · rename_i hb
    subst hb
    simp
  · rw [List.drop_left, List.take_left]
theorem around_keep {l : List Sp} (h : SrtS l) (n : Int) (p : Sp → Bool) : aroundS (l.filter p) n = (aroundS l n).filter p := by
  rw [around_eq h, around_eq (show SrtS (l.filter p) from h.filter _), List.filter_append, List.filter_filter, List.filter_filter, List.filter_filter, List.filter_filter]
  congr 1
  · exact List.filter_congr (fun y _ => Bool.and_comm _ _)
  · exact List.filter_congr (fun y _ => Bool.and_comm _ _)
theorem around_mem {l : List Sp} {n : Int} {s : Sp} : s ∈ aroundS l n ↔ s ∈ l := by
  unfold aroundS
  rw [List.mem_append, or_comm, ← List.mem_append, List.take_append_drop]
/-- The home without a node: another's stays, its own goes to another. -/
theorem home_rest {l : List Sp} (h : SrtS l) (n x : Int) (hx : homeS l n ≠ x) : homeS (l.filter (fun s => s.2 != x)) n = homeS l n := by
  unfold homeS at *
  rw [around_keep h]
  cases e : aroundS l n with
  | nil => rfl
  | cons s r =>
    rw [e] at hx
    dsimp only at hx
    rw [List.filter_cons_of_pos (by simp [hx])]
theorem home_gone {l : List Sp} (h : SrtS l) (n x : Int) (hl : ∃ s ∈ l, s.2 ≠ x) : homeS (l.filter (fun s => s.2 != x)) n ≠ x := by
  unfold homeS
  rw [around_keep h]
  cases e : (aroundS l n).filter (fun s => s.2 != x) with
  | nil =>
    obtain ⟨s, hs, hn⟩ := hl
    have := List.filter_eq_nil_iff.1 e s (around_mem.2 hs)
    simp [hn] at this
  | cons s r =>
    have : s ∈ (aroundS l n).filter (fun s => s.2 != x) := by rw [e]; exact List.mem_cons_self
    have := (List.mem_filter.1 this).2
    dsimp only
    simpa using this
theorem once_mem {vs : List Int} : ∀ {seen : List Int} {v : Int}, v ∈ onceS seen vs ↔ v ∈ vs ∧ ¬ v ∈ seen := by
  induction vs with
  | nil => intro seen v; simp [onceS]
  | cons a vs ih =>
    intro seen v
    rw [onceS]
    split
    · rename_i ha
      rw [ih]
      constructor
      · rintro ⟨h1, h2⟩; exact ⟨List.mem_cons_of_mem _ h1, h2⟩
      · rintro ⟨h1, h2⟩
        rcases List.mem_cons.1 h1 with rfl | h1
        · exact absurd ha h2
        · exact ⟨h1, h2⟩
    · rename_i ha
      rw [List.mem_cons, ih]
      constructor
      · rintro (rfl | ⟨h1, h2⟩)
        · exact ⟨List.mem_cons_self, ha⟩
        · exact ⟨List.mem_cons_of_mem _ h1, fun e => h2 (List.mem_cons_of_mem _ e)⟩
      · rintro ⟨h1, h2⟩
        by_cases e : v = a
        · exact .inl e
        · rcases List.mem_cons.1 h1 with h1 | h1
          · exact absurd h1 e
          · exact .inr ⟨h1, fun h => (List.mem_cons.1 h).elim e h2⟩
theorem once_nodup {vs : List Int} : ∀ {seen : List Int}, (onceS seen vs).Nodup := by
  induction vs with
  | nil => intro seen; exact List.Pairwise.nil
  | cons a vs ih =>
    intro seen
    rw [onceS]
    split
    · exact ih
    · refine List.nodup_cons.2 ⟨fun h => ?_, ih⟩
      exact (once_mem.1 h).2 List.mem_cons_self
theorem once_congr {vs : List Int} : ∀ {s t : List Int}, (∀ v ∈ vs, v ∈ s ↔ v ∈ t) → onceS s vs = onceS t vs := by
  induction vs with
  | nil => intro s t _; rfl
  | cons a vs ih =>
    intro s t h
    rw [onceS, onceS]
    have ha := h a List.mem_cons_self
    by_cases e : a ∈ s
    · rw [if_pos e, if_pos (ha.1 e)]
      exact ih (fun v hv => h v (List.mem_cons_of_mem _ hv))
    · rw [if_neg e, if_neg (fun e2 => e (ha.2 e2))]
      congr 1
      refine ih (fun v hv => ?_)
      rw [List.mem_cons, List.mem_cons, h v (List.mem_cons_of_mem _ hv)]
/-- Without a node: the others that it had, in order. -/
theorem once_rest (x : Int) {vs : List Int} : ∀ {seen : List Int}, onceS seen (vs.filter (fun v => v != x)) = (onceS seen vs).filter (fun v => v != x) := by
  induction vs with
  | nil => intro seen; rfl
  | cons a vs ih =>
    intro seen
    by_cases hx : a = x
    · subst hx
      rw [List.filter_cons_of_neg (by simp), onceS]
      split
      · exact ih
      · rw [List.filter_cons_of_neg (by simp), ← ih]
        refine once_congr (fun v hv => ?_)
        have : v ≠ a := by simpa using (List.mem_filter.1 hv).2
        rw [List.mem_cons]
        constructor
        · exact .inr
        · rintro (e | e)
          · exact absurd e this
          · exact e
    · rw [List.filter_cons_of_pos (by simp [hx]), onceS, onceS]
      split
      · exact ih
      · rw [List.filter_cons_of_pos (by simp [hx]), ih]
theorem homes_rest {l : List Sp} (h : SrtS l) (n x : Int) : onceS [] ((aroundS (l.filter (fun s => s.2 != x)) n).map (·.2)) = (onceS [] ((aroundS l n).map (·.2))).filter (fun v => v != x) := by
  rw [around_keep h, ← once_rest]
  congr 1
  rw [List.filter_map]
  rfl
end Go.Proofs.Ytmfpgnoeemjhiaa
