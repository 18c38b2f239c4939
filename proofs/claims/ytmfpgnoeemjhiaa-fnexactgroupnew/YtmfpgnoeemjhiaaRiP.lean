/- Rings, plain: spots in order; a node that goes takes its spots alone; the first spot for a key, its homes. -/
import Derived.Test.YtmfpgnoeemjhiaaPlain
namespace Go.Proofs.Ytmfpgnoeemjhiaa
open Go.RowKit

/-- A spot: At, Node. -/
abbrev Sp := Int × Int
def ahd (a b : Sp) : Bool := decide (a.1 < b.1) || (decide (a.1 = b.1) && decide (a.2 < b.2))
theorem ahd_iff {a b : Sp} : ahd a b = true ↔ a.1 < b.1 ∨ (a.1 = b.1 ∧ a.2 < b.2) := by simp [ahd]
theorem ahd_not {a b : Sp} : ahd a b = false ↔ ¬ (a.1 < b.1 ∨ (a.1 = b.1 ∧ a.2 < b.2)) := by rw [← ahd_iff]; simp
/-- A spot more, where it belongs. -/
def insS (l : List Sp) (x : Sp) : List Sp := l.filter (fun y => ahd y x) ++ [x] ++ l.filter (fun y => !ahd y x)
/-- In order. -/
def SrtS (l : List Sp) : Prop := l.Pairwise (fun a b => ahd b a = false)
theorem parts {l : List Sp} (h : SrtS l) (x : Sp) : l.filter (fun y => ahd y x) ++ l.filter (fun y => !ahd y x) = l := by
  induction l with
  | nil => rfl
  | cons a l ih =>
    obtain ⟨h1, h2⟩ := List.pairwise_cons.1 h
    by_cases ha : ahd a x = true
    · rw [List.filter_cons_of_pos (by simpa using ha), List.filter_cons_of_neg (by simp [ha]), List.cons_append, ih h2]
    · have hn : ∀ b ∈ l, ahd b x = false := by
        intro b hb
        have h3 := ahd_not.1 (h1 b hb)
        have h4 : ¬ (a.1 < x.1 ∨ (a.1 = x.1 ∧ a.2 < x.2)) := fun e => ha (ahd_iff.2 e)
        exact ahd_not.2 (by omega)
      have e1 : l.filter (fun y => ahd y x) = [] := List.filter_eq_nil_iff.2 (fun b hb => by rw [hn b hb]; simp)
      have e2 : l.filter (fun y => !ahd y x) = l := List.filter_eq_self.2 (fun b hb => by rw [hn b hb]; rfl)
      rw [List.filter_cons_of_neg (by simpa using ha), List.filter_cons_of_pos (by simpa using ha), e1, e2]
      rfl
theorem SrtS.ins {l : List Sp} (h : SrtS l) (x : Sp) : SrtS (insS l x) := by
  unfold SrtS insS
  rw [List.append_assoc]
  refine List.pairwise_append.2 ⟨h.filter _, ?_, ?_⟩
  · refine List.pairwise_cons.2 ⟨fun b hb => ?_, h.filter _⟩
    have := (List.mem_filter.1 hb).2
    simpa using this
  · intro a ha b hb
    have h1 := ahd_iff.1 (List.mem_filter.1 ha).2
    rcases List.mem_cons.1 hb with rfl | hb
    · exact ahd_not.2 (by omega)
    · have h2 := (List.mem_filter.1 hb).2
      have h3 := ahd_not.1 (by simpa using h2)
      exact ahd_not.2 (by omega)
theorem insS_length (l : List Sp) (x : Sp) : (insS l x).length = l.length + 1 := by
  have : ∀ l : List Sp, (l.filter (fun y => ahd y x)).length + (l.filter (fun y => !ahd y x)).length = l.length := fun l => by
    induction l with
    | nil => rfl
    | cons a l ih => by_cases h : ahd a x = true <;> simp [h] <;> omega
  have := this l
  unfold insS
  simp only [List.length_append, List.length_cons, List.length_nil]
  omega
theorem insS_mem {l : List Sp} {x z : Sp} : z ∈ insS l x ↔ z = x ∨ z ∈ l := by
  unfold insS
  simp only [List.mem_append, List.mem_filter, List.mem_cons, List.not_mem_nil, or_false]
  by_cases h : ahd z x = true <;> simp [h] <;> (constructor <;> intro e <;> rcases e with e | e <;> simp [e])
/-- What is kept of a ring with a spot more. -/
theorem insS_keep {l : List Sp} (p : Sp → Bool) (x : Sp) (hx : p x = true) : (insS l x).filter p = insS (l.filter p) x := by
  unfold insS
  simp only [List.filter_append, List.filter_filter, List.filter_cons_of_pos hx, List.filter_nil]
  congr 1
  · congr 1
    exact List.filter_congr (fun y _ => Bool.and_comm _ _)
  · exact List.filter_congr (fun y _ => Bool.and_comm _ _)
theorem insS_drop {l : List Sp} (h : SrtS l) (p : Sp → Bool) (x : Sp) (hx : p x = false) : (insS l x).filter p = l.filter p := by
  unfold insS
  rw [List.filter_append, List.filter_append, List.filter_cons_of_neg (by simp [hx]), List.filter_nil, List.append_nil, ← List.filter_append, parts h]
/-- The spots of a node, f of it and of 0 .. 3. -/
def nodeS (f : Int → Nat → Int) (l : List Sp) (v : Int) : List Sp := (List.range 4).foldl (fun l k => insS l (f v k, v)) l
def ringL (f : Int → Nat → Int) (nodes : List Int) : List Sp := nodes.foldl (nodeS f) []
theorem nodeS_fold (f : Int → Nat → Int) (v : Int) (ks : List Nat) {l : List Sp} (h : SrtS l) :
    SrtS (ks.foldl (fun l k => insS l (f v k, v)) l) ∧ (ks.foldl (fun l k => insS l (f v k, v)) l).length = l.length + ks.length ∧ (∀ z, z ∈ ks.foldl (fun l k => insS l (f v k, v)) l ↔ (∃ k ∈ ks, z = (f v k, v)) ∨ z ∈ l) := by
  induction ks generalizing l with
  | nil => exact ⟨h, rfl, fun z => by simp⟩
  | cons k ks ih =>
    obtain ⟨h1, h2, h3⟩ := ih (h.ins (f v k, v))
    refine ⟨h1, ?_, fun z => ?_⟩
    · rw [List.foldl_cons, h2, insS_length, List.length_cons]; omega
    · rw [List.foldl_cons, h3, insS_mem]
      constructor
      · rintro (⟨j, hj, e⟩ | e | e)
        · exact .inl ⟨j, List.mem_cons_of_mem _ hj, e⟩
        · exact .inl ⟨k, List.mem_cons_self, e⟩
        · exact .inr e
      · rintro (⟨j, hj, e⟩ | e)
        · rcases List.mem_cons.1 hj with rfl | hj
          · exact .inr (.inl e)
          · exact .inl ⟨j, hj, e⟩
        · exact .inr (.inr e)
theorem nodeS_keep (f : Int → Nat → Int) (v : Int) (p : Sp → Bool) (hp : ∀ k, p (f v k, v) = true) (ks : List Nat) (l : List Sp) :
    (ks.foldl (fun l k => insS l (f v k, v)) l).filter p = ks.foldl (fun l k => insS l (f v k, v)) (l.filter p) := by
  induction ks generalizing l with
  | nil => rfl
  | cons k ks ih => rw [List.foldl_cons, List.foldl_cons, ih, insS_keep p _ (hp k)]
theorem nodeS_drop (f : Int → Nat → Int) (v : Int) (p : Sp → Bool) (hp : ∀ k, p (f v k, v) = false) (ks : List Nat) {l : List Sp} (h : SrtS l) :
    (ks.foldl (fun l k => insS l (f v k, v)) l).filter p = l.filter p := by
  induction ks generalizing l with
  | nil => rfl
  | cons k ks ih => rw [List.foldl_cons, ih (h.ins _), insS_drop h p _ (hp k)]
theorem ring_srt (f : Int → Nat → Int) (nodes : List Int) {l : List Sp} (h : SrtS l) : SrtS (nodes.foldl (nodeS f) l) := by
  induction nodes generalizing l with
  | nil => exact h
  | cons v nodes ih => exact ih (nodeS_fold f v (List.range 4) h).1
theorem ringL_srt (f : Int → Nat → Int) (nodes : List Int) : SrtS (ringL f nodes) := ring_srt f nodes List.Pairwise.nil
/-- Without a node: just its spots are gone. -/
theorem ring_rest (f : Int → Nat → Int) (x : Int) (nodes : List Int) {l : List Sp} (h : SrtS l) :
    (nodes.foldl (nodeS f) l).filter (fun s => s.2 != x) = (nodes.filter (fun v => v != x)).foldl (nodeS f) (l.filter (fun s => s.2 != x)) := by
  induction nodes generalizing l with
  | nil => rfl
  | cons v nodes ih =>
    rw [List.foldl_cons, ih (show SrtS (nodeS f l v) from (nodeS_fold f v (List.range 4) h).1)]
    by_cases hv : v = x
    · rw [List.filter_cons_of_neg (by simp [hv])]
      congr 1
      exact nodeS_drop f v _ (fun k => by simp [hv]) _ h
    · rw [List.filter_cons_of_pos (by simp [hv]), List.foldl_cons]
      congr 1
      exact nodeS_keep f v _ (fun k => by simp [hv]) _ l
theorem ringL_rest (f : Int → Nat → Int) (x : Int) (nodes : List Int) : (ringL f nodes).filter (fun s => s.2 != x) = ringL f (nodes.filter (fun v => v != x)) := ring_rest f x nodes List.Pairwise.nil
theorem ring_len (f : Int → Nat → Int) (nodes : List Int) {l : List Sp} (h : SrtS l) : (nodes.foldl (nodeS f) l).length = l.length + 4 * nodes.length := by
  induction nodes generalizing l with
  | nil => rfl
  | cons v nodes ih =>
    have h1 := nodeS_fold f v (List.range 4) h
    rw [List.foldl_cons, ih (show SrtS (nodeS f l v) from h1.1)]
    have h2 := h1.2.1
    rw [List.length_range] at h2
    show (nodeS f l v).length + _ = _
    unfold nodeS
    rw [h2, List.length_cons]
    omega
theorem ringL_len (f : Int → Nat → Int) (nodes : List Int) : (ringL f nodes).length = 4 * nodes.length := by
  have := ring_len f nodes (l := []) List.Pairwise.nil
  simpa [ringL] using this
/-- The first spot for a number: its place; 0 when there is none. -/
def fromS (l : List Sp) (h : Int) : Nat := (l.findIdx? (fun s => decide (h ≤ s.1))).getD 0
/-- The spots from there on, around. -/
def aroundS (l : List Sp) (h : Int) : List Sp := l.drop (fromS l h) ++ l.take (fromS l h)
def homeS (l : List Sp) (h : Int) : Int := match aroundS l h with
  | [] => 0
  | s :: _ => s.2
/-- Each once, in order. -/
def onceS : List Int → List Int → List Int
  | _, [] => []
  | seen, v :: vs => if v ∈ seen then onceS seen vs else v :: onceS (v :: seen) vs
def homesS (l : List Sp) (h : Int) (n : Nat) : List Int := (onceS [] ((aroundS l h).map (·.2))).take n
end Go.Proofs.Ytmfpgnoeemjhiaa
