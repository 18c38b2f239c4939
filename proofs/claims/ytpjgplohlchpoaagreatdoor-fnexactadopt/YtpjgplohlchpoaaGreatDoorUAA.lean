/- Plain functions and facts on numbers in bytes (seven bits a byte), figures and words; no condition but those stated. -/
import Derived.WalkKit
import Derived.WalkSpells
import Derived.WalkLawsBesides
namespace Go.Proofs.YtpjgplohlchpoaaGreatDoor
open Go.RowKit

/-- A number in bytes, seven bits a byte, the lowest first. -/
def varF : Nat → Nat → List UInt8
  | 0, n => [UInt8.ofNat n]
  | f + 1, n => if 127 < n then UInt8.ofNat (n % 128 + 128) :: varF f (n / 128) else [UInt8.ofNat n]

def varB (n : Nat) : List UInt8 := varF 9 n

theorem varF_big (f n : Nat) (h : 127 < n) : varF (f + 1) n = UInt8.ofNat (n % 128 + 128) :: varF f (n / 128) := by
  rw [varF, if_pos h]
theorem varF_small (f n : Nat) (h : n ≤ 127) : varF f n = [UInt8.ofNat n] := by
  cases f with
  | zero => rfl
  | succ f => rw [varF, if_neg (by omega)]
theorem varF_length (f n : Nat) : (varF f n).length ≤ f + 1 := by
  induction f generalizing n with
  | zero => simp [varF]
  | succ f ih => rw [varF]; split <;> simp [ih]
theorem varB_length (n : Nat) : (varB n).length ≤ 10 := varF_length 9 n

/-- What a writer has gathered ('acc') and what is left (m, in at most f + 1 bytes). -/
structure VarAt (n f m : Nat) (acc : List UInt8) : Prop where
  bd : m < 128 ^ (f + 1)
  eq : acc ++ varF f m = varB n
  le : f ≤ 9
theorem VarAt.start (n : Nat) (h : n ≤ 9223372036854775807) : VarAt n 9 n [] := ⟨by omega, rfl, Nat.le_refl _⟩
theorem VarAt.len {n f m : Nat} {acc : List UInt8} (h : VarAt n f m acc) : acc.length < 10 := by
  have := varB_length n
  rw [← h.eq, List.length_append] at this
  have : (varF f m).length ≠ 0 := by cases f <;> simp [varF]; split <;> simp
  omega
theorem VarAt.step {n f m : Nat} {acc : List UInt8} (h : VarAt n f m acc) (hm : 127 < m) : ∃ g, VarAt n g (m / 128) (acc ++ [UInt8.ofNat (m % 128 + 128)]) := by
  cases f with
  | zero => have := h.bd; omega
  | succ f =>
    refine ⟨f, ?_, ?_, by have := h.le; omega⟩
    · have := h.bd
      rw [Nat.pow_succ] at this
      omega
    · rw [← h.eq, varF_big f m hm]; simp
theorem VarAt.stop {n f m : Nat} {acc : List UInt8} (h : VarAt n f m acc) (hm : m ≤ 127) : acc ++ [UInt8.ofNat m] = varB n := by
  rw [← h.eq, varF_small f m hm]

/-- A number read in bytes: t i is byte i, len how many there are; f: how many may still come; the number and the place behind it. -/
def rdF (t : Nat → Nat) (len : Nat) : Nat → Nat → Nat → Nat → Option (Nat × Nat)
  | 0, _, _, _ => none
  | f + 1, i, n, wt =>
    if i < len then
      if 127 < t i then rdF t len f (i + 1) (n + t i % 128 * wt) (wt * 128)
      else if (t i = 0 ∧ 1 < wt) ∨ 1000000000 < n + t i % 128 * wt then none
      else some (n + t i % 128 * wt, i + 1)
    else none

structure RdAt (t : Nat → Nat) (len p f k n wt : Nat) : Prop where
  fk : f + k = 5
  w : wt = 128 ^ k
  lt : n < wt
  eq : rdF t len f (p + k) n wt = rdF t len 5 p 0 1

theorem RdAt.start (t : Nat → Nat) (len p : Nat) : RdAt t len p 5 0 0 1 := ⟨rfl, rfl, by omega, rfl⟩
theorem pow_bd (k : Nat) (h : k < 5) : 1 ≤ 128 ^ k ∧ 128 ^ k ≤ 268435456 := by
  match k, h with
  | 0, _ => decide
  | 1, _ => decide
  | 2, _ => decide
  | 3, _ => decide
  | 4, _ => decide
theorem RdAt.bd {t : Nat → Nat} {len p f k n wt : Nat} (h : RdAt t len p f k n wt) (hk : k < 5) : 1 ≤ wt ∧ wt ≤ 268435456 := by
  rw [h.w]; exact pow_bd k hk
theorem mul_bd (b wt : Nat) : b % 128 * wt ≤ 127 * wt := Nat.mul_le_mul_right _ (by omega)
theorem RdAt.open {t : Nat → Nat} {len p f k n wt : Nat} (h : RdAt t len p f k n wt) (hk : k < 5) : ∃ g, f = g + 1 ∧ g + (k + 1) = 5 := ⟨f - 1, by have := h.fk; omega, by have := h.fk; omega⟩
theorem RdAt.more {t : Nat → Nat} {len p f k n wt : Nat} (h : RdAt t len p f k n wt) (hk : k < 5) (hl : p + k < len) (hb : 127 < t (p + k)) : ∃ g, RdAt t len p g (k + 1) (n + t (p + k) % 128 * wt) (wt * 128) := by
  obtain ⟨g, rfl, hg⟩ := h.open hk
  refine ⟨g, hg, by rw [h.w, Nat.pow_succ], ?_, ?_⟩
  · have := mul_bd (t (p + k)) wt; have := h.lt; omega
  · rw [← h.eq, rdF, if_pos hl, if_pos hb]; rfl
theorem RdAt.no {t : Nat → Nat} {len p f k n wt : Nat} (h : RdAt t len p f k n wt) (hk : k < 5) (hl : p + k < len) (hb : t (p + k) ≤ 127) (hn : (t (p + k) = 0 ∧ 1 < wt) ∨ 1000000000 < n + t (p + k) % 128 * wt) : rdF t len 5 p 0 1 = none := by
  obtain ⟨g, rfl, hg⟩ := h.open hk
  rw [← h.eq, rdF, if_pos hl, if_neg (by omega), if_pos hn]
theorem RdAt.yes {t : Nat → Nat} {len p f k n wt : Nat} (h : RdAt t len p f k n wt) (hk : k < 5) (hl : p + k < len) (hb : t (p + k) ≤ 127) (hn : ¬ ((t (p + k) = 0 ∧ 1 < wt) ∨ 1000000000 < n + t (p + k) % 128 * wt)) : rdF t len 5 p 0 1 = some (n + t (p + k) % 128 * wt, p + k + 1) := by
  obtain ⟨g, rfl, hg⟩ := h.open hk
  rw [← h.eq, rdF, if_pos hl, if_neg (by omega), if_neg hn]
theorem RdAt.done {t : Nat → Nat} {len p f k n wt : Nat} (h : RdAt t len p f k n wt) (hd : ¬ (p + k < len ∧ k < 5)) (hk : k ≤ 5) : rdF t len 5 p 0 1 = none := by
  rw [← h.eq]
  cases f with
  | zero => rfl
  | succ f => rw [rdF, if_neg]; have := h.fk; omega
theorem RdAt.first {t : Nat → Nat} {len p f k n wt : Nat} (h : RdAt t len p f k n wt) (hk : k < 5) : (1 < wt ↔ 0 < k) := by
  rw [h.w]
  match k, hk with
  | 0, _ => decide
  | 1, _ => decide
  | 2, _ => decide
  | 3, _ => decide
  | 4, _ => decide

def rdV : Option (Nat × Nat) → Value
  | some (n, j) => .tuple #[.int .i64 (n : Int), .int .i64 (j : Int), .bool true]
  | none => .tuple #[.int .i64 0, .int .i64 0, .bool false]

/-- The worth of bytes, seven bits each, the lowest first. -/
def val : List UInt8 → Nat
  | [] => 0
  | b :: r => b.toNat % 128 + 128 * val r
theorem val_snoc (p : List UInt8) (b : UInt8) : val (p ++ [b]) = val p + b.toNat % 128 * 128 ^ p.length := by
  induction p with
  | nil => simp [val]
  | cons c p ih =>
    simp only [List.cons_append, val, ih, List.length_cons, Nat.pow_succ]
    rw [Nat.mul_add, Nat.add_assoc, Nat.mul_comm (128 ^ p.length) 128, Nat.mul_left_comm]
theorem ofNat_toNat8 (b : UInt8) : UInt8.ofNat b.toNat = b := by simp
/-- The bytes of a number are those that were read just where no shorter form has the same worth. -/
theorem var_back : ∀ (p : List UInt8) (b : UInt8) (f : Nat), (∀ c ∈ p, 127 < c.toNat) → b.toNat ≤ 127 → p.length ≤ f → (varF f (val (p ++ [b])) = p ++ [b] ↔ ¬ (b.toNat = 0 ∧ p ≠ []))
  | [], b, f, _, hb, _ => by
    have e : val ([] ++ [b]) = b.toNat := by simp [val]; omega
    rw [e, varF_small f _ hb, ofNat_toNat8]
    simp
  | c :: p, b, f, hc, hb, hf => by
    obtain ⟨g, rfl⟩ : ∃ g, f = g + 1 := ⟨f - 1, by simp at hf; omega⟩
    have ih := var_back p b g (fun x hx => hc x (List.mem_cons_of_mem _ hx)) hb (by simpa using hf)
    have h127 := hc c (List.mem_cons_self ..)
    have hlt := c.toNat_lt
    have e : val (c :: p ++ [b]) = c.toNat % 128 + 128 * val (p ++ [b]) := rfl
    rw [e]
    have hs := val_snoc p b
    by_cases hz : val (p ++ [b]) = 0
    · rw [hz, varF_small _ _ (by omega)]
      have hb0 : b.toNat = 0 := by
        rw [hz] at hs
        have hpos : 0 < 128 ^ p.length := Nat.pow_pos (by omega)
        have h0 : b.toNat % 128 * 128 ^ p.length = 0 := by omega
        rcases Nat.mul_eq_zero.1 h0 with h | h
        · omega
        · omega
      constructor
      · intro h
        have := congrArg List.length h
        simp at this
      · intro h
        exact absurd ⟨hb0, by simp⟩ h
    · rw [varF_big _ _ (by omega)]
      have e1 : (c.toNat % 128 + 128 * val (p ++ [b])) % 128 + 128 = c.toNat := by omega
      have e2 : (c.toNat % 128 + 128 * val (p ++ [b])) / 128 = val (p ++ [b]) := by omega
      rw [e1, e2, ofNat_toNat8, List.cons_append, List.cons.injEq, ih]
      constructor
      · intro h k
        refine h.2 ⟨k.1, ?_⟩
        intro hp
        subst hp
        apply hz
        simp [val, k.1]
      · intro h
        exact ⟨rfl, fun k => h ⟨k.1, by simp⟩⟩

/-- What has been read of a text from the place p on: k bytes that go on, of worth n. -/
structure RdSp (l : List UInt8) (p k n : Nat) : Prop where
  n : n = val ((l.drop p).take k)
  all : ∀ c ∈ (l.drop p).take k, 127 < c.toNat
theorem RdSp.start (l : List UInt8) (p : Nat) : RdSp l p 0 0 := ⟨by simp [val], by simp⟩
theorem take_snoc1 {l : List UInt8} {p k : Nat} {b : UInt8} (h : l[p + k]? = some b) : (l.drop p).take (k + 1) = (l.drop p).take k ++ [b] := by
  rw [List.take_add_one, List.getElem?_drop, h]; rfl
theorem take_len {l : List UInt8} {p k : Nat} {b : UInt8} (h : l[p + k]? = some b) : ((l.drop p).take k).length = k := by
  have := (List.getElem?_eq_some_iff.1 h).1
  simp; omega
theorem RdSp.more {l : List UInt8} {p k n : Nat} {b : UInt8} (h : RdSp l p k n) (hb : l[p + k]? = some b) (h127 : 127 < b.toNat) : RdSp l p (k + 1) (n + b.toNat % 128 * 128 ^ k) := by
  refine ⟨?_, ?_⟩
  · rw [take_snoc1 hb, val_snoc, take_len hb, ← h.n]
  · rw [take_snoc1 hb]
    intro c hc
    rcases List.mem_append.1 hc with hc | hc
    · exact h.all c hc
    · simp at hc; rw [hc]; exact h127
theorem RdSp.back {l : List UInt8} {p k n : Nat} {b : UInt8} (h : RdSp l p k n) (hk : k ≤ 9) (hb : l[p + k]? = some b) (h127 : b.toNat ≤ 127) : (varB (n + b.toNat % 128 * 128 ^ k) = (l.drop p).take (k + 1) ↔ ¬ (b.toNat = 0 ∧ 0 < k)) := by
  have hl := take_len hb
  have e : n + b.toNat % 128 * 128 ^ k = val ((l.drop p).take k ++ [b]) := by rw [val_snoc, hl, ← h.n]
  rw [take_snoc1 hb, e]
  unfold varB
  rw [var_back _ b 9 h.all h127 (by omega)]
  have : (l.drop p).take k ≠ [] ↔ 0 < k := by
    rw [← List.length_pos_iff, hl]
  rw [this]
end Go.Proofs.YtpjgplohlchpoaaGreatDoor
namespace Go.Proofs.YtpjgplohlchpoaaGreatDoor
open Go.RowKit

/-- A spot: At, Node. -/
abbrev Sp := Int × Int
def ahd (a b : Sp) : Bool := decide (a.1 < b.1) || (decide (a.1 = b.1) && decide (a.2 < b.2))
theorem ahd_iff {a b : Sp} : ahd a b = true ↔ a.1 < b.1 ∨ (a.1 = b.1 ∧ a.2 < b.2) := by simp [ahd]
theorem ahd_not {a b : Sp} : ahd a b = false ↔ ¬ (a.1 < b.1 ∨ (a.1 = b.1 ∧ a.2 < b.2)) := by rw [← ahd_iff]; simp
/-- A spot more, where it belongs. -/
def insS (l : List Sp) (x : Sp) : List Sp := l.filter (fun y => ahd y x) ++ [x] ++ l.filter (fun y => !ahd y x)
/-- In order. -/
def SrtS (l : List Sp) : Prop := l.Pairwise (fun a b => ahd b a = false)
theorem parts {l : List Sp} (h : SrtS l) (x : Sp) : l.filter (fun y => ahd y x) ++ l.filter (fun y => !ahd y x) = l := by
  induction l with
  | nil => rfl
  | cons a l ih =>
    obtain ⟨h1, h2⟩ := List.pairwise_cons.1 h
    by_cases ha : ahd a x = true
    · rw [List.filter_cons_of_pos (by simpa using ha), List.filter_cons_of_neg (by simp [ha]), List.cons_append, ih h2]
    · have hn : ∀ b ∈ l, ahd b x = false := by
        intro b hb
        have h3 := ahd_not.1 (h1 b hb)
        have h4 : ¬ (a.1 < x.1 ∨ (a.1 = x.1 ∧ a.2 < x.2)) := fun e => ha (ahd_iff.2 e)
        exact ahd_not.2 (by omega)
      have e1 : l.filter (fun y => ahd y x) = [] := List.filter_eq_nil_iff.2 (fun b hb => by rw [hn b hb]; simp)
      have e2 : l.filter (fun y => !ahd y x) = l := List.filter_eq_self.2 (fun b hb => by rw [hn b hb]; rfl)
      rw [List.filter_cons_of_neg (by simpa using ha), List.filter_cons_of_pos (by simpa using ha), e1, e2]
      rfl
theorem SrtS.ins {l : List Sp} (h : SrtS l) (x : Sp) : SrtS (insS l x) := by
  unfold SrtS insS
  rw [List.append_assoc]
  refine List.pairwise_append.2 ⟨h.filter _, ?_, ?_⟩
  · refine List.pairwise_cons.2 ⟨fun b hb => ?_, h.filter _⟩
    have := (List.mem_filter.1 hb).2
    simpa using this
  · intro a ha b hb
    have h1 := ahd_iff.1 (List.mem_filter.1 ha).2
    rcases List.mem_cons.1 hb with rfl | hb
    · exact ahd_not.2 (by omega)
    · have h2 := (List.mem_filter.1 hb).2
      have h3 := ahd_not.1 (by simpa using h2)
      exact ahd_not.2 (by omega)
theorem insS_length (l : List Sp) (x : Sp) : (insS l x).length = l.length + 1 := by
  have : ∀ l : List Sp, (l.filter (fun y => ahd y x)).length + (l.filter (fun y => !ahd y x)).length = l.length := fun l => by
    induction l with
    | nil => rfl
    | cons a l ih => by_cases h : ahd a x = true <;> simp [h] <;> omega
  have := this l
  unfold insS
  simp only [List.length_append, List.length_cons, List.length_nil]
  omega
theorem insS_mem {l : List Sp} {x z : Sp} : z ∈ insS l x ↔ z = x ∨ z ∈ l := by
  unfold insS
  simp only [List.mem_append, List.mem_filter, List.mem_cons, List.not_mem_nil, or_false]
  by_cases h : ahd z x = true <;> simp [h] <;> (constructor <;> intro e <;> rcases e with e | e <;> simp [e])
/-- What is kept of a ring with a spot more. -/
theorem insS_keep {l : List Sp} (p : Sp → Bool) (x : Sp) (hx : p x = true) : (insS l x).filter p = insS (l.filter p) x := by
  unfold insS
  simp only [List.filter_append, List.filter_filter, List.filter_cons_of_pos hx, List.filter_nil]
  congr 1
  · congr 1
    exact List.filter_congr (fun y _ => Bool.and_comm _ _)
  · exact List.filter_congr (fun y _ => Bool.and_comm _ _)
theorem insS_drop {l : List Sp} (h : SrtS l) (p : Sp → Bool) (x : Sp) (hx : p x = false) : (insS l x).filter p = l.filter p := by
  unfold insS
  rw [List.filter_append, List.filter_append, List.filter_cons_of_neg (by simp [hx]), List.filter_nil, List.append_nil, ← List.filter_append, parts h]
/-- The spots of a node, f of it and of 0 .. 3. -/
def nodeS (f : Int → Nat → Int) (l : List Sp) (v : Int) : List Sp := (List.range 4).foldl (fun l k => insS l (f v k, v)) l
def ringL (f : Int → Nat → Int) (nodes : List Int) : List Sp := nodes.foldl (nodeS f) []
theorem nodeS_fold (f : Int → Nat → Int) (v : Int) (ks : List Nat) {l : List Sp} (h : SrtS l) :
    SrtS (ks.foldl (fun l k => insS l (f v k, v)) l) ∧ (ks.foldl (fun l k => insS l (f v k, v)) l).length = l.length + ks.length ∧ (∀ z, z ∈ ks.foldl (fun l k => insS l (f v k, v)) l ↔ (∃ k ∈ ks, z = (f v k, v)) ∨ z ∈ l) := by
  induction ks generalizing l with
  | nil => exact ⟨h, rfl, fun z => by simp⟩
  | cons k ks ih =>
    obtain ⟨h1, h2, h3⟩ := ih (h.ins (f v k, v))
    refine ⟨h1, ?_, fun z => ?_⟩
    · rw [List.foldl_cons, h2, insS_length, List.length_cons]; omega
    · rw [List.foldl_cons, h3, insS_mem]
      constructor
      · rintro (⟨j, hj, e⟩ | e | e)
        · exact .inl ⟨j, List.mem_cons_of_mem _ hj, e⟩
        · exact .inl ⟨k, List.mem_cons_self, e⟩
        · exact .inr e
      · rintro (⟨j, hj, e⟩ | e)
        · rcases List.mem_cons.1 hj with rfl | hj
          · exact .inr (.inl e)
          · exact .inl ⟨j, hj, e⟩
        · exact .inr (.inr e)
theorem nodeS_keep (f : Int → Nat → Int) (v : Int) (p : Sp → Bool) (hp : ∀ k, p (f v k, v) = true) (ks : List Nat) (l : List Sp) :
    (ks.foldl (fun l k => insS l (f v k, v)) l).filter p = ks.foldl (fun l k => insS l (f v k, v)) (l.filter p) := by
  induction ks generalizing l with
  | nil => rfl
  | cons k ks ih => rw [List.foldl_cons, List.foldl_cons, ih, insS_keep p _ (hp k)]
theorem nodeS_drop (f : Int → Nat → Int) (v : Int) (p : Sp → Bool) (hp : ∀ k, p (f v k, v) = false) (ks : List Nat) {l : List Sp} (h : SrtS l) :
    (ks.foldl (fun l k => insS l (f v k, v)) l).filter p = l.filter p := by
  induction ks generalizing l with
  | nil => rfl
  | cons k ks ih => rw [List.foldl_cons, ih (h.ins _), insS_drop h p _ (hp k)]
theorem ring_srt (f : Int → Nat → Int) (nodes : List Int) {l : List Sp} (h : SrtS l) : SrtS (nodes.foldl (nodeS f) l) := by
  induction nodes generalizing l with
  | nil => exact h
  | cons v nodes ih => exact ih (nodeS_fold f v (List.range 4) h).1
theorem ringL_srt (f : Int → Nat → Int) (nodes : List Int) : SrtS (ringL f nodes) := ring_srt f nodes List.Pairwise.nil
/-- Without a node: just its spots are gone. -/
theorem ring_rest (f : Int → Nat → Int) (x : Int) (nodes : List Int) {l : List Sp} (h : SrtS l) :
    (nodes.foldl (nodeS f) l).filter (fun s => s.2 != x) = (nodes.filter (fun v => v != x)).foldl (nodeS f) (l.filter (fun s => s.2 != x)) := by
  induction nodes generalizing l with
  | nil => rfl
  | cons v nodes ih =>
    rw [List.foldl_cons, ih (show SrtS (nodeS f l v) from (nodeS_fold f v (List.range 4) h).1)]
    by_cases hv : v = x
    · rw [List.filter_cons_of_neg (by simp [hv])]
      congr 1
      exact nodeS_drop f v _ (fun k => by simp [hv]) _ h
    · rw [List.filter_cons_of_pos (by simp [hv]), List.foldl_cons]
      congr 1
      exact nodeS_keep f v _ (fun k => by simp [hv]) _ l
theorem ringL_rest (f : Int → Nat → Int) (x : Int) (nodes : List Int) : (ringL f nodes).filter (fun s => s.2 != x) = ringL f (nodes.filter (fun v => v != x)) := ring_rest f x nodes List.Pairwise.nil
theorem ring_len (f : Int → Nat → Int) (nodes : List Int) {l : List Sp} (h : SrtS l) : (nodes.foldl (nodeS f) l).length = l.length + 4 * nodes.length := by
  induction nodes generalizing l with
  | nil => rfl
  | cons v nodes ih =>
    have h1 := nodeS_fold f v (List.range 4) h
    rw [List.foldl_cons, ih (show SrtS (nodeS f l v) from h1.1)]
    have h2 := h1.2.1
    rw [List.length_range] at h2
    show (nodeS f l v).length + _ = _
    unfold nodeS
    rw [h2, List.length_cons]
    omega
theorem ringL_len (f : Int → Nat → Int) (nodes : List Int) : (ringL f nodes).length = 4 * nodes.length := by
  have := ring_len f nodes (l := []) List.Pairwise.nil
  simpa [ringL] using this
/-- The first spot for a number: its place; 0 when there is none. -/
def fromS (l : List Sp) (h : Int) : Nat := (l.findIdx? (fun s => decide (h ≤ s.1))).getD 0
/-- The spots from there on, around. -/
def aroundS (l : List Sp) (h : Int) : List Sp := l.drop (fromS l h) ++ l.take (fromS l h)
def homeS (l : List Sp) (h : Int) : Int := match aroundS l h with
  | [] => 0
  | s :: _ => s.2
/-- Each once, in order. -/
def onceS : List Int → List Int → List Int
  | _, [] => []
  | seen, v :: vs => if v ∈ seen then onceS seen vs else v :: onceS (v :: seen) vs
def homesS (l : List Sp) (h : Int) (n : Nat) : List Int := (onceS [] ((aroundS l h).map (·.2))).take n
end Go.Proofs.YtpjgplohlchpoaaGreatDoor
namespace Go.Proofs.YtpjgplohlchpoaaGreatDoor
open Go.RowKit

/-- The cells of a row of bytes. -/
def bc (l : List UInt8) : List Value := l.map fun b => Value.int .u8 (b.toNat : Int)

theorem bc_length (l : List UInt8) : (bc l).length = l.length := by simp [bc]
theorem bc_append (l m : List UInt8) : bc (l ++ m) = bc l ++ bc m := by simp [bc]
theorem bc_nil : bc [] = [] := rfl
theorem bc_one (l : List UInt8) : ∀ u ∈ bc l, u.oneCell' = true := by
  intro u hu; obtain ⟨_, _, rfl⟩ := List.mem_map.1 hu; rfl

/-- 'string(b)' of a row of bytes of the call's own. -/
theorem conv_own {P : Program} {w : World} {base n : Nat} {v : Value} {l : List UInt8} (src dst e : TypeId) (hs : P.underlying src = some (.slice e)) (he : P.underlying e = some (.int .u8)) (hd : P.underlying dst = some .string)
    (h : w.ownsRow base e 1 v n (bc l)) : (convert src dst v).run P w = .ok (.string ⟨l.toArray⟩) w := by
  have hl : l.length = n := by have := h.1; rw [bc_length] at this; omega
  rcases h.2 with ⟨rfl, h0⟩ | ⟨g, cap, cur, rfl, _, hg, _, _, _, _⟩
  · have : l = [] := List.eq_nil_of_length_eq_zero (by omega)
    subst this
    rw [run_convert_bytes_string w src dst e none 0 0 hs he hd]
    simp [Conv.bytesToString]
    rfl
  · subst hl
    refine run_convert_bytes_back w src dst e ⟨g, 0, none⟩ cap l hs he hd fun j hj => ?_
    refine h.cells (g := g) rfl j _ ?_
    simp [bc, List.getElem?_eq_getElem hj]

/-- The one cell of a row that 'append(out, x)' lays ahead of it. -/
theorem bc_cell (b : UInt8) : bc [b] = [Value.int .u8 (b.toNat : Int)] := rfl
theorem ofNat_cell {n : Nat} (h : n < 256) : (Value.int .u8 ((UInt8.ofNat n).toNat : Int)) = Value.int .u8 (n : Int) := by
  rw [UInt8.toNat_ofNat']
  simp [Nat.mod_eq_of_lt h]

/-- 'out = append(out, b)' of one byte, out a row of bytes of the call's own. -/
theorem wpList_push {P : Program} {w : World} {ops : Array Oper} {rest : List Oper} {o : Oper} {a : Act} {Q : Exit → Act → World → Prop} (hgd : o.guard = none) (s x : Operand) (t : TypeId)
    (ho : o.op = .call { callee := .builtin .append, args := #[s, x], argTypes := #[t, t] })
    (base : Nat) (e : TypeId) (i : TypeInfo) (ht : P.underlying t = some (.slice e)) (hi : P.info? e = some i) (hz : i.zero = some (.int .u8 0)) (hsize : i.size = 1) (hby : i.bytes = 1)
    (v : Value) (acc : List UInt8) (hs : a.eval s = v) (hown : w.ownsRow base e 1 v acc.length (bc acc)) (k : Int) (b : UInt8) (hk : (b.toNat : Int) = k)
    (hx : a.eval x = .slice (some ⟨w.heap.size, 0, none⟩) 1 1) (hlen : acc.length ≤ 70368744177664) (hbase : base ≤ w.heap.size)
    (h : ∀ v' w', w'.ownsRow base e 1 v' (acc ++ [b]).length (bc (acc ++ [b])) → Below base w w' → wpList P ops Q rest (a.put o.dst v') w') :
    wpList P ops Q (o :: rest) a (w.alloc (.cells #[.int .u8 k] e)) := by
  subst hk
  refine wpList_append_own _ hgd s x t ho base e i (.int .u8 0) 1 1 ht hi hz hsize hby rfl (by decide) v acc.length (bc acc) hs (hown.alloc _) ⟨w.heap.size, 0, none⟩ 1 1 (bc [b]) hx rfl ?_ (bc_one _) ?_ ?_ ?_ ?_
  · exact cell_one_new _ _ _
  · unfold maxLen; omega
  · omega
  · rw [World.size_alloc]; omega
  · intro v' w' h1 h2 _
    refine h v' w' ?_ ?_
    · rw [bc_append]; simpa using h1
    · refine Below.grown ((Below.refl _ _).alloc hbase _) h2 (by rw [World.size_alloc]; omega) ?_
      intro k hk
      exact (hown.lt k hk).1

theorem byte_of (k : Nat) (h : k < 256) : ∃ b : UInt8, Hid (b = UInt8.ofNat k) ∧ b.toNat = k :=
  ⟨_, rfl, by rw [UInt8.toNat_ofNat']; omega⟩

theorem ret_str {l m : List UInt8} (h : l = m) : Ending.returned (.string ⟨l.toArray⟩) = .returned (.string ⟨m.toArray⟩) := by rw [h]
theorem ret_str_bool {l m : List UInt8} {b c : Bool} (h : l = m) (k : b = c) : Ending.returned (.tuple #[.string ⟨l.toArray⟩, .bool b]) = .returned (.tuple #[.string ⟨m.toArray⟩, .bool c]) := by rw [h, k]
/-- A row that 'make([]byte, 0, n)' has just laid. -/
theorem owns_made (w : World) (e : TypeId) (cap : Nat) (cur : Array Value) (hc : cap ≤ maxLen) (hs : cur.size = cap) : (w.alloc (.cells cur e)).ownsRow w.heap.size e 1 (.slice (some ⟨w.heap.size, 0, none⟩) 0 cap) 0 [] :=
  World.ownsRow_made w cur cap (Nat.le_refl _) hc (by omega)

/-- Byte k of a text as a number, 0 past its end. -/
def byt (s : ByteArray) (k : Nat) : Nat := (s.data.toList[k]?.getD 0).toNat
theorem get_byt (s : ByteArray) : ∀ (k : Nat) (h : k < s.size), (s[k]'h).toNat = byt s k := by
  intro k h
  have h' : k < s.data.toList.length := by simpa using h
  unfold byt
  rw [List.getElem?_eq_getElem h']
  rfl
theorem byt_le (s : ByteArray) (k : Nat) : byt s k ≤ 255 := by
  unfold byt
  have := (s.data.toList[k]?.getD 0).toNat_lt
  omega
theorem byt_some (s : ByteArray) (k : Nat) (h : k < s.size) : s.data.toList[k]? = some (UInt8.ofNat (byt s k)) := by
  have h' : k < s.data.toList.length := by simpa using h
  unfold byt
  rw [List.getElem?_eq_getElem h']
  simp
theorem hide1 {p : Prop} (h : p) : Hid p := h

/-- 'string([]byte{b})'. -/
theorem conv_one {P : Program} (w : World) (src dst e : TypeId) (hs : P.underlying src = some (.slice e)) (he : P.underlying e = some (.int .u8)) (hd : P.underlying dst = some .string) (b : UInt8) (k : Int) (hk : (b.toNat : Int) = k) :
    (convert src dst (.slice (some ⟨w.heap.size, 0, none⟩) 1 1)).run P (w.alloc (.cells #[.int .u8 k] e)) = .ok (.string ⟨#[b]⟩) (w.alloc (.cells #[.int .u8 k] e)) := by
  subst hk
  have := run_convert_bytes_back (P := P) (w.alloc (.cells #[.int .u8 (b.toNat : Int)] e)) src dst e ⟨w.heap.size, 0, none⟩ 1 [b] hs he hd (by
    intro j hj
    exact cell_one_new w _ e j _ (by simp at hj; subst hj; rfl))
  exact this
end Go.Proofs.YtpjgplohlchpoaaGreatDoor
namespace Go.Proofs.YtpjgplohlchpoaaGreatDoor
open Go.RowKit

/-- 's[i:j]' of a text, by its bytes. -/
theorem slice_str {P : Program} (t : TypeId) (h : P.underlying t = some .string) (s : ByteArray) (i j : Nat) (a b : Int) (ha : a = (i : Int)) (hb : b = (j : Int)) (hij : i ≤ j) (hj : j ≤ s.size) :
    ∃ y : ByteArray, Hid (y.toList = (s.data.toList.drop i).take (j - i)) ∧ Hid (y.size = j - i) ∧ ∀ w, (Instr.slice t (.string s) (some (.int .i64 a)) (some (.int .i64 b)) none).run P w = .ok (.string y) w := by
  subst ha hb
  refine ⟨s.extract i j, ?_, ?_, fun w => ?_⟩
  · show (s.extract i j).toList = _
    rw [ByteArray.toList_eq, ByteArray.data_extract]
    simp [List.take_drop]
  · show (s.extract i j).size = _
    rw [ByteArray.size_extract]
    omega
  · rw [run_slice_string_if w t s .i64 .i64 i j h, if_pos (by omega), if_pos (by omega), Int.toNat_natCast, Int.toNat_natCast]
end Go.Proofs.YtpjgplohlchpoaaGreatDoor
