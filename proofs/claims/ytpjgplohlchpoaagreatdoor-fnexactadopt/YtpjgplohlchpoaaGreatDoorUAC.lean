/- Rings of nodes, plain: whose spots stand there, the nodes of a ring, all homes of a key. -/
import Derived.Test.YtpjgplohlchpoaaGreatDoorUAB
import Derived.Test.YtpjgplohlchpoaaGreatDoorProg
import Derived.Test.YtpjgplohlchpoaaGreatDoorUAA
import Derived.Handy
namespace Go.Proofs.YtpjgplohlchpoaaGreatDoor
open Go.RowKit

theorem ring_in (f : Int → Nat → Int) (nodes : List Int) : ∀ {l : List Sp}, SrtS l → ∀ s, s ∈ nodes.foldl (nodeS f) l ↔ (∃ v ∈ nodes, ∃ k, k < 4 ∧ s = (f v k, v)) ∨ s ∈ l := by
  induction nodes with
  | nil => intro l _ s; simp
  | cons v nodes ih =>
    intro l h s
    have h1 := nodeS_fold f v (List.range 4) h
    rw [List.foldl_cons, ih (show SrtS (nodeS f l v) from h1.1)]
    have h2 : s ∈ nodeS f l v ↔ (∃ k ∈ List.range 4, s = (f v k, v)) ∨ s ∈ l := h1.2.2 s
    rw [h2]
    constructor
    · rintro (⟨x, hx, k, hk, e⟩ | ⟨k, hk, e⟩ | e)
      · exact .inl ⟨x, List.mem_cons_of_mem _ hx, k, hk, e⟩
      · exact .inl ⟨v, List.mem_cons_self, k, List.mem_range.1 hk, e⟩
      · exact .inr e
    · rintro (⟨x, hx, k, hk, e⟩ | e)
      · rcases List.mem_cons.1 hx with rfl | hx
        · exact .inr (.inl ⟨k, List.mem_range.2 hk, e⟩)
        · exact .inl ⟨x, hx, k, hk, e⟩
      · exact .inr (.inr e)
theorem ringL_in (f : Int → Nat → Int) (nodes : List Int) (s : Sp) : s ∈ ringL f nodes ↔ ∃ v ∈ nodes, ∃ k, k < 4 ∧ s = (f v k, v) := by
  have := ring_in f nodes (l := []) List.Pairwise.nil s
  rw [ringL, this]
  simp
theorem ringL_node (f : Int → Nat → Int) (nodes : List Int) (v : Int) : (∃ s ∈ ringL f nodes, s.2 = v) ↔ v ∈ nodes := by
  constructor
  · rintro ⟨s, hs, rfl⟩
    obtain ⟨x, hx, k, _, rfl⟩ := (ringL_in f nodes s).1 hs
    exact hx
  · intro h
    exact ⟨(f v 0, v), (ringL_in f nodes _).2 ⟨v, h, 0, by omega, rfl⟩, rfl⟩
theorem sub_len : ∀ (a b : List Int), a.Nodup → (∀ x ∈ a, x ∈ b) → a.length ≤ b.length
  | [], _, _, _ => Nat.zero_le _
  | x :: a, b, hn, hs => by
    obtain ⟨h1, h2⟩ := List.nodup_cons.1 hn
    have hx := hs x List.mem_cons_self
    have := sub_len a (b.erase x) h2 (fun y hy => (List.mem_erase_of_ne (fun e : y = x => h1 (by rw [← e]; exact hy))).2 (hs y (List.mem_cons_of_mem _ hy)))
    rw [List.length_erase_of_mem hx] at this
    have := List.length_pos_of_mem hx
    rw [List.length_cons]
    omega
theorem same_len {a b : List Int} (ha : a.Nodup) (hb : b.Nodup) (h : ∀ x, x ∈ a ↔ x ∈ b) : a.length = b.length :=
  Nat.le_antisymm (sub_len a b ha (fun x hx => (h x).1 hx)) (sub_len b a hb (fun x hx => (h x).2 hx))
/-- All homes of a key. -/
def allH (l : List Sp) (n : Int) : List Int := onceS [] ((aroundS l n).map (·.2))
theorem allH_mem {l : List Sp} {n v : Int} : v ∈ allH l n ↔ ∃ s ∈ l, s.2 = v := by
  unfold allH
  rw [once_mem, List.mem_map]
  constructor
  · rintro ⟨⟨s, hs, e⟩, _⟩; exact ⟨s, around_mem.1 hs, e⟩
  · rintro ⟨s, hs, e⟩; exact ⟨⟨s, around_mem.2 hs, e⟩, by simp⟩
theorem allH_len (f : Int → Nat → Int) {nodes : List Int} (hn : nodes.Nodup) (n : Int) : (allH (ringL f nodes) n).length = nodes.length :=
  same_len once_nodup hn (fun v => by rw [allH_mem, ringL_node])
/-- The first of the homes is the home. -/
theorem allH_first {l : List Sp} (h : l ≠ []) (n : Int) : ∃ r, allH l n = homeS l n :: r := by
  unfold allH homeS
  cases e : aroundS l n with
  | nil =>
    have : ∀ s, ¬ s ∈ l := fun s hs => by have := (around_mem (n := n)).2 hs; rw [e] at this; cases this
    cases l with
    | nil => exact absurd rfl h
    | cons a l => exact absurd List.mem_cons_self (this a)
  | cons s r =>
    rw [List.map_cons, onceS, if_neg (by simp)]
    exact ⟨_, rfl⟩
/-- The nodes of a ring: of 0 .. 9 those that stand there. -/
def nodesL (l : List Sp) : List Int := ((List.range 10).map (fun v : Nat => (v : Int))).filter (fun v => l.any (fun s => s.2 == v))
theorem asc_ext : ∀ (a b : List Int), a.Pairwise (· < ·) → b.Pairwise (· < ·) → (∀ x, x ∈ a ↔ x ∈ b) → a = b
  | [], [], _, _, _ => rfl
  | [], y :: b, _, _, h => absurd ((h y).2 List.mem_cons_self) (by simp)
  | x :: a, [], _, _, h => absurd ((h x).1 List.mem_cons_self) (by simp)
  | x :: a, y :: b, ha, hb, h => by
    obtain ⟨a1, a2⟩ := List.pairwise_cons.1 ha
    obtain ⟨b1, b2⟩ := List.pairwise_cons.1 hb
    have e : x = y := by
      rcases List.mem_cons.1 ((h x).1 List.mem_cons_self) with e | e
      · exact e
      · rcases List.mem_cons.1 ((h y).2 List.mem_cons_self) with e2 | e2
        · exact e2.symm
        · have := b1 x e; have := a1 y e2; omega
    subst e
    rw [asc_ext a b a2 b2 (fun z => ?_)]
    have hz := h z
    rw [List.mem_cons, List.mem_cons] at hz
    constructor
    · intro hza
      rcases hz.1 (.inr hza) with e | e
      · have := a1 z hza; omega
      · exact e
    · intro hzb
      rcases hz.2 (.inr hzb) with e | e
      · have := b1 z hzb; omega
      · exact e
theorem range_asc : ∀ n : Nat, ((List.range n).map (fun v : Nat => (v : Int))).Pairwise (· < ·)
  | 0 => List.Pairwise.nil
  | n + 1 => by
    rw [List.range_succ, List.map_append]
    refine List.pairwise_append.2 ⟨range_asc n, by simp, ?_⟩
    intro a ha b hb
    obtain ⟨i, hi, rfl⟩ := List.mem_map.1 ha
    obtain ⟨j, hj, rfl⟩ := List.mem_map.1 hb
    have := List.mem_range.1 hi
    have : j = n := by simpa using hj
    omega
theorem nodesL_ring (f : Int → Nat → Int) {nodes : List Int} (ha : nodes.Pairwise (· < ·)) (hr : ∀ v ∈ nodes, 1 ≤ v ∧ v ≤ 9) : nodesL (ringL f nodes) = nodes := by
  refine asc_ext _ _ ((range_asc 10).filter _) ha (fun x => ?_)
  unfold nodesL
  rw [List.mem_filter, List.any_eq_true]
  constructor
  · rintro ⟨_, s, hs, e⟩
    exact (ringL_node f nodes x).1 ⟨s, hs, by simpa using e⟩
  · intro h
    have := hr x h
    refine ⟨List.mem_map.2 ⟨x.toNat, List.mem_range.2 (by omega), by omega⟩, ?_⟩
    obtain ⟨s, hs, e⟩ := (ringL_node f nodes x).2 h
    exact ⟨s, hs, by simpa using e⟩
end Go.Proofs.YtpjgplohlchpoaaGreatDoor
namespace Go.Proofs.YtpjgplohlchpoaaGreatDoor
open Go.RowKit

/-- One byte more. -/
def hstep (h b : Nat) : Nat := ((h ^^^ b) * 16777619) % 4294967296
def hashK (f : Nat → Nat) (h : Nat) : Nat → Nat
  | 0 => h
  | k + 1 => hstep (hashK f h k) (f k)
def seedOf (seed : Int) : Nat := if seed < 0 then 0 else if 1000000000 < seed then 1000000000 else seed.toNat
/-- What a seed begins with. -/
def hash0 (seed : Int) : Nat := (2166136261 + seedOf seed) % 4294967296
def hashN (s : ByteArray) (seed : Int) : Nat := hashK (byt s) (hash0 seed) s.size ^^^ (hashK (byt s) (hash0 seed) s.size / 65536)
theorem hstep_lt (h b : Nat) : hstep h b < 4294967296 := Nat.mod_lt _ (by decide)
theorem hash0_lt (seed : Int) : hash0 seed < 4294967296 := Nat.mod_lt _ (by decide)
theorem hashK_lt (f : Nat → Nat) (h : Nat) (hh : h < 4294967296) : ∀ k, hashK f h k < 4294967296
  | 0 => hh
  | _ + 1 => hstep_lt _ _
theorem seedOf_le (seed : Int) : seedOf seed ≤ 1000000000 := by
  unfold seedOf
  split
  · omega
  · split <;> omega
theorem xor_lt {a b : Nat} (ha : a < 4294967296) (hb : b < 4294967296) : a ^^^ b < 4294967296 := Nat.xor_lt_two_pow (n := 32) ha hb
theorem hashN_lt (s : ByteArray) (seed : Int) : hashN s seed < 4294967296 := by
  have h := hashK_lt (byt s) _ (hash0_lt seed) s.size
  exact xor_lt h (Nat.lt_of_le_of_lt (Nat.div_le_self _ _) h)
theorem xor_low (a b i : Nat) : (a ^^^ b) % 2 ^ (i + 1) = (a ^^^ b) % 2 ^ i + (if (a / 2 ^ i) % 2 ≠ (b / 2 ^ i) % 2 then 2 ^ i else 0) := by
  have h1 : (a ^^^ b) % 2 ^ (i + 1) = (a ^^^ b) % 2 ^ i + 2 ^ i * ((a ^^^ b) / 2 ^ i % 2) := by
    rw [Nat.pow_succ, Nat.mod_mul]
  rw [h1]
  congr 1
  have h2 : (a ^^^ b) / 2 ^ i % 2 = ((a / 2 ^ i) ^^^ (b / 2 ^ i)) % 2 := by rw [← Nat.xor_div_two_pow]
  rw [h2]
  have h3 : ∀ x y : Nat, (x ^^^ y) % 2 = if x % 2 ≠ y % 2 then 1 else 0 := by
    intro x y
    have e := Nat.xor_mod_two_pow (a := x) (b := y) (n := 1)
    simp only [Nat.pow_one] at e
    rw [e]
    rcases Nat.mod_two_eq_zero_or_one x with hx | hx <;> rcases Nat.mod_two_eq_zero_or_one y with hy | hy <;> rw [hx, hy] <;> rfl
  rw [h3]
  split <;> simp

theorem pow_in (i : Nat) (h : i ≤ 32) : 2 ^ i ≤ 4294967296 := by
  have : (2 : Nat) ^ i ≤ 2 ^ 32 := Nat.pow_le_pow_right (by decide) h
  simpa using this
theorem half_next (a i : Nat) : a / 2 ^ i / 2 = a / 2 ^ (i + 1) := by rw [Nat.div_div_eq_div_mul, Nat.pow_succ]

end Go.Proofs.YtpjgplohlchpoaaGreatDoor
namespace Go.Proofs.YtpjgplohlchpoaaGreatDoor
open Go.RowKit
set_option linter.unusedVariables false

theorem fromS_hit {l : List Sp} {n : Int} {i : Nat} (hi : i < l.length) (h : n ≤ l[i].1) (hb : ∀ j (hj : j < i), ¬ n ≤ (l[j]'(by omega)).1) : fromS l n = i := by
  unfold fromS
  have : l.findIdx? (fun s => decide (n ≤ s.1)) = some i := List.findIdx?_eq_some_iff_getElem.2 ⟨hi, by simpa using h, fun j hj => by simpa using hb j hj⟩
  rw [this]
  rfl
theorem fromS_none {l : List Sp} {n : Int} (hb : ∀ s ∈ l, ¬ n ≤ s.1) : fromS l n = 0 := by
  unfold fromS
  rw [List.findIdx?_eq_none_iff.2 (fun s hs => by simp [hb s hs])]
  rfl
theorem fromS_lt {l : List Sp} (h : l ≠ []) (n : Int) : fromS l n < l.length := by
  unfold fromS
  have hl : 0 < l.length := List.length_pos_iff.2 h
  cases e : l.findIdx? (fun s => decide (n ≤ s.1)) with
  | none => exact hl
  | some i =>
    obtain ⟨hi, _⟩ := List.findIdx?_eq_some_iff_getElem.1 e
    exact hi
theorem homeS_at {l : List Sp} (h : l ≠ []) (n : Int) : homeS l n = (l[fromS l n]'(fromS_lt h n)).2 := by
  unfold homeS aroundS
  rw [List.drop_eq_getElem_cons (fromS_lt h n), List.cons_append]
/-- A ring as a value. -/
def riV (ao : Option Addr) (n ca : Nat) : Value := .agg #[.slice ao n ca]

end Go.Proofs.YtpjgplohlchpoaaGreatDoor
namespace Go.Proofs.YtpjgplohlchpoaaGreatDoor
open Go.RowKit

/-- The cells of a row of whole numbers. -/
def iz (l : List Int) : List Value := l.map fun n => Value.int .i64 n
theorem iz_length (l : List Int) : (iz l).length = l.length := by simp [iz]
theorem iz_append (l m : List Int) : iz (l ++ m) = iz l ++ iz m := by simp [iz]
theorem iz_get (l : List Int) (i : Nat) (h : i < l.length) : (iz l)[i]? = some (.int .i64 l[i]) := by simp [iz, h]
theorem iz_set (l : List Int) (i : Nat) (n : Int) : iz (l.set i n) = (iz l).set i (.int .i64 n) := by simp [iz, List.map_set]
theorem iz_one (l : List Int) : ∀ u ∈ iz l, u.oneCell' = true := by
  intro u hu; obtain ⟨_, _, rfl⟩ := List.mem_map.1 hu; rfl
/-- A row that reads as these numbers. -/
def RdZ (w : World) (a : Option Addr) (l : List Int) : Prop := ∀ i (h : i < l.length), ∃ b o, a = some ⟨b, o, none⟩ ∧ b < w.heap.size ∧ w.cell? ⟨b, o + i, none⟩ = some (.int .i64 l[i])
theorem RdZ.later {w w' : World} {a : Option Addr} {l : List Int} (h : RdZ w a l) (hb : Below w.heap.size w w') : RdZ w' a l := by
  intro i hi
  obtain ⟨b, o, ha, hg, hc⟩ := h i hi
  exact ⟨b, o, ha, Nat.lt_of_lt_of_le hg hb.size, (hb.cell (p := ⟨b, o + i, none⟩) hg).trans hc⟩
theorem RdZ.below {w w' : World} {a : Option Addr} {l : List Int} {B : Nat} (h : RdZ w a l) (hb : Below B w w') (hB : ∀ b f, a = some ⟨b, f, none⟩ → l ≠ [] → b < B) : RdZ w' a l := by
  intro i hi
  obtain ⟨b, o, ha, hg, hc⟩ := h i hi
  exact ⟨b, o, ha, Nat.lt_of_lt_of_le hg hb.size, (hb.cell (p := ⟨b, o + i, none⟩) (hB b o ha (fun e => by subst e; simp at hi))).trans hc⟩
theorem RdZ.inB {w : World} {a : Option Addr} {l : List Int} {B : Nat} (h : RdZ w a l) (hB : w.heap.size ≤ B) : ∀ b f, a = some ⟨b, f, none⟩ → l ≠ [] → b < B := by
  intro b f ha hne
  obtain ⟨b', f', ha', hg, _⟩ := h 0 (List.length_pos_iff.2 hne)
  rw [ha] at ha'
  simp at ha'
  omega
theorem rdZ_of_own {w : World} {base n c : Nat} {e : TypeId} {ao : Option Addr} {l : List Int} (h : w.ownsRow base e 1 (.slice ao n c) n (iz l)) : RdZ w ao l := by
  intro i hi
  have hl : l.length = n := by have := h.1; rw [iz_length] at this; omega
  rcases h.2 with ⟨hv, h0⟩ | ⟨g, cap, cur, hv, _, hh, _⟩
  · omega
  · have hg : (Value.slice ao n c).ownBlock = some g := by rw [hv]; rfl
    simp only [Value.slice.injEq] at hv
    refine ⟨g, 0, hv.1, (Array.getElem?_eq_some_iff.1 hh).1, ?_⟩
    have := h.cells hg i _ (iz_get l i hi)
    rw [Addr.add_lit] at this
    exact this

set_option maxRecDepth 100000 in
set_option maxHeartbeats 400000 in
theorem eqIntS_any (a b : Option Addr) (l m : List Int) (ca cb : Nat) (w : World) (hl : l.length ≤ 1048576) (ha : RdZ w a l) (hb : RdZ w b m) :
    Calls Tryz.prog 34 #[.slice a l.length ca, .slice b m.length cb] w fun e w' => ∃ x : Bool, e = .returned (.bool x) ∧ (x = true ↔ l = m) ∧ Below w.heap.size w w' := by
  by_cases c0 : l.length = m.length
  · have q0 : ((l.length : Int) != (m.length : Int)) = false := by simp [c0]
    have HA := hide1 ha
    have HB := hide1 hb
    have C0 := hide1 c0
    clear ha hb c0
    go_enter Tryz.func34, Tryz.ntmps34
    go_wp2
    go_loopw [5] (fun iv wr => ∃ i : Nat, i ≤ l.length ∧ iv = .int .i64 (i : Int) ∧ Hid (∀ j, j < i → l[j]? = m[j]?) ∧ Below w.heap.size w wr) (fun iv _ => l.length - (intOf iv).toNat)
    case atStart => exact ⟨0, by omega, rfl, fun j hj => by omega, Below.refl _ _⟩
    case round =>
      obtain ⟨i, hi, rfl, hsame, hbel⟩ := hrel
      by_cases hlt : i < l.length
      · have hltm : i < m.length := by have := C0.out; omega
        obtain ⟨g, o, rfl, hg, h1⟩ := HA.out i hlt
        obtain ⟨g', o', rfl, hg', h2⟩ := HB.out i hltm
        have x0 := (hbel.cell (p := ⟨g, o + i, none⟩) hg).trans h1
        have y0 := (hbel.cell (p := ⟨g', o' + i, none⟩) hg').trans h2
        clear h1 h2
        have k1 : (i : Int) < (l.length : Int) := by omega
        have k2 : (i : Int) < (m.length : Int) := by omega
        have e1 := hide1 (List.getElem?_eq_getElem hlt)
        have e2 := hide1 (List.getElem?_eq_getElem hltm)
        generalize l[i] = s at *
        generalize m[i] = t at *
        by_cases ce : s = t
        · have q : (s != t) = false := by simp [ce]
          have CE := hide1 ce
          clear ce
          go_wp2_with fail
          go_quiet (fail)
          go_wp2
          go_roundw
          case rel =>
            refine ⟨i + 1, by omega, by go_num, fun j hj => ?_, below_drewN hbel _⟩
            by_cases hj2 : j < i
            · exact hsame.out j hj2
            · rw [show j = i by omega, e1.out, e2.out, CE.out]
          case measure => simp [intOf]; omega
        · have q : (s != t) = true := by simp [ce]
          have CE := hide1 ce
          clear ce
          go_wp2_with fail
          go_quiet (fail)
          go_wp2
          go_ret
          refine ⟨false, rfl, ⟨(fun h => by cases h), fun h => ?_⟩, below_drewN hbel _⟩
          rw [h] at e1
          exact absurd (Option.some.inj (e1.out.symm.trans e2.out)) CE.out
      · go_wp2
        go_ret
        refine ⟨true, rfl, ⟨fun _ => ?_, fun _ => rfl⟩, hbel⟩
        refine List.ext_getElem? fun j => ?_
        by_cases hj : j < i
        · exact hsame.out j hj
        · have := C0.out
          rw [List.getElem?_eq_none (by omega), List.getElem?_eq_none (by omega)]
  · have q0 : ((l.length : Int) != (m.length : Int)) = true := by simp; omega
    clear ha hb
    go_enter Tryz.func34, Tryz.ntmps34
    go_wp2
    go_ret
    exact ⟨false, rfl, by simp; intro h; exact c0 (by rw [h]), Below.refl _ _⟩

/-- Marks: numbers from k on. -/
def patZ (k n : Nat) : List Int := (List.range n).map fun i => ((k + i : Nat) : Int)
theorem patZ_length (k n : Nat) : (patZ k n).length = n := by simp [patZ]
theorem patZ_get (k n i : Nat) (h : i < n) : (patZ k n)[i]'(by rw [patZ_length]; exact h) = (k : Int) + (i : Int) := by simp [patZ]
theorem patZ_fill (k n i : Nat) (l : List Int) (hl : l.length = n) (hi : i < n) : ((patZ k n).take i ++ l.drop i).set i ((k : Int) + (i : Int)) = (patZ k n).take (i + 1) ++ l.drop (i + 1) := by
  have ht : ((patZ k n).take i).length = i := by rw [List.length_take, patZ_length]; omega
  rw [List.set_append_right _ _ (by omega), ht, Nat.sub_self, List.drop_eq_getElem_cons (by omega), List.set_cons_zero, List.take_succ_eq_append_getElem (by rw [patZ_length]; exact hi), patZ_get k n i hi, List.append_assoc]
  rfl

set_option maxRecDepth 100000 in
set_option maxHeartbeats 400000 in
theorem markIntS_any (ao : Option Addr) (c k base : Nat) (l : List Int) (w : World) (hn : l.length ≤ 1048576) (hk : k ≤ 67108864) (hown : w.ownsRow base 3 1 (.slice ao l.length c) l.length (iz l)) :
    Calls Tryz.prog 38 #[.slice ao l.length c, .int .i64 (k : Int)] w fun e w' => e = .returned (.int .i64 ((k : Int) + (l.length : Int))) ∧ w'.ownsRow base 3 1 (.slice ao l.length c) l.length (iz (patZ k l.length)) ∧ w.grownBy w' (Value.slice ao l.length c).ownBlock := by
  obtain ⟨n, hln⟩ : ∃ n, l.length = n := ⟨_, rfl⟩
  rw [hln] at hown hn ⊢
  rcases hown.2 with ⟨hv, h0⟩ | ⟨g, cap, cur, hv, hbg, hgg, _⟩
  · subst h0
    have e0 : l = [] := List.eq_nil_of_length_eq_zero hln
    simp only [Value.slice.injEq] at hv
    obtain ⟨rfl, _, rfl⟩ := hv
    have HO := hide1 hown
    clear hown hln
    go_enter Tryz.func38, Tryz.ntmps38
    go_wp2
    refine wp_loop_rounds 1 ?_
    rw [rounds_succ]
    go_wp2
    go_ret
    exact ⟨by simp, by rw [e0] at HO; exact HO.out, gnew (Below.refl _ _)⟩
  · simp only [Value.slice.injEq] at hv
    obtain ⟨rfl, _, rfl⟩ := hv
    have HO := hide1 hown
    have HL := hide1 hln
    clear hgg hown hln
    go_enter Tryz.func38, Tryz.ntmps38
    go_wp2
    go_loopw [1, 5] (fun kv iv wr => ∃ i : Nat, i ≤ n ∧ iv = .int .i64 (i : Int) ∧ kv = .int .i64 ((k : Int) + (i : Int)) ∧ wr.ownsRow base 3 1 (.slice (some ⟨g, 0, none⟩) n c) n (iz ((patZ k n).take i ++ l.drop i)) ∧ w.grownBy wr (some g)) (fun _ iv _ => n - (intOf iv).toNat)
    case atStart => exact ⟨0, by omega, rfl, by simp, by simpa using HO.out, gnew (Below.refl _ _)⟩
    case round =>
      obtain ⟨i, hi, rfl, rfl, hown1, hg1⟩ := hrel
      by_cases hlt : i < n
      · have k1 : (i : Int) < (n : Int) := by omega
        obtain ⟨u, x1⟩ := own_some hown1 i (by omega)
        have x2 := hown1.frozenAt i
        have HO1 := hide1 hown1
        have HG := hide1 hg1
        clear hown1 hg1
        go_wp2
        go_roundw
        case rel =>
          have st := (World.ownsRow.stored HO1.out i (.int .i64 ((k : Int) + (i : Int)))).1
          rw [← iz_set, patZ_fill k n i l HL.out hlt] at st
          exact ⟨i + 1, by omega, by go_num, by go_num, st, gset HG.out i _⟩
        case measure => simp [intOf]; omega
      · obtain rfl : i = n := by omega
        have HO1 := hide1 hown1
        have HG := hide1 hg1
        clear hown1 hg1
        go_wp2
        go_ret
        refine ⟨rfl, ?_, HG.out⟩
        have := HO1.out
        rw [List.drop_eq_nil_of_le (by have := HL.out; omega), List.append_nil, List.take_of_length_le (by rw [patZ_length]; omega)] at this
        exact this

set_option maxRecDepth 100000 in
set_option maxHeartbeats 400000 in
theorem heldIntS_any (ao : Option Addr) (n ca k : Nat) (w : World) (hn : n ≤ 1048576) (hk : k ≤ 67108864) (hA : RdZ w ao (patZ k n)) :
    Calls Tryz.prog 41 #[.slice ao n ca, .int .i64 (k : Int)] w fun e w' => e = .returned (.int .i64 ((k : Int) + (n : Int))) ∧ w' = w := by
  have HA := hide1 hA
  clear hA
  go_enter Tryz.func41, Tryz.ntmps41
  go_wp2
  go_loop [1, 5] (fun kv iv => ∃ i : Nat, i ≤ n ∧ iv = .int .i64 (i : Int) ∧ kv = .int .i64 ((k : Int) + (i : Int))) (fun _ iv => n - (intOf iv).toNat)
  case atStart => exact ⟨0, by omega, rfl, by simp⟩
  case round =>
    obtain ⟨i, hi, rfl, rfl⟩ := hrel
    by_cases hlt : i < n
    · obtain ⟨b, o, rfl, hb, hc⟩ := HA.out i (by rw [patZ_length]; exact hlt)
      rw [patZ_get k n i hlt] at hc
      have k1 : (i : Int) < (n : Int) := by omega
      have q : (((k : Int) + (i : Int)) != ((k : Int) + (i : Int))) = false := by simp
      go_wp2
      go_round
      case rel => exact ⟨i + 1, by omega, by go_num, by go_num⟩
      case measure => simp [intOf]; omega
    · obtain rfl : i = n := by omega
      go_wp2
      go_ret
      exact ⟨rfl, rfl⟩

theorem Tryz.infoZ : (Tryz.prog.info? 3).map (fun i => (i.zero, i.size, i.bytes)) = some (some (.int .i64 0), 1, 8) := by kernel_rfl
theorem madeZ : ∀ n : Nat, (madeCells (Value.int .i64 0).cells (n * 1)).toList = iz (List.replicate n 0) := by
  intro n
  refine List.ext_getElem? fun j => ?_
  by_cases hj : j < n
  · rw [iz_get _ j (by simpa using hj)]
    simp only [madeCells, Array.getElem?_toList]
    rw [Array.getElem?_map, Array.getElem?_range, if_pos (by omega)]
    simp only [Option.map_some, List.getElem_replicate]
    have : j % 1 = 0 := by omega
    show some ((#[Value.int .i64 0] : Array Value)[j % 1]!) = _
    rw [this]; rfl
  · rw [List.getElem?_eq_none (by simp [madeCells]; omega), List.getElem?_eq_none (by rw [iz_length]; simp; omega)]
theorem fill_setZ (l : List Int) (z s : Int) (i : Nat) (hi : i < l.length) (hs : l[i] = s) : (l.take i ++ List.replicate (l.length - i) z).set i s = l.take (i + 1) ++ List.replicate (l.length - (i + 1)) z := by
  have hl : (l.take i).length = i := by simp; omega
  rw [List.set_append_right _ _ (by omega), hl, Nat.sub_self, show l.length - i = (l.length - (i + 1)) + 1 by omega, List.replicate_succ, List.set_cons_zero, List.take_succ_eq_append_getElem hi, hs, List.append_assoc]
  rfl

set_option maxRecDepth 100000 in
set_option maxHeartbeats 400000 in
theorem toIntS_any (ao : Option Addr) (l : List Int) (ca : Nat) (w : World) (hl : l.length ≤ 1048576) (hA : RdZ w ao l) :
    Calls Tryz.prog 27 #[.slice ao l.length ca] w fun e w' => ∃ b c, e = .returned (.slice b l.length c) ∧ w'.ownsRow w.heap.size 3 1 (.slice b l.length c) l.length (iz l) ∧ Below w.heap.size w w' := by
  obtain ⟨i0, hi, hz0, hz1, hz2⟩ := info_parts Tryz.infoZ
  have HA := hide1 hA
  clear hA
  go_enter Tryz.func27, Tryz.ntmps27
  go_wp2_with (at_make; (refine wpList_make_full _ rfl _ _ 22 rfl w.heap.size 3 i0 (.int .i64 0) 1 Tryz.underlying22 hi hz0 hz1 _ _ _ _ l.length rfl rfl rfl rfl (by rw [hz2]; omega) (by unfold maxLen; omega) (Nat.le_refl _) ?_; intro w0 hown0 hg0))
  rw [madeZ] at hown0
  have HO := hide1 hown0
  clear hown0
  go_loopw [4] (fun iv wr => ∃ i : Nat, i ≤ l.length ∧ iv = .int .i64 (i : Int) ∧ wr.ownsRow w.heap.size 3 1 (.slice (some ⟨w.heap.size, 0, none⟩) l.length l.length) l.length (iz (l.take i ++ List.replicate (l.length - i) 0)) ∧ Below w.heap.size w wr) (fun iv _ => l.length - (intOf iv).toNat)
  case atStart => exact ⟨0, by omega, rfl, by simpa using HO.out, Below.grown (Below.refl _ _) hg0 (Nat.le_refl _) (by intro k hk; cases hk)⟩
  case round =>
    obtain ⟨i, hi, rfl, hown, hbel⟩ := hrel
    by_cases hlt : i < l.length
    · have k1 : (i : Int) < (l.length : Int) := by omega
      obtain ⟨b, o, rfl, hb, h1⟩ := HA.out i hlt
      have x0 := (hbel.cell (p := ⟨b, o + i, none⟩) hb).trans h1
      obtain ⟨s, hs⟩ : ∃ s, l[i] = s := ⟨_, rfl⟩
      rw [hs] at x0
      have HS := hide1 hs
      clear h1 hs
      obtain ⟨u, y0⟩ := own_some hown i (by omega)
      have y1 := hown.frozenAt i
      have HO1 := hide1 hown
      clear hown
      go_wp2
      go_roundw
      case rel =>
        have st := (World.ownsRow.stored HO1.out i (.int .i64 s)).1
        rw [← iz_set, fill_setZ l 0 s i hlt HS.out] at st
        exact ⟨i + 1, by omega, by go_num, st, hbel.setCell (p := ⟨w.heap.size, i, none⟩) (Nat.le_refl _) _⟩
      case measure => simp [intOf]; omega
    · obtain rfl : i = l.length := by omega
      go_wp2
      go_ret
      exact ⟨_, _, rfl, by simpa using hown, hbel⟩

set_option maxRecDepth 100000 in
theorem szIntS_any (ao : Option Addr) (n ca left : Nat) (w : World) (hn : n ≤ 9223372036854775807) (hl : left ≤ 1048576) :
    Calls Tryz.prog 18 #[.slice ao n ca, .int .i64 (left : Int)] w fun e w' => ((e = .returned (.int .i64 (-1)) ∧ ¬ n ≤ left) ∨ ∃ r : Nat, e = .returned (.int .i64 (r : Int)) ∧ r + n = left) ∧ w' = w := by
  by_cases c1 : n ≤ left
  · have q1 : decide ((left : Int) - (n : Int) < 0) = false := by simp; omega
    go_enter Tryz.func18, Tryz.ntmps18
    go_wp2
    go_ret
    exact ⟨.inr ⟨left - n, by show Ending.returned (.int .i64 ((left : Int) - (n : Int))) = _; rw [show ((left - n : Nat) : Int) = (left : Int) - (n : Int) by omega], by omega⟩, rfl⟩
  · have q1 : decide ((left : Int) - (n : Int) < 0) = true := by simp; omega
    have C2 := hide1 c1
    clear c1
    go_enter Tryz.func18, Tryz.ntmps18
    go_wp2
    go_ret
    exact ⟨.inl ⟨rfl, C2.out⟩, rfl⟩
end Go.Proofs.YtpjgplohlchpoaaGreatDoor
