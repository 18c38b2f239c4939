/- Tables that grow and are moved, plain: the same entries all the while; none is left in the old cells at last. -/
import Derived.Test.YtinjohpeanlalaaLawQ
import Derived.Test.YtinjohpeanlalaaTabMI
import Derived.Test.YtinjohpeanlalaaDrawPl
namespace Go.Proofs.Ytinjohpeanlalaa
open Go.RowKit

theorem ent_next {l o : List Ce} {m : Nat} {x : Ce} (hx : o[m]? = some x) (hk : x.key.toList = []) {z : ByteArray} (hz : z.toList ≠ []) (h : Int) : Ent l (o.set m gC) z h ↔ Ent l o z h := by
  rw [ent_or, ent_or, mem_set hx (fun e => hz (by rw [← e]; exact hk)) (gC_ne hz)]
theorem ent_nextPut {l l' o : List Ce} {m : Nat} {x : Ce} (H : OkN l o (m : Int)) (hx : o[m]? = some x) (hk : x.key.toList ≠ []) (e : putC l x.key x.h = some l') {z : ByteArray} (hz : z.toList ≠ []) (h : Int) : Ent l' (o.set m gC) z h ↔ Ent l o z h := by
  have hf : x.key.size ≤ 12 ∧ 0 ≤ x.h := by
    rcases fit_at H.o1.1 hx with f | f
    · exact absurd f.1 hk
    · exact ⟨f.2.1, f.2.2⟩
  have hap : ∀ (i : Nat) (y : Ce), l[i]? = some y → y.key ≠ x.key := fun i y hy e2 => H.apart m i x y hx hy hk e2.symm
  obtain ⟨_, _, k, rfl, y, hy, hy0⟩ := put_right H.l1 H.l2 hk hf.1 hf.2 hap e
  have hi := (List.getElem?_eq_some_iff.1 hy).1
  by_cases hzx : x.key = z
  · constructor
    · rintro ⟨d, hd | hd, e1, e2⟩
      · obtain ⟨i, hil, e3⟩ := List.mem_iff_getElem.1 hd
        rcases set_at (show (l.set k ⟨x.key, x.h⟩)[i]? = some d by rw [List.getElem?_eq_getElem hil, e3]) with ⟨_, e4⟩ | ⟨_, h5⟩
        · rw [e4] at e2
          exact ⟨x, .inr (List.mem_of_getElem? hx), hzx, e2⟩
        · exact absurd (by rw [e1, hzx]) (hap i d h5)
      · obtain ⟨i, hil, e3⟩ := List.mem_iff_getElem.1 hd
        rcases set_at (show (o.set m gC)[i]? = some d by rw [List.getElem?_eq_getElem hil, e3]) with ⟨_, e4⟩ | ⟨_, h5⟩
        · rw [e4] at e1
          exact absurd e1 (gC_ne hz)
        · exact ⟨d, .inr (List.mem_of_getElem? h5), e1, e2⟩
    · rintro ⟨d, hd | hd, e1, e2⟩
      · obtain ⟨i, hil, e3⟩ := List.mem_iff_getElem.1 hd
        exact absurd (by rw [e1, hzx]) (hap i d (by rw [List.getElem?_eq_getElem hil, e3]))
      · obtain ⟨i, hil, e3⟩ := List.mem_iff_getElem.1 hd
        have hdi : o[i]? = some d := by rw [List.getElem?_eq_getElem hil, e3]
        have him : i = m := H.o1.2.1 i m d x hdi hx (by rw [e1]; exact hz) (by rw [e1, hzx])
        subst him
        rw [hdi] at hx
        injection hx with hx
        subst hx
        exact ⟨⟨d.key, d.h⟩, .inl (List.mem_of_getElem? (show (l.set k ⟨d.key, d.h⟩)[k]? = some _ by rw [List.getElem?_set_self hi])), hzx, e2⟩
  · rw [ent_or, ent_or, mem_set hx hzx (gC_ne hz), mem_set hy (fun e => hz (by rw [← e]; exact hy0)) hzx]
theorem ent_moves : ∀ (s : Nat) {l o : List Ce} {m : Nat}, OkN l o (m : Int) → ∀ z : ByteArray, z.toList ≠ [] → ∀ h, Ent (moveS l o m s).1 (moveS l o m s).2.1 z h ↔ Ent l o z h
  | 0, _, _, _, _, _, _, _ => Iff.rfl
  | s + 1, l, o, m, H, z, hz, h => by
    rw [moveS]
    cases hx : o[m]? with
    | none => exact Iff.rfl
    | some x =>
      simp only
      by_cases hk : x.key.toList = []
      · rw [if_pos hk]
        exact (ent_moves s (H.next (List.getElem?_eq_some_iff.1 hx).1) z hz h).trans (ent_next hx hk hz h)
      · rw [if_neg hk]
        cases hp : putC l x.key x.h with
        | none => exact Iff.rfl
        | some l' => exact (ent_moves s (H.nextPut hx hk hp) z hz h).trans (ent_nextPut H hx hk hp hz h)
theorem moveS_len : ∀ (s : Nat) (l o : List Ce) (m : Nat), (moveS l o m s).1.length = l.length ∧ (moveS l o m s).2.1.length = o.length
  | 0, _, _, _ => ⟨rfl, rfl⟩
  | s + 1, l, o, m => by
    rw [moveS]
    cases hx : o[m]? with
    | none => exact ⟨rfl, rfl⟩
    | some x =>
      simp only
      by_cases hk : x.key.toList = []
      · rw [if_pos hk]
        have := moveS_len s l (o.set m gC) (m + 1)
        rw [List.length_set] at this
        exact this
      · rw [if_neg hk]
        cases hp : putC l x.key x.h with
        | none => exact ⟨rfl, rfl⟩
        | some l' =>
          have := moveS_len s l' (o.set m gC) (m + 1)
          rw [List.length_set, putC_length hp] at this
          exact this
theorem ent_end {l o : List Ce} (H : OkN l o (o.length : Int)) {z : ByteArray} (hz : z.toList ≠ []) (h : Int) : Ent l [] z h ↔ Ent l o z h := by
  constructor
  · rintro ⟨d, hd | hd, e⟩
    · exact ⟨d, .inl hd, e⟩
    · cases hd
  · rintro ⟨d, hd | hd, e1, e2⟩
    · exact ⟨d, .inl hd, e1, e2⟩
    · obtain ⟨i, hil, e3⟩ := List.mem_iff_getElem.1 hd
      have := (H.gone i d (by rw [List.getElem?_eq_getElem hil, e3]) (by omega)).1
      rw [e1] at this
      exact absurd this hz
theorem ent_moveR {l o : List Ce} {m : Nat} (H : OkN l o (m : Int)) (s : Nat) (z : ByteArray) (hz : z.toList ≠ []) (h : Int) : Ent (moveR l o m s).1 (moveR l o m s).2.1 z h ↔ Ent l o z h := by
  have h1 := ent_moves s H z hz h
  have h2 := OkN.moves s H
  have h3 := moveS_len s l o m
  unfold moveR
  split
  · rename_i e
    rw [e, ← h3.2] at h2
    exact (ent_end h2 hz h).trans h1
  · exact h1
theorem ent_grow {l : List Ce} {n : Nat} (z : ByteArray) (hz : z.toList ≠ []) (h : Int) : Ent (List.replicate n nC) l z h ↔ Ent l [] z h := by
  constructor
  · rintro ⟨d, hd | hd, e1, e2⟩
    · rw [List.eq_of_mem_replicate hd] at e1
      exact absurd (by rw [← e1]; exact nC_no) hz
    · exact ⟨d, .inl hd, e1, e2⟩
  · rintro ⟨d, hd | hd, e⟩
    · exact ⟨d, .inr hd, e⟩
    · cases hd

/-- How many cells nobody took, behind a store. -/
theorem noneN_set (l : List Ce) (k : Nat) (c : Ce) : ∀ n, noneN l n ≤ noneN (l.set k c) n + (if k < n then 1 else 0)
  | 0 => by simp [noneN]
  | n + 1 => by
    have ih := noneN_set l k c n
    rw [noneN, noneN]
    by_cases hk : n = k
    · subst hk
      rw [if_neg (by omega)] at ih
      rw [if_pos (by omega)]
      split
      · split <;> omega
      · omega
    · rw [List.getElem?_set_ne (Ne.symm hk)]
      by_cases hlt : k < n
      · rw [if_pos hlt] at ih
        rw [if_pos (by omega)]
        omega
      · rw [if_neg hlt] at ih
        rw [if_neg (by omega)]
        omega
theorem noneN_rep (n : Nat) : ∀ i, i ≤ n → noneN (List.replicate n nC) i = i
  | 0, _ => rfl
  | i + 1, h => by
    rw [noneN, noneN_rep n i (by omega), List.getElem?_replicate, if_pos (by omega)]
    simp only
    rw [if_pos ⟨nC_no, rfl⟩]
theorem noneN_ex {l : List Ce} : ∀ n, 0 < noneN l n → ∃ (i : Nat) (x : Ce), i < n ∧ l[i]? = some x ∧ x.key.toList = []
  | 0, h => by simp [noneN] at h
  | n + 1, h => by
    rw [noneN] at h
    by_cases h0 : 0 < noneN l n
    · obtain ⟨i, x, h1, h2⟩ := noneN_ex n h0
      exact ⟨i, x, by omega, h2⟩
    · cases hx : l[n]? with
      | none => rw [hx] at h; simp only at h; omega
      | some x =>
        rw [hx] at h
        simp only at h
        by_cases c : x.key.toList = [] ∧ x.h = -1
        · exact ⟨n, x, by omega, hx, c.1⟩
        · rw [if_neg c] at h; omega
theorem freeD_some {l : List Ce} {p k : Nat} {x : Ce} (hx : l[k]? = some x) (h0 : x.key.toList = []) : ∀ (d i : Nat), (∃ e, i ≤ e ∧ e < i + d ∧ (p + e) % l.length = k) → ∃ j, freeD l p i d = some j
  | 0, i, ⟨e, h1, h2, _⟩ => by omega
  | d + 1, i, ⟨e, h1, h2, h3⟩ => by
    have hn : 0 < l.length := by have := (List.getElem?_eq_some_iff.1 hx).1; omega
    have hq : (p + i) % l.length < l.length := Nat.mod_lt _ hn
    rw [freeD]
    cases hy : l[(p + i) % l.length]? with
    | none => rw [List.getElem?_eq_getElem hq] at hy; cases hy
    | some y =>
      simp only
      by_cases c : y.key.toList = []
      · rw [if_pos c]; exact ⟨_, rfl⟩
      · rw [if_neg c]
        by_cases hei : e = i
        · subst hei
          rw [h3, hx] at hy
          injection hy with hy
          rw [← hy] at c
          exact absurd h0 c
        · exact freeD_some hx h0 d (i + 1) ⟨e, by omega, by omega, h3⟩
theorem around {n p k : Nat} (hp : p < n) (hk : k < n) : ∃ e, 0 ≤ e ∧ e < 0 + n ∧ (p + e) % n = k := by
  by_cases h : p ≤ k
  · exact ⟨k - p, by omega, by omega, by rw [show p + (k - p) = k by omega]; exact Nat.mod_eq_of_lt hk⟩
  · refine ⟨n - p + k, by omega, by omega, ?_⟩
    rw [show p + (n - p + k) = k + n by omega, Nat.add_mod_right]
    exact Nat.mod_eq_of_lt hk
/-- With two cells that nobody took each key has a place. -/
theorem putC_some {l : List Ce} (h2 : 2 ≤ noneN l l.length) (key : ByteArray) (h : Int) : ∃ l', putC l key h = some l' ∧ noneN l l.length ≤ noneN l' l'.length + 1 := by
  obtain ⟨i, x, hi, hx, hx0⟩ := noneN_ex (l := l) l.length (by omega)
  obtain ⟨k, hk⟩ := freeD_some (p := hashN key 0 % l.length) hx hx0 l.length 0 (around (Nat.mod_lt _ (by omega)) hi)
  have hkl := freeD_lt _ _ _ hk
  refine ⟨l.set k ⟨key, h⟩, ?_, ?_⟩
  · unfold putC freeC
    rw [hk]
    simp only
    rw [List.getElem?_eq_getElem hkl]
    simp only
    exact if_neg (fun hh => by have := hh.1; omega)
  · have := noneN_set l k ⟨key, h⟩ l.length
    rw [List.length_set]
    split at this <;> omega
/-- How far a table that has just grown has been moved. -/
structure Grw (l o : List Ce) (m n : Nat) : Prop where
  l1 : l.length = 2 * n
  o1 : o.length = n
  mn : m ≤ n
  no : 2 * n ≤ noneN l l.length + m
theorem Grw.start {l : List Ce} : Grw (List.replicate (2 * l.length) nC) l 0 l.length :=
  ⟨by rw [List.length_replicate], rfl, by omega, by rw [List.length_replicate, noneN_rep _ _ (Nat.le_refl _)]; omega⟩
theorem Grw.moves : ∀ (s : Nat) {l o : List Ce} {m n : Nat}, Grw l o m n → Grw (moveS l o m s).1 (moveS l o m s).2.1 (moveS l o m s).2.2 n ∧ (moveS l o m s).2.2 = (if m + s ≤ n then m + s else n)
  | 0, l, o, m, n, h => ⟨h, by rw [if_pos (by have := h.mn; omega)]; rfl⟩
  | s + 1, l, o, m, n, h => by
    rw [moveS]
    cases hx : o[m]? with
    | none =>
      have hm : n ≤ m := by
        have := List.getElem?_eq_none_iff.1 hx
        rw [h.o1] at this
        exact this
      have := h.mn
      exact ⟨h, by rw [if_neg (by omega)]; simp only; omega⟩
    | some x =>
      have hm : m < n := by have := (List.getElem?_eq_some_iff.1 hx).1; rw [h.o1] at this; exact this
      simp only
      by_cases hk : x.key.toList = []
      · rw [if_pos hk]
        have h' : Grw l (o.set m gC) (m + 1) n := ⟨h.l1, by rw [List.length_set]; exact h.o1, by omega, by have := h.no; omega⟩
        obtain ⟨r1, r2⟩ := Grw.moves s h'
        refine ⟨r1, ?_⟩
        rw [r2, show m + 1 + s = m + (s + 1) by omega]
      · rw [if_neg hk]
        obtain ⟨l', hp, hn⟩ := putC_some (l := l) (by have := h.no; omega) x.key x.h
        rw [hp]
        simp only
        have h' : Grw l' (o.set m gC) (m + 1) n := ⟨by rw [putC_length hp]; exact h.l1, by rw [List.length_set]; exact h.o1, by omega, by have := h.no; omega⟩
        obtain ⟨r1, r2⟩ := Grw.moves s h'
        refine ⟨r1, ?_⟩
        rw [r2, show m + 1 + s = m + (s + 1) by omega]
/-- A round of moving: all are moved, or some more. -/
theorem Grw.moveR {l o : List Ce} {m n : Nat} (h : Grw l o m n) (s : Nat) : (moveR l o m s).1.length = 2 * n ∧ ((moveR l o m s).2.1 = [] ∧ (moveR l o m s).2.2 = 0 ∨ Grw (moveR l o m s).1 (moveR l o m s).2.1 (moveR l o m s).2.2 n ∧ m + s = (moveR l o m s).2.2 ∧ m + s < n) := by
  obtain ⟨r1, r2⟩ := Grw.moves s h
  unfold Go.Proofs.Ytinjohpeanlalaa.moveR
  by_cases e : (moveS l o m s).2.2 = o.length
  · rw [if_pos e]
    exact ⟨r1.l1, .inl ⟨rfl, rfl⟩⟩
  · rw [if_neg e]
    rw [h.o1] at e
    refine ⟨r1.l1, .inr ⟨r1, ?_, ?_⟩⟩
    · split at r2 <;> omega
    · split at r2 <;> omega

/-- The program's way of moving is the plain one, at a right table. -/
theorem moveI_S : ∀ (s : Nat) {l o : List Ce} {m : Nat}, OkN l o (m : Int) → moveI l o m s = moveS l o m s
  | 0, _, _, _, _ => rfl
  | s + 1, l, o, m, H => by
    rw [moveI, moveS]
    cases hx : o[m]? with
    | none => rfl
    | some x =>
      simp only
      by_cases hk : x.key.toList = []
      · have e : stepM l x = some l := by unfold stepM; rw [if_pos hk]
        rw [e, if_pos hk]
        exact moveI_S s (H.next (List.getElem?_eq_some_iff.1 hx).1)
      · have e1 : (srchC l x.key).1 = none := by
          rw [srchC_seek H.l1.1 hk]
          exact seek_none fun j y hy e => H.apart m j x y hx hy hk e.symm
        have e : stepM l x = putC l x.key x.h := by unfold stepM; rw [if_neg hk, layC_put H.l1.1 e1]
        rw [e, if_neg hk]
        cases hp : putC l x.key x.h with
        | none => rfl
        | some l' => exact moveI_S s (H.nextPut hx hk hp)
theorem endI_R {l o : List Ce} {m : Nat} (H : OkN l o (m : Int)) (s : Nat) : endI l o m s = moveR l o m s := by
  unfold endI moveR
  rw [moveI_S s H]
theorem moveI_c {w w' : World} {A ca ca' m : Nat} {ao a' : Option Addr} {l o : List Ce} (h : OneT2 w A ao l ca a' o ca' (m : Int)) (s : Nat) (h1 : 1 ≤ s) (h2 : s ≤ 1000) (hb : Below w.heap.size w w') :
    Calls Try.prog 20 #[.agg #[.slice ao l.length ca, .slice a' o.length ca', .int .i64 (m : Int)], .int .i64 (s : Int)] w' fun e w'' => ∃ (b c b' c' : Nat), e = .returned (.agg #[.slice (some ⟨b, 0, none⟩) (moveR l o m s).1.length c, .slice (some ⟨b', 0, none⟩) (moveR l o m s).2.1.length c', .int .i64 ((moveR l o m s).2.2 : Int)]) ∧ w''.ownsRow w'.heap.size 47 2 (.slice (some ⟨b, 0, none⟩) (moveR l o m s).1.length c) (moveR l o m s).1.length (ces (moveR l o m s).1) ∧ w''.ownsRow w'.heap.size 47 2 (.slice (some ⟨b', 0, none⟩) (moveR l o m s).2.1.length c') (moveR l o m s).2.1.length (ces (moveR l o m s).2.1) ∧ Below w'.heap.size w' w'' := by
  refine (implMove_any ao a' l o ca ca' m s w' h1 h2 (okN_iff.2 h.ok) ?_ (h.rd.later hb).toJ (h.rd'.later hb).toJ).mono ?_
  · intro c hc
    obtain ⟨i, hi, e⟩ := List.mem_iff_getElem.1 hc
    have := h.ok.o1.1 i hi
    rw [e] at this
    rcases this with f | f
    · have hz : c.key = ⟨#[]⟩ := bytes_eq (by rw [f.1]; exact gC_key.symm)
      rw [hz]; decide
    · omega
  · rintro e w'' ⟨v, rfl, b, c, b', c', rfl, o1, o2, _, hb2⟩
    rw [endI_R h.ok] at o1 o2 ⊢
    exact ⟨b, c, b', c', rfl, o1, o2, hb2⟩
theorem growI_c {w w' : World} {A ca ca' : Nat} {m : Int} {ao a' : Option Addr} {l o : List Ce} (h : OneT2 w A ao l ca a' o ca' m) (hb : Below w.heap.size w w') :
    Calls Try.prog 21 #[.agg #[.slice ao l.length ca, .slice a' o.length ca', .int .i64 m]] w' fun e w'' => MadeT w' w'' e (growOk l o m) (growR l) := by
  have hs := h.small
  exact implGrow_any ao a' l o ca ca' m w' (by omega) (by omega) (h.rd.later hb).toJ (h.rd'.later hb).toJ
/-- Two right tables with the same entries. -/
theorem key_both {l o X Y : List Ce} {mv M : Int} (h : OkN l o mv) (hX : OkN X Y M) (he : ∀ z, z.toList ≠ [] → ∀ x, Ent X Y z x ↔ Ent l o z x) {i : Nat} (hi : i < (keysL (sortE (entT l o))).length) :
    (keysL (sortE (entT l o)))[i].toList ≠ [] ∧ (keysL (sortE (entT l o)))[i].size ≤ 12 ∧ skB (seekT X Y (keysL (sortE (entT l o)))[i]) = true ∧ seekT X Y (keysL (sortE (entT l o)))[i] = seekT l o (keysL (sortE (entT l o)))[i] := by
  have hT := okN_iff.2 h
  have hm := List.getElem_mem hi
  generalize (keysL (sortE (entT l o)))[i] = z at *
  obtain ⟨c, hc, e⟩ := List.mem_map.1 hm
  have hc := (sortE_asc (dis_ent hT)).2.mem_iff.1 hc
  obtain ⟨e1, e2, e3⟩ := ent_seek hT hc
  rw [e] at e1 e2 e3
  have e4 := seekT_same h hX e2 (he z e2)
  exact ⟨e2, e3, by rw [e4, e1]; rfl, e4⟩
end Go.Proofs.Ytinjohpeanlalaa
