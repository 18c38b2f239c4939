/- Cleaned tables, plain: the same entries, none gone; lists of keys that are the same. -/
import Derived.Test.YtinjohpeanlalaaLawP
import Derived.Test.YtinjohpeanlalaaTabC1
namespace Go.Proofs.Ytinjohpeanlalaa
open Go.RowKit

theorem mem_ent {l o : List Ce} {c : Ce} : c ∈ entT l o ↔ (c ∈ l ∨ c ∈ o) ∧ c.key.toList ≠ [] := by
  unfold entT keyed
  rw [List.mem_append, List.mem_filter, List.mem_filter]
  have e : (!c.key.toList.isEmpty) = true ↔ c.key.toList ≠ [] := by cases c.key.toList <;> simp
  rw [e]
  constructor
  · rintro (⟨h1, h2⟩ | ⟨h1, h2⟩)
    · exact ⟨.inl h1, h2⟩
    · exact ⟨.inr h1, h2⟩
  · rintro ⟨h1 | h1, h2⟩
    · exact .inl ⟨h1, h2⟩
    · exact .inr ⟨h1, h2⟩
theorem ent_mem {l o : List Ce} {key : ByteArray} (hk : key.toList ≠ []) {x : Int} : Ent l o key x ↔ ∃ e, e ∈ entT l o ∧ e.key = key ∧ e.h = x := by
  constructor
  · rintro ⟨c, h1, h2, h3⟩
    exact ⟨c, mem_ent.2 ⟨h1, by rw [h2]; exact hk⟩, h2, h3⟩
  · rintro ⟨c, h1, h2, h3⟩
    exact ⟨c, (mem_ent.1 h1).1, h2, h3⟩
/-- Strictly ascending lists with the same members are the same. -/
theorem asc_uniq : ∀ (a b : List ByteArray), a.Pairwise (fun x y => kLt x y = true) → b.Pairwise (fun x y => kLt x y = true) → (∀ z, z ∈ a ↔ z ∈ b) → a = b
  | [], [], _, _, _ => rfl
  | [], y :: b, _, _, h => absurd ((h y).2 (List.mem_cons_self ..)) (by simp)
  | x :: a, [], _, _, h => absurd ((h x).1 (List.mem_cons_self ..)) (by simp)
  | x :: a, y :: b, ha, hb, h => by
    rw [List.pairwise_cons] at ha hb
    have exy : x = y := by
      rcases List.mem_cons.1 ((h x).1 (List.mem_cons_self ..)) with e | e
      · exact e
      · rcases List.mem_cons.1 ((h y).2 (List.mem_cons_self ..)) with e2 | e2
        · exact e2.symm
        · have h1 := ha.1 y e2
          have h2 := hb.1 x e
          rw [kLt_asymm h1] at h2
          cases h2
    subst exy
    rw [asc_uniq a b ha.2 hb.2 fun z => ?_]
    have hz := h z
    rw [List.mem_cons, List.mem_cons] at hz
    constructor
    · intro hm
      rcases hz.1 (.inr hm) with e | e
      · subst e
        have := ha.1 z hm
        rw [kLt_irr] at this
        cases this
      · exact e
    · intro hm
      rcases hz.2 (.inr hm) with e | e
      · subst e
        have := hb.1 z hm
        rw [kLt_irr] at this
        cases this
      · exact e
theorem keys_asc {l o : List Ce} {mv : Int} (h : OkT l o mv) : (keysL (sortE (entT l o))).Pairwise (fun x y => kLt x y = true) := by
  unfold keysL
  rw [List.pairwise_map]
  exact (sortE_asc (dis_ent h)).1
theorem keys_mem {l o : List Ce} {mv : Int} (h : OkT l o mv) {z : ByteArray} : z ∈ keysL (sortE (entT l o)) ↔ z.toList ≠ [] ∧ ∃ x, Ent l o z x := by
  constructor
  · intro hm
    obtain ⟨c, hc, e⟩ := List.mem_map.1 hm
    have hc := (sortE_asc (dis_ent h)).2.mem_iff.1 hc
    have := mem_ent.1 hc
    have hz : z.toList ≠ [] := by rw [← e]; exact this.2
    exact ⟨hz, c.h, (ent_mem hz).2 ⟨c, hc, e, rfl⟩⟩
  · rintro ⟨hz, x, hx⟩
    obtain ⟨c, hc, e, _⟩ := (ent_mem hz).1 hx
    exact List.mem_map.2 ⟨c, (sortE_asc (dis_ent h)).2.mem_iff.2 hc, e⟩
/-- Tables with the same entries have the same list of keys. -/
theorem keys_same {l o L O : List Ce} {mv M : Int} (h : OkN l o mv) (H : OkN L O M) (he : ∀ z, z.toList ≠ [] → ∀ x, Ent L O z x ↔ Ent l o z x) : keysL (sortE (entT L O)) = keysL (sortE (entT l o)) := by
  have h1 := okN_iff.2 h
  have h2 := okN_iff.2 H
  refine asc_uniq _ _ (keys_asc h2) (keys_asc h1) fun z => ?_
  rw [keys_mem h1, keys_mem h2]
  constructor
  · rintro ⟨hz, x, hx⟩; exact ⟨hz, x, (he z hz x).1 hx⟩
  · rintro ⟨hz, x, hx⟩; exact ⟨hz, x, (he z hz x).2 hx⟩
/-- What the keys laid one by one leave. -/
theorem putAll_ok : ∀ (E Y X : List Ce), OkN Y [] 0 → (∀ c ∈ Y, c.h ≠ -2) → Dis E → (∀ e ∈ E, e.key.toList ≠ [] ∧ e.key.size ≤ 12 ∧ 0 ≤ e.h) → (∀ e ∈ E, ∀ (i : Nat) (x : Ce), Y[i]? = some x → x.key ≠ e.key) → putAll E Y = some X →
    OkN X [] 0 ∧ (∀ c ∈ X, c.h ≠ -2) ∧ X.length = Y.length ∧ ∀ z, z.toList ≠ [] → ∀ x, Ent X [] z x ↔ Ent Y [] z x ∨ ∃ e, e ∈ E ∧ e.key = z ∧ e.h = x
  | [], Y, X, hY, hg, _, _, _, e => by
    rw [putAll] at e
    injection e with e
    subst e
    exact ⟨hY, hg, rfl, fun z _ x => ⟨.inl, fun h => h.resolve_right (fun ⟨e, he, _⟩ => by cases he)⟩⟩
  | c :: E, Y, X, hY, hg, hd, hf, hn, e => by
    rw [putAll] at e
    cases hp : putC Y c.key c.h with
    | none => rw [hp] at e; cases e
    | some Z =>
      rw [hp] at e
      simp only at e
      have hc := hf c (List.mem_cons_self ..)
      have hcn := hn c (List.mem_cons_self ..)
      have hZ : OkN Z [] 0 := hY.putL hc.1 hc.2.1 hc.2.2 hcn (fun i x hx => by simp at hx) hp
      obtain ⟨_, _, k, hk, x0, hx0, hx00⟩ := put_right hY.l1 hY.l2 hc.1 hc.2.1 hc.2.2 hcn hp
      have hi := (List.getElem?_eq_some_iff.1 hx0).1
      have hd2 := List.pairwise_cons.1 hd
      have hgZ : ∀ d ∈ Z, d.h ≠ -2 := by
        intro d hm
        rw [hk] at hm
        obtain ⟨i, hil, e2⟩ := List.mem_iff_getElem.1 hm
        rcases set_at (show (Y.set k ⟨c.key, c.h⟩)[i]? = some d by rw [List.getElem?_eq_getElem hil, e2]) with ⟨_, e3⟩ | ⟨_, hx⟩
        · rw [e3]; have := hc.2.2; show c.h ≠ -2; omega
        · exact hg d (List.mem_of_getElem? hx)
      have hnZ : ∀ e ∈ E, ∀ (i : Nat) (x : Ce), Z[i]? = some x → x.key ≠ e.key := by
        intro e2 he2 i x hx
        rw [hk] at hx
        rcases set_at hx with ⟨_, e3⟩ | ⟨_, hx⟩
        · rw [e3]; exact hd2.1 e2 he2
        · exact hn e2 (List.mem_cons_of_mem _ he2) i x hx
      obtain ⟨r1, r2, r3, r4⟩ := putAll_ok E Z X hZ hgZ hd2.2 (fun e he => hf e (List.mem_cons_of_mem _ he)) hnZ e
      refine ⟨r1, r2, by rw [r3, hk, List.length_set], fun z hz x => ?_⟩
      rw [r4 z hz x]
      have hZY : Ent Z [] z x ↔ Ent Y [] z x ∨ (c.key = z ∧ c.h = x) := by
        by_cases hcz : c.key = z
        · constructor
          · rintro ⟨d, hd | hd, e1, e2⟩
            · rw [hk] at hd
              obtain ⟨i, hil, e3⟩ := List.mem_iff_getElem.1 hd
              rcases set_at (show (Y.set k ⟨c.key, c.h⟩)[i]? = some d by rw [List.getElem?_eq_getElem hil, e3]) with ⟨_, e4⟩ | ⟨_, hx⟩
              · rw [e4] at e2; exact .inr ⟨hcz, e2⟩
              · exact .inl ⟨d, .inl (List.mem_of_getElem? hx), e1, e2⟩
            · cases hd
          · rintro (⟨d, hd | hd, e1, e2⟩ | ⟨_, e2⟩)
            · obtain ⟨i, hil, e3⟩ := List.mem_iff_getElem.1 hd
              exact absurd (by rw [e1, hcz]) (hcn i d (by rw [List.getElem?_eq_getElem hil, e3]))
            · cases hd
            · refine ⟨⟨c.key, c.h⟩, .inl ?_, hcz, e2⟩
              rw [hk]
              exact List.mem_of_getElem? (show (Y.set k ⟨c.key, c.h⟩)[k]? = some _ by rw [List.getElem?_set_self hi])
        · rw [ent_or, ent_or, hk, mem_set hx0 (fun e => hz (by rw [← e]; exact hx00)) hcz]
          constructor
          · exact fun h => .inl h
          · rintro (h | ⟨h, _⟩)
            · exact h
            · exact absurd h hcz
      rw [hZY]
      constructor
      · rintro ((h | ⟨h1, h2⟩) | ⟨e, he, h1, h2⟩)
        · exact .inl h
        · exact .inr ⟨c, List.mem_cons_self .., h1, h2⟩
        · exact .inr ⟨e, List.mem_cons_of_mem _ he, h1, h2⟩
      · rintro (h | ⟨e, he, h1, h2⟩)
        · exact .inl (.inl h)
        · rcases List.mem_cons.1 he with e3 | he
          · rw [e3] at h1 h2; exact .inl (.inr ⟨h1, h2⟩)
          · exact .inr ⟨e, he, h1, h2⟩
/-- A right table that is cleaned. -/
theorem clean_ok {l o X O : List Ce} {mv M : Int} (h : OkN l o mv) (e : cleanR l o = some (X, O, M)) : O = [] ∧ M = 0 ∧ OkN X [] 0 ∧ (∀ c ∈ X, c.h ≠ -2) ∧ X.length = l.length ∧ ∀ z, z.toList ≠ [] → ∀ x, Ent X [] z x ↔ Ent l o z x := by
  have hT := okN_iff.2 h
  have hp := (sortE_asc (dis_ent hT)).2
  unfold cleanR at e
  cases hpa : putAll (sortE (entT l o)) (List.replicate l.length nC) with
  | none => rw [hpa] at e; cases e
  | some Y =>
    rw [hpa] at e
    injection e with e
    injection e with e1 e2
    injection e2 with e2 e3
    subst e1
    have hne : ∀ c ∈ sortE (entT l o), ∀ (i : Nat) (x : Ce), (List.replicate l.length nC)[i]? = some x → x.key ≠ c.key := fun c hc i x hx e => by
      have := (mem_ent.1 (hp.mem_iff.1 hc)).2
      rw [← e, rep_at hx] at this
      exact this nC_no
    obtain ⟨r1, r2, r3, r4⟩ := putAll_ok (sortE (entT l o)) (List.replicate l.length nC) Y (OkN.new h.size) (fun c hc => by rw [List.eq_of_mem_replicate hc]; show (-1 : Int) ≠ -2; omega) (dis_sort (dis_ent hT)) (fun c hc => by
      obtain ⟨i, hi, e⟩ := List.mem_iff_getElem.1 hc
      have := ent_fit hT hi
      rw [e] at this
      exact this) hne hpa
    refine ⟨e2.symm, e3.symm, r1, r2, by rw [r3, List.length_replicate], fun z hz x => ?_⟩
    rw [r4 z hz x, ent_mem (l := l) (o := o) hz]
    constructor
    · rintro (⟨d, hd | hd, e1, _⟩ | ⟨c, hc, e1, e2⟩)
      · rw [List.eq_of_mem_replicate hd] at e1
        exact absurd (by rw [← e1]; exact nC_no) hz
      · cases hd
      · exact ⟨c, hp.mem_iff.1 hc, e1, e2⟩
    · rintro ⟨c, hc, e1, e2⟩
      exact .inr ⟨c, hp.mem_iff.2 hc, e1, e2⟩

/-- Texts in memory. -/
def WdT (w : World) (lo : Option Addr) (ks : List ByteArray) : Prop := ∀ j (hj : j < ks.length), ∃ g, lo = some ⟨g, 0, none⟩ ∧ g < w.heap.size ∧ w.cell? ⟨g, j, none⟩ = some (.string ks[j])
theorem WdT.later {w w' : World} {lo : Option Addr} {ks : List ByteArray} (h : WdT w lo ks) (hb : Below w.heap.size w w') : WdT w' lo ks := by
  intro j hj
  obtain ⟨g, h1, h2, h3⟩ := h j hj
  exact ⟨g, h1, Nat.lt_of_lt_of_le h2 hb.size, (hb.cell (p := ⟨g, j, none⟩) h2).trans h3⟩
theorem wdT_own {w : World} {base n ca : Nat} {lo : Option Addr} {ks : List ByteArray} (h : w.ownsRow base 9 1 (.slice lo n ca) n (sc ks)) : WdT w lo ks := by
  intro j hj
  have hn : ks.length = n := by have := h.1; simp only [sc, List.length_map] at this; omega
  rcases h.2 with ⟨hv, h0⟩ | ⟨g, cap, cur, hv, hb, hh, r⟩
  · omega
  · injection hv with h1 h2 h3
    subst h1
    refine ⟨g, rfl, (Array.getElem?_eq_some_iff.1 hh).1, ?_⟩
    rw [h.cellAt j (by omega)]
    unfold sc
    rw [List.getElem?_map, List.getElem?_eq_getElem hj]
    rfl
theorem len_small {l o : List Ce} {mv : Int} (h : OkT l o mv) : (keysL (sortE (entT l o))).length ≤ 128 := by
  have := h.len
  unfold keysL
  rw [List.length_map, (sortE_asc (dis_ent h)).2.length_eq]
  unfold entT keyed
  rw [List.length_append]
  have h1 := List.length_filter_le (fun x : Ce => !x.key.toList.isEmpty) l
  have h2 := List.length_filter_le (fun x : Ce => !x.key.toList.isEmpty) o
  omega

set_option maxRecDepth 100000 in
set_option maxHeartbeats 1000000 in
theorem sameT_any (ao bo : Option Addr) (ks : List ByteArray) (ca cb : Nat) (w : World) (hn : ks.length ≤ 1048576) (hA : WdT w ao ks) (hB : WdT w bo ks) :
    Calls Try.prog 24 #[.slice ao ks.length ca, .slice bo ks.length cb] w fun e w' => e = .returned (.bool true) ∧ Below w.heap.size w w' := by
  have HA := hide1 hA
  have HB := hide1 hB
  clear hA hB
  have q1 : (((ks.length : Int)) != (ks.length : Int)) = false := by simp
  go_enter Try.func24, Try.ntmps24
  go_wp2
  go_loopw [5] (fun iv wr => ∃ i : Nat, i ≤ ks.length ∧ iv = .int .i64 (i : Int) ∧ Below w.heap.size w wr) (fun iv _ => ks.length - (intOf iv).toNat)
  case atStart => exact ⟨0, by omega, rfl, Below.refl _ _⟩
  case round =>
    obtain ⟨i, hi, rfl, hbel⟩ := hrel
    by_cases hlt : i < ks.length
    · obtain ⟨ga, rfl, hga, hca⟩ := HA.out i hlt
      obtain ⟨gb, rfl, hgb, hcb⟩ := HB.out i hlt
      have x1 := (hbel.cell (p := ⟨ga, i, none⟩) hga).trans hca
      have x2 := (hbel.cell (p := ⟨gb, i, none⟩) hgb).trans hcb
      clear hca hcb
      have k1 : (i : Int) < (ks.length : Int) := by omega
      generalize ks[i] = z at x1 x2
      go_wp2_with fail
      go_quiet (fail)
      go_wp2
      go_roundw
      case rel => exact ⟨i + 1, by omega, by go_num, below_drewN hbel _⟩
      case measure => simp [intOf]; omega
    · go_wp2
      go_ret
      exact ⟨rfl, hbel⟩

theorem keyI {w w' : World} {A ca ca' : Nat} {ao a' : Option Addr} {l o : List Ce} {m : Int} (h : OneT2 w A ao l ca a' o ca' m) (hb : Below w.heap.size w w') :
    Calls Try.prog 23 #[.agg #[.slice ao l.length ca, .slice a' o.length ca', .int .i64 m]] w' fun e w'' => ∃ po pc, e = .returned (.slice po (keysL (sortE (entT l o))).length pc) ∧ WdT w'' po (keysL (sortE (entT l o))) ∧ Below w'.heap.size w' w'' := by
  have hs := h.small
  refine (implKeys_any ao a' l o ca ca' m w' (by omega) (by omega) (h.rd.later hb).toJ (h.rd'.later hb).toJ).mono ?_
  rintro e w'' ⟨po, ks, pc, rfl, hk, ho, hb2⟩
  rcases hk with ⟨_, rfl⟩ | ⟨hn, _⟩
  · exact ⟨po, pc, rfl, wdT_own ho, hb2⟩
  · exact absurd (okN_iff.2 h.ok) hn
theorem keyS {w w' : World} {A ca ca' : Nat} {ao a' : Option Addr} {l o : List Ce} {m : Int} (h : OneT2 w A ao l ca a' o ca' m) (hb : Below w.heap.size w w') :
    Calls Try.prog 27 #[.agg #[.slice ao l.length ca, .slice a' o.length ca', .int .i64 m]] w' fun e w'' => ∃ po pc, e = .returned (.slice po (keysL (sortE (entT l o))).length pc) ∧ WdT w'' po (keysL (sortE (entT l o))) ∧ Below w'.heap.size w' w'' := by
  have hs := h.small
  refine (specKeys_any ao a' l o ca ca' m w' (by omega) (by omega) (h.rd.later hb) (h.rd'.later hb)).mono ?_
  rintro e w'' ⟨po, ks, pc, rfl, hk, ho, hb2⟩
  rcases hk with ⟨_, rfl⟩ | ⟨hn, _⟩
  · exact ⟨po, pc, rfl, wdT_own ho, hb2⟩
  · exact absurd (okN_iff.2 h.ok) hn
end Go.Proofs.Ytinjohpeanlalaa
