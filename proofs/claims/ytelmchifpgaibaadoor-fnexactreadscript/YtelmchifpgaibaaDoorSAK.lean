/- Members, plain: what they begin, adopt and seal. -/
import Derived.Test.YtelmchifpgaibaaDoorSAJ
import Derived.Test.YtelmchifpgaibaaDoorSAA
namespace Go.Proofs.YtelmchifpgaibaaDoor
open Go.RowKit
set_option linter.unusedVariables false

theorem oth_perm {v : List Int} (h : okView v) (id : Int) : (othV v id).Perm (wthV v id) := by
  have n1 : (othV v id).Nodup := List.Pairwise.filter _ (by decide)
  have n2 : (wthV v id).Nodup := List.Pairwise.filter _ h.2.2
  rw [List.perm_ext_iff_of_nodup n1 n2]
  intro x
  unfold othV wthV
  rw [List.mem_filter, List.mem_filter]
  constructor
  · rintro ⟨_, h2⟩
    simp at h2
    exact ⟨h2.2, by simpa using h2.1⟩
  · rintro ⟨h1, h2⟩
    have hx := h.2.1 x h1
    refine ⟨?_, by simp at h2; simp [h1, h2]⟩
    have : x = 1 ∨ x = 2 ∨ x = 3 ∨ x = 4 ∨ x = 5 ∨ x = 6 := by omega
    simpa using this
theorem oth_len {v : List Int} (h : okView v) (id : Int) : (othV v id).length = (wthV v id).length := (oth_perm h id).length_eq
theorem wth_no {l : List Int} {x : Int} (h : x ∉ l) : wthV l x = l := by
  unfold wthV
  rw [List.filter_eq_self]
  intro y hy
  simp
  intro e
  exact h (e ▸ hy)
theorem head_of {v : List Int} {id : Int} (h : okView v) (hd : v.headD 0 = id) : ∃ t, v = id :: t ∧ wthV v id = t := by
  cases v with
  | nil => exact absurd h.1.1 (by simp)
  | cons y t =>
    have hd : y = id := hd
    subst hd
    have hn := h.2.2
    rw [List.nodup_cons] at hn
    refine ⟨t, rfl, ?_⟩
    unfold wthV
    rw [List.filter_cons, if_neg (by simp)]
    exact wth_no hn.1
theorem oth_nil {v : List Int} {id : Int} (h : okView v) (hd : v.headD 0 = id) : othV v id = [] ↔ v.length = 1 := by
  obtain ⟨t, rfl, ht⟩ := head_of h hd
  have h1 := oth_len h id
  rw [ht] at h1
  constructor
  · intro e
    rw [e] at h1
    simp at h1 ⊢
    exact List.eq_nil_of_length_eq_zero (by omega)
  · intro e
    simp at e
    subst e
    exact List.eq_nil_of_length_eq_zero h1
theorem ado_ok {m : Mb} {vs : List (List Int)} {e : Int} (h : adoR m vs e) : okMb (adoM m vs e).1 ∧ (adoM m vs e).1.le = true ∧ (adoM m vs e).1.ep = e ∧ (adoM m vs e).1.id = m.id ∧ ((adoM m vs e).1.se = true → (vwA vs e).length = 1) ∧ ((adoM m vs e).1.ba = true → m.ep = e - 1 ∧ m.ba = true) ∧ (∀ t ∈ (adoM m vs e).2, okMs t ∧ ((adoM m vs e).1.ba = decide (t.k = 3)) ∧ t.o ≠ m.id ∧ t.f = m.id ∧ t.e = e) := by
  obtain ⟨hm, hv, he, hlt, hd⟩ := h
  obtain ⟨h1, h2, h3, h4, h5, h6, h7, h8, h9⟩ := hm
  have he9 : 1 ≤ e ∧ e ≤ 9 := by have := hv.2.2; omega
  have hled : okMb (ledM m e) := ok_plain h1 he9 (fun e => by cases e) (fun e => by cases e) nil_ids h7 (by decide)
  have hvw := view_ok hv (e := e) (by omega) (by omega)
  unfold adoM
  split
  · rename_i c
    obtain ⟨a1, a2⟩ := has_ok (m := ledM m e) (v := vwA vs e) hled (view_in hv e) rfl (.inr rfl) h7
    refine ⟨a1, rfl, rfl, rfl, fun hs => ?_, fun _ => ⟨c.2.1, c.1⟩, fun t ht => ⟨(a2 t ht).1, ?_, (a2 t ht).2.2.2.2, (a2 t ht).2.1, (a2 t ht).2.2.1⟩⟩
    · have hs : decide (othV (vwA vs e) m.id = []) = true := hs
      rw [decide_eq_true_eq] at hs
      exact (oth_nil hvw hd).1 hs
    · rw [(a2 t ht).2.2.2.1]
      rfl
  · refine ⟨hled, rfl, rfl, rfl, (fun hs => by cases hs), (fun hb => by cases hb), fun t ht => ?_⟩
    obtain ⟨y, hy, rfl⟩ := List.mem_map.1 ht
    have hy2 := List.mem_filter.1 hy
    exact ⟨ok_ms (by decide) h1 (view_in hv _ y hy2.1) he9 (by decide) nil_oks (many_none (.inl rfl)), rfl, by simpa using hy2.2, rfl, rfl⟩
theorem beg_m {m : Mb} {vs : List (List Int)} {op cl : Int} {key val : ByteArray} (h : begR m vs op cl key val) : okMb (begM m vs op cl key val) := by
  obtain ⟨hm, hv, hs, ht, hc, ho, hcl, hk, hvl, _, _, _⟩ := h
  obtain ⟨h1, h2, h3, h4, h5, h6, h7, h8, h9⟩ := hm
  exact ⟨h1, h2, h3, h4, h5, oth_ids _ _, h7, (show 0 ≤ m.cn + 1 ∧ m.cn + 1 ≤ 900 by omega), .inr ⟨ho, hs, hcl, (show 1 ≤ m.cn + 1 ∧ m.cn + 1 ≤ 900 by omega)⟩⟩
theorem beg_ok {m : Mb} {vs : List (List Int)} {op cl : Int} {key val : ByteArray} (h : begB m vs op cl key val) : okMb (begin_ m vs op cl key val).1 ∧ (begin_ m vs op cl key val).1.id = m.id ∧ (begin_ m vs op cl key val).1.ep = m.ep := by
  unfold begin_
  rw [if_pos h]
  have hb := beg_m h.1
  split
  · obtain ⟨f1, f2, f3, _⟩ := fin_ok hb
    exact ⟨f1, f2, f3⟩
  · exact ⟨hb, rfl, rfl⟩
/-- What is asked, of others alone. -/
theorem ask_ok {m : Mb} {vs : List (List Int)} {op cl : Int} {key val : ByteArray} (h : begR m vs op cl key val) : ∀ t ∈ askM m vs op key val, t.o ∈ vwA vs m.ep ∧ t.f = m.id ∧ t.e = m.ep ∧ (1 ≤ t.o ∧ t.o ≤ 6) ∧ (op = 1 → t.k = 5 ∧ t.is = [begI m key val]) := by
  intro t ht
  obtain ⟨y, hy, rfl⟩ := List.mem_map.1 ht
  have hy2 := List.mem_filter.1 hy
  have hy3 := view_in h.2.1 _ y hy2.1
  by_cases c : op = 1
  · rw [if_pos c]
    exact ⟨hy2.1, rfl, rfl, hy3, fun _ => ⟨rfl, rfl⟩⟩
  · rw [if_neg c]
    exact ⟨hy2.1, rfl, rfl, hy3, fun e => absurd e c⟩
theorem ask_len {m : Mb} {vs : List (List Int)} {op cl : Int} {key val : ByteArray} (h : begR m vs op cl key val) : (askM m vs op key val).length + 1 = (vwA vs m.ep).length ∧ (othV (vwA vs m.ep) m.id).length + 1 = (vwA vs m.ep).length := by
  obtain ⟨hm, hv, _, _, _, _, _, _, _, _, hl, hd⟩ := h
  have hvw := view_ok hv hm.2.1.1 hl
  obtain ⟨t, ht, hw⟩ := head_of hvw hd
  have h2 := oth_len hvw m.id
  have h3 : (askM m vs op key val).length = (wthV (vwA vs m.ep) m.id).length := by unfold askM; rw [List.length_map]
  rw [hw] at h2 h3
  have h4 : (vwA vs m.ep).length = t.length + 1 := by rw [ht]; rfl
  omega
theorem beg_busy {m : Mb} {vs : List (List Int)} {op cl op2 cl2 : Int} {key val key2 val2 : ByteArray} (ho : op = 1 ∨ op = 2) : (begin_ (begM m vs op cl key val) vs op2 cl2 key2 val2).2.2.2 = false := by
  unfold begin_
  rw [if_neg (fun h => by
    have h1 : op = 0 := h.1.2.2.2.1
    omega)]
theorem seal_hear {m : Mb} {vs : List (List Int)} (h : okMb m) (hv : okViews vs) (hl : m.ep < vs.length) (hb : m.ba = true) (hi : m.id ∈ vwA vs m.ep) : hearM m vs ⟨1, 5, m.id, m.ep + 1, 0, []⟩ = (bareM m (m.ep + 1), [⟨2, m.id, 5, m.ep + 1, 0, m.is⟩], []) := by
  have h9 := hv.2.2
  have h1 := h.2.1
  unfold hearM
  rw [if_pos ⟨h, hv, ok_ms (by decide) (by decide) h.1 (by omega) (by decide) nil_oks (many_none (.inl rfl)), rfl, (by show m.ep ≤ m.ep + 1; omega), (by show m.ep + 1 ≤ _; omega), (by omega)⟩]
  rw [if_neg (by show ¬ m.ep + 1 = m.ep; omega), if_pos ⟨rfl, rfl, hb, hi⟩]
theorem bare_hear {m : Mb} {vs : List (List Int)} (e k : Int) (hk : k = 1 ∨ k = 7) : hearM (bareM m e) vs ⟨k, 5, m.id, e, 0, []⟩ = (bareM m e, [], []) := by
  unfold hearM
  split
  · refine (if_pos rfl).trans ?_
    unfold ownM
    rw [if_neg (by show ¬ k = 2; omega), if_neg (by show ¬ k = 3; omega), if_neg (by show ¬ k = 4; omega), if_neg (by show ¬ k = 5; omega)]
    split
    · rw [if_neg (by show ¬ false = true; decide)]
    · rw [if_neg (by show ¬ (k = 6 ∨ k = 8); omega)]
  · rfl
theorem late_hear {m : Mb} {vs : List (List Int)} {e : Int} (x : Ms) (hx : x.e < e) : hearM (bareM m e) vs x = (bareM m e, [], []) := by
  unfold hearM
  rw [if_neg (fun h => by have h1 : e ≤ x.e := h.2.2.2.2.1; omega)]
theorem bare_begin {m : Mb} {vs : List (List Int)} {e op cl : Int} {key val : ByteArray} : begin_ (bareM m e) vs op cl key val = (zeroMb, [], [], false) := by
  unfold begin_
  rw [if_neg (fun h => by have h1 : false = true := h.1.2.2.1; cases h1)]
end Go.Proofs.YtelmchifpgaibaaDoor
namespace Go.Proofs.YtelmchifpgaibaaDoor

structure Cl where
  op : Int
  key : ByteArray
  val : ByteArray
  wh : Int
  dn : Int
  vr : Int
  ep : Int
  nu : Int
  gt : ByteArray
def zeroCl : Cl := ⟨0, ⟨#[]⟩, ⟨#[]⟩, 0, 0, 0, 0, 0, ⟨#[]⟩⟩
end Go.Proofs.YtelmchifpgaibaaDoor
