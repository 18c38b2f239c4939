/- Members, plain: they stay right. -/
import Derived.Test.YtcahaimefgkmiaaTG
import Derived.Test.YtcahaimefgkmiaaPlain
namespace Go.Proofs.Ytcahaimefgkmiaa
open Go.RowKit
set_option linter.unusedVariables false

theorem oth_ids (v : List Int) (id : Int) : okIds (othV v id) := by
  unfold othV
  exact ⟨fun x hx => (show ∀ x ∈ ([1, 2, 3, 4, 5, 6] : List Int), 1 ≤ x ∧ x ≤ 6 by decide) x (List.mem_filter.1 hx).1, List.Pairwise.filter _ (by decide)⟩
theorem wth_ids {l : List Int} (h : okIds l) (x : Int) : okIds (wthV l x) := ⟨fun y hy => h.1 y (List.mem_filter.1 hy).1, List.Pairwise.filter _ h.2⟩
theorem put_oks {l : List Im} (h : okIms l) (x : Im) : okIms (putI l x) := by
  unfold putI
  split
  · exact h
  · split
    · rename_i h2; exact h2.2
    · exact h
theorem put_grows {l : List Im} (h : okIms l) (x : Im) : ∀ y ∈ l, y.n ≤ (imOf (putI l x) y.k).n := by
  intro y hy
  unfold putI
  split
  · rw [imOf_of h.2.1 hy]; exact Int.le_refl _
  · rename_i hn
    split
    · rename_i h2
      have hn : newI l x = false := by simpa using hn
      by_cases c : y.k = x.k
      · have := newI_no hn y hy c
        rw [c, imOf_of h2.2.2.1 (ins_mem.2 (.inl rfl))]
        omega
      · rw [imOf_of h2.2.2.1 (ins_mem.2 (.inr ⟨hy, c⟩))]; exact Int.le_refl _
    · rw [imOf_of h.2.1 hy]; exact Int.le_refl _
theorem same_grows {l : List Im} (h : okIms l) : ∀ y ∈ l, y.n ≤ (imOf l y.k).n := fun y hy => by rw [imOf_of h.2.1 hy]; exact Int.le_refl _
theorem nil_oks : okIms [] := ⟨fun _ h => by simp at h, List.Pairwise.nil, Nat.zero_le _⟩
theorem nil_ids : okIds [] := ⟨fun _ h => by simp at h, List.Pairwise.nil⟩
theorem zero_tk : noTk zeroTk := ⟨rfl, rfl, rfl, rfl, rfl⟩
/-- A member without a task. -/
theorem ok_plain {i e c : Int} {f b l s : Bool} {wa : List Int} {is : List Im} (h1 : 1 ≤ i ∧ i ≤ 6) (h2 : 1 ≤ e ∧ e ≤ 9) (h3 : s = true → b = true ∧ l = true ∧ wa = []) (h4 : f = true → b = false ∧ l = false) (h5 : okIds wa) (h6 : okIms is) (h7 : 0 ≤ c ∧ c ≤ 900) : okMb ⟨i, e, f, b, l, s, wa, is, c, zeroTk⟩ :=
  ⟨h1, h2, h3, h4, h5, nil_ids, h6, h7, .inl zero_tk⟩
/-- What one has heard. -/
structure HearF (m : Mb) (r : Mb × List Ms × List Sd) : Prop where
  ok : okMb r.1
  id : r.1.id = m.id
  ep : m.ep ≤ r.1.ep
  msg : ∀ t ∈ r.2.1, okMs t ∧ t.f = m.id ∧ t.e = r.1.ep
  ba : r.1.ep = m.ep → m.ba = true → r.1.ba = true ∧ ∀ y ∈ m.is, y.n ≤ (imOf r.1.is y.k).n
theorem hear_same {m : Mb} (h : okMb m) : HearF m (m, [], []) := ⟨h, rfl, Int.le_refl _, fun t ht => by simp at ht, fun _ hb => ⟨hb, same_grows h.2.2.2.2.2.2.1⟩⟩
theorem many_none {k : Int} (h : k = 1 ∨ k = 4 ∨ k = 6 ∨ k = 7 ∨ k = 8) : manyOk k 0 := by
  unfold manyOk
  rw [if_neg (by omega), if_neg (by omega)]
theorem ok_ms {k f o e n : Int} {is : List Im} (h1 : 1 ≤ k ∧ k ≤ 8) (h2 : 1 ≤ f ∧ f ≤ 6) (h3 : 1 ≤ o ∧ o ≤ 6) (h4 : 1 ≤ e ∧ e ≤ 9) (h5 : 0 ≤ n ∧ n ≤ 1000000000) (h6 : okIms is) (h7 : manyOk k is.length) : okMs ⟨k, f, o, e, n, is⟩ := ⟨h1, h2, h3, h4, h5, h6, h7⟩
theorem rep_ok {m : Mb} {x : Ms} {k : Int} (h : okMb m) (hx : okMs x) (hk : k = 4 ∨ k = 6 ∨ k = 8) : ∀ t ∈ repM m x k, okMs t ∧ t.f = m.id ∧ t.e = x.e := by
  intro t ht
  unfold repM at ht
  rw [List.mem_singleton] at ht
  subst ht
  obtain ⟨x1, x2, x3, x4, x5, x6, x7⟩ := hx
  exact ⟨ok_ms (by omega) h.1 x2 x4 x5 nil_oks (many_none (by omega)), rfl, rfl⟩
theorem has_ok {m : Mb} {v : List Int} {is : List Im} (h : okMb m) (hv : ∀ x ∈ v, 1 ≤ x ∧ x ≤ 6) (hl : m.le = true) (hb : m.se = false ∨ m.tk = zeroTk) (hi : okIms is) : okMb (hasM m v is).1 ∧ ∀ t ∈ (hasM m v is).2, okMs t ∧ t.f = m.id ∧ t.e = m.ep ∧ t.k = 3 ∧ t.o ≠ m.id := by
  obtain ⟨h1, h2, h3, h4, h5, h6, h7, h8, h9⟩ := h
  have hfe : m.fe = false := by
    cases e : m.fe with
    | false => rfl
    | true => have := (h4 e).2; rw [hl] at this; cases this
  have htk : noTk m.tk := by
    rcases hb with hb | hb
    · rcases h9 with h9 | h9
      · exact h9
      · have := h9.2.1; rw [hb] at this; cases this
    · rw [hb]; exact zero_tk
  refine ⟨⟨h1, h2, fun hs => ⟨rfl, hl, by simpa [hasM] using hs⟩, fun hf => absurd (show m.fe = true from hf) (by rw [hfe]; decide), oth_ids _ _, h6, hi, h8, .inl htk⟩, ?_⟩
  intro t ht
  obtain ⟨y, hy, rfl⟩ := List.mem_map.1 ht
  have hy2 := List.mem_filter.1 hy
  exact ⟨ok_ms (by decide) h1 (hv y hy2.1) h2 (by decide) hi (by unfold manyOk; rw [if_pos (.inr rfl)]; trivial), rfl, rfl, rfl, by simpa using hy2.2⟩
theorem fin_ok {m : Mb} (h : okMb m) : okMb (finM m).1 ∧ (finM m).1.id = m.id ∧ (finM m).1.ep = m.ep ∧ (finM m).1.ba = m.ba ∧ (∀ y ∈ m.is, y.n ≤ (imOf (finM m).1.is y.k).n) := by
  obtain ⟨h1, h2, h3, h4, h5, h6, h7, h8, h9⟩ := h
  unfold finM
  split
  · exact ⟨⟨h1, h2, h3, h4, h5, nil_ids, put_oks h7 _, h8, .inl zero_tk⟩, rfl, rfl, rfl, put_grows h7 _⟩
  · exact ⟨⟨h1, h2, h3, h4, h5, nil_ids, h7, h8, .inl zero_tk⟩, rfl, rfl, rfl, same_grows h7⟩
theorem own_ok {m : Mb} {v : List Int} {x : Ms} (h : okMb m) (hv : ∀ x ∈ v, 1 ≤ x ∧ x ≤ 6) (hx : okMs x) (he : x.e = m.ep) : HearF m (ownM m v x) := by
  have h' := h
  obtain ⟨h1, h2, h3, h4, h5, h6, h7, h8, h9⟩ := h'
  have hxi := hx.2.2.2.2.2.1
  unfold ownM
  split
  · split
    · rename_i c2
      have hs : m.se = false := by
        cases e : m.se with
        | false => rfl
        | true => have := (h3 e).1; rw [c2.2] at this; cases this
      obtain ⟨a1, a2⟩ := has_ok (is := x.is) h hv c2.1 (.inl hs) hxi
      exact ⟨a1, rfl, Int.le_refl _, fun t ht => ⟨(a2 t ht).1, (a2 t ht).2.1, (a2 t ht).2.2.1⟩, fun _ hb => by rw [c2.2] at hb; cases hb⟩
    · exact hear_same h
  · split
    · split
      · exact hear_same h
      · split
        · rename_i cb
          exact ⟨h, rfl, Int.le_refl _, fun t ht => by have := rep_ok h hx (.inl rfl) t ht; rw [he] at this; exact this, fun _ _ => ⟨cb, same_grows h7⟩⟩
        · rename_i cb
          split
          · exact hear_same h
          · exact ⟨ok_plain h1 h2 (fun e => by cases e) (fun e => by cases e) nil_ids hxi (by decide), rfl, Int.le_refl _, fun t ht => by have := rep_ok h hx (.inl rfl) t ht; rw [he] at this; exact this, fun _ hb => absurd hb cb⟩
    · split
      · split
        · rename_i cl
          have hfe : m.fe = false := by
            cases e : m.fe with
            | false => rfl
            | true => have := (h4 e).2; rw [cl] at this; cases this
          refine ⟨⟨h1, h2, fun hs => ?_, h4, wth_ids h5 _, h6, h7, h8, ?_⟩, rfl, Int.le_refl _, fun t ht => by simp at ht, fun _ hb => ⟨hb, same_grows h7⟩⟩
          · have hs : (m.ba && decide (wthV m.wa x.f = [])) = true := hs
            rw [Bool.and_eq_true, decide_eq_true_eq] at hs
            exact ⟨hs.1, cl, hs.2⟩
          · rcases h9 with h9 | ⟨n1, n2, n3, n4⟩
            · exact .inl h9
            · refine .inr ⟨n1, ?_, n3, n4⟩
              obtain ⟨b1, b2, b3⟩ := h3 n2
              show (m.ba && decide (wthV m.wa x.f = [])) = true
              rw [b1, b3]
              rfl
        · exact hear_same h
      · split
        · split
          · rename_i cb
            exact ⟨⟨h1, h2, h3, h4, h5, h6, put_oks h7 _, h8, h9⟩, rfl, Int.le_refl _, fun t ht => by have := rep_ok h hx (.inr (.inl rfl)) t ht; rw [he] at this; exact this, fun _ _ => ⟨cb, put_grows h7 _⟩⟩
          · exact hear_same h
        · split
          · split
            · rename_i cb
              exact ⟨h, rfl, Int.le_refl _, fun t ht => by have := rep_ok h hx (.inr (.inr rfl)) t ht; rw [he] at this; exact this, fun _ _ => ⟨cb, same_grows h7⟩⟩
            · exact hear_same h
          · split
            · split
              · have hl : okMb (leftM m x.f) := ⟨h1, h2, h3, h4, h5, wth_ids h6 _, h7, h8, by
                  rcases h9 with ⟨n1, n2, n3, n4, n5⟩ | h9
                  · exact .inl ⟨n1, n2, n3, n4, by show wthV m.tk.lf x.f = []; rw [n5]; rfl⟩
                  · exact .inr h9⟩
                split
                · obtain ⟨f1, f2, f3, f4, f5⟩ := fin_ok hl
                  exact ⟨f1, f2, by rw [f3]; exact Int.le_refl _, fun t ht => by simp at ht, fun _ hb => ⟨by rw [f4]; exact hb, f5⟩⟩
                · exact ⟨hl, rfl, Int.le_refl _, fun t ht => by simp at ht, fun _ hb => ⟨hb, same_grows h7⟩⟩
              · exact hear_same h
            · exact hear_same h
theorem view_in {vs : List (List Int)} (h : okViews vs) (e : Int) : ∀ x ∈ vwA vs e, 1 ≤ x ∧ x ≤ 6 := by
  intro x hx
  unfold vwA at hx
  rw [List.getD_eq_getElem?_getD] at hx
  by_cases c : (e - 1).toNat < vs.length
  · rw [List.getElem?_eq_getElem c] at hx
    exact (h.1 _ (List.getElem_mem c)).2.1 x hx
  · rw [List.getElem?_eq_none (by omega)] at hx
    simp at hx
theorem view_ok {vs : List (List Int)} (h : okViews vs) {e : Int} (h1 : 1 ≤ e) (h2 : e ≤ vs.length) : okView (vwA vs e) := by
  unfold vwA
  have c : (e - 1).toNat < vs.length := by omega
  rw [List.getD_eq_getElem?_getD, List.getElem?_eq_getElem c]
  exact h.1 _ (List.getElem_mem c)
theorem hear_ok {m : Mb} {vs : List (List Int)} (x : Ms) (h : okMb m) (hv : okViews vs) : HearF m (hearM m vs x) := by
  unfold hearM
  split
  · rename_i c
    obtain ⟨_, _, hx, _, c4, c5, c6⟩ := c
    obtain ⟨h1, h2, h3, h4, h5, h6, h7, h8, h9⟩ := h
    have h : okMb m := ⟨h1, h2, h3, h4, h5, h6, h7, h8, h9⟩
    have hxe := hx.2.2.2.1
    split
    · rename_i e
      exact own_ok h (view_in hv _) hx e
    · rename_i e
      split
      · refine ⟨ok_plain h1 hxe (fun e => by cases e) (fun e => by cases e) nil_ids h7 (by decide), rfl, c4, fun t ht => ?_, fun e2 => absurd e2 e⟩
        rw [List.mem_singleton] at ht
        subst ht
        exact ⟨ok_ms (by decide) h1 hx.2.1 hxe (by decide) h7 (by unfold manyOk; rw [if_pos (.inl rfl)]; trivial), rfl, rfl⟩
      · split
        · exact ⟨ok_plain h1 hxe (fun e => by cases e) (fun e => by cases e) nil_ids hx.2.2.2.2.2.1 (by decide), rfl, c4, fun t ht => rep_ok h hx (.inl rfl) t ht, fun e2 => absurd e2 e⟩
        · exact hear_same h
  · exact hear_same h
theorem fall_ok {m : Mb} (h : okMb m) : okMb (fallM m) := ok_plain h.1 h.2.1 (fun e => by cases e) (fun _ => ⟨rfl, rfl⟩) nil_ids nil_oks (by decide)
theorem new_ok {id : Int} {vs : List (List Int)} (hv : okViews vs) (hi : 1 ≤ id ∧ id ≤ 6) : okMb (newMb id vs).1 ∧ (newMb id vs).2 = true ∧ (newMb id vs).1.id = id := by
  unfold newMb
  rw [if_pos ⟨hv, hi⟩]
  refine ⟨ok_plain hi (by decide) (fun e => ?_) (fun e => by cases e) nil_ids nil_oks (by decide), rfl, rfl⟩
  refine ⟨?_, e, rfl⟩
  rw [decide_eq_true_eq] at e
  have h0 := view_ok hv (e := 1) (by decide) (by have := hv.2.1; omega)
  rw [decide_eq_true_eq]
  cases hc : vwA vs 1 with
  | nil => rw [hc] at h0; exact absurd h0.1.1 (by simp)
  | cons y t => rw [hc] at e; simp at e; rw [e]; simp
end Go.Proofs.Ytcahaimefgkmiaa
namespace Go.Proofs.Ytcahaimefgkmiaa
open Go.RowKit
set_option linter.unusedVariables false

theorem oth_perm {v : List Int} (h : okView v) (id : Int) : (othV v id).Perm (wthV v id) := by
  have n1 : (othV v id).Nodup := List.Pairwise.filter _ (by decide)
  have n2 : (wthV v id).Nodup := List.Pairwise.filter _ h.2.2
  rw [List.perm_ext_iff_of_nodup n1 n2]
  intro x
  unfold othV wthV
  rw [List.mem_filter, List.mem_filter]
  constructor
  · rintro ⟨_, h2⟩
    simp at h2
    exact ⟨h2.2, by simpa using h2.1⟩
  · rintro ⟨h1, h2⟩
    have hx := h.2.1 x h1
    refine ⟨?_, by simp at h2; simp [h1, h2]⟩
    have : x = 1 ∨ x = 2 ∨ x = 3 ∨ x = 4 ∨ x = 5 ∨ x = 6 := by omega
    simpa using this
theorem oth_len {v : List Int} (h : okView v) (id : Int) : (othV v id).length = (wthV v id).length := (oth_perm h id).length_eq
theorem wth_no {l : List Int} {x : Int} (h : x ∉ l) : wthV l x = l := by
  unfold wthV
  rw [List.filter_eq_self]
  intro y hy
  simp
  intro e
  exact h (e ▸ hy)
theorem head_of {v : List Int} {id : Int} (h : okView v) (hd : v.headD 0 = id) : ∃ t, v = id :: t ∧ wthV v id = t := by
  cases v with
  | nil => exact absurd h.1.1 (by simp)
  | cons y t =>
    have hd : y = id := hd
    subst hd
    have hn := h.2.2
    rw [List.nodup_cons] at hn
    refine ⟨t, rfl, ?_⟩
    unfold wthV
    rw [List.filter_cons, if_neg (by simp)]
    exact wth_no hn.1
theorem oth_nil {v : List Int} {id : Int} (h : okView v) (hd : v.headD 0 = id) : othV v id = [] ↔ v.length = 1 := by
  obtain ⟨t, rfl, ht⟩ := head_of h hd
  have h1 := oth_len h id
  rw [ht] at h1
  constructor
  · intro e
    rw [e] at h1
    simp at h1 ⊢
    exact List.eq_nil_of_length_eq_zero (by omega)
  · intro e
    simp at e
    subst e
    exact List.eq_nil_of_length_eq_zero h1
theorem ado_ok {m : Mb} {vs : List (List Int)} {e : Int} (h : adoR m vs e) : okMb (adoM m vs e).1 ∧ (adoM m vs e).1.le = true ∧ (adoM m vs e).1.ep = e ∧ (adoM m vs e).1.id = m.id ∧ ((adoM m vs e).1.se = true → (vwA vs e).length = 1) ∧ ((adoM m vs e).1.ba = true → m.ep = e - 1 ∧ m.ba = true) ∧ (∀ t ∈ (adoM m vs e).2, okMs t ∧ ((adoM m vs e).1.ba = decide (t.k = 3)) ∧ t.o ≠ m.id ∧ t.f = m.id ∧ t.e = e) := by
  obtain ⟨hm, hv, he, hlt, hd⟩ := h
  obtain ⟨h1, h2, h3, h4, h5, h6, h7, h8, h9⟩ := hm
  have he9 : 1 ≤ e ∧ e ≤ 9 := by have := hv.2.2; omega
  have hled : okMb (ledM m e) := ok_plain h1 he9 (fun e => by cases e) (fun e => by cases e) nil_ids h7 (by decide)
  have hvw := view_ok hv (e := e) (by omega) (by omega)
  unfold adoM
  split
  · rename_i c
    obtain ⟨a1, a2⟩ := has_ok (m := ledM m e) (v := vwA vs e) hled (view_in hv e) rfl (.inr rfl) h7
    refine ⟨a1, rfl, rfl, rfl, fun hs => ?_, fun _ => ⟨c.2.1, c.1⟩, fun t ht => ⟨(a2 t ht).1, ?_, (a2 t ht).2.2.2.2, (a2 t ht).2.1, (a2 t ht).2.2.1⟩⟩
    · have hs : decide (othV (vwA vs e) m.id = []) = true := hs
      rw [decide_eq_true_eq] at hs
      exact (oth_nil hvw hd).1 hs
    · rw [(a2 t ht).2.2.2.1]
      rfl
  · refine ⟨hled, rfl, rfl, rfl, (fun hs => by cases hs), (fun hb => by cases hb), fun t ht => ?_⟩
    obtain ⟨y, hy, rfl⟩ := List.mem_map.1 ht
    have hy2 := List.mem_filter.1 hy
    exact ⟨ok_ms (by decide) h1 (view_in hv _ y hy2.1) he9 (by decide) nil_oks (many_none (.inl rfl)), rfl, by simpa using hy2.2, rfl, rfl⟩
theorem beg_m {m : Mb} {vs : List (List Int)} {op cl : Int} {key val : ByteArray} (h : begR m vs op cl key val) : okMb (begM m vs op cl key val) := by
  obtain ⟨hm, hv, hs, ht, hc, ho, hcl, hk, hvl, _, _, _⟩ := h
  obtain ⟨h1, h2, h3, h4, h5, h6, h7, h8, h9⟩ := hm
  exact ⟨h1, h2, h3, h4, h5, oth_ids _ _, h7, (show 0 ≤ m.cn + 1 ∧ m.cn + 1 ≤ 900 by omega), .inr ⟨ho, hs, hcl, (show 1 ≤ m.cn + 1 ∧ m.cn + 1 ≤ 900 by omega)⟩⟩
theorem beg_ok {m : Mb} {vs : List (List Int)} {op cl : Int} {key val : ByteArray} (h : begB m vs op cl key val) : okMb (begin_ m vs op cl key val).1 ∧ (begin_ m vs op cl key val).1.id = m.id ∧ (begin_ m vs op cl key val).1.ep = m.ep := by
  unfold begin_
  rw [if_pos h]
  have hb := beg_m h.1
  split
  · obtain ⟨f1, f2, f3, _⟩ := fin_ok hb
    exact ⟨f1, f2, f3⟩
  · exact ⟨hb, rfl, rfl⟩
/-- What is asked, of others alone. -/
theorem ask_ok {m : Mb} {vs : List (List Int)} {op cl : Int} {key val : ByteArray} (h : begR m vs op cl key val) : ∀ t ∈ askM m vs op key val, t.o ∈ vwA vs m.ep ∧ t.f = m.id ∧ t.e = m.ep ∧ (1 ≤ t.o ∧ t.o ≤ 6) ∧ (op = 1 → t.k = 5 ∧ t.is = [begI m key val]) := by
  intro t ht
  obtain ⟨y, hy, rfl⟩ := List.mem_map.1 ht
  have hy2 := List.mem_filter.1 hy
  have hy3 := view_in h.2.1 _ y hy2.1
  by_cases c : op = 1
  · rw [if_pos c]
    exact ⟨hy2.1, rfl, rfl, hy3, fun _ => ⟨rfl, rfl⟩⟩
  · rw [if_neg c]
    exact ⟨hy2.1, rfl, rfl, hy3, fun e => absurd e c⟩
theorem ask_len {m : Mb} {vs : List (List Int)} {op cl : Int} {key val : ByteArray} (h : begR m vs op cl key val) : (askM m vs op key val).length + 1 = (vwA vs m.ep).length ∧ (othV (vwA vs m.ep) m.id).length + 1 = (vwA vs m.ep).length := by
  obtain ⟨hm, hv, _, _, _, _, _, _, _, _, hl, hd⟩ := h
  have hvw := view_ok hv hm.2.1.1 hl
  obtain ⟨t, ht, hw⟩ := head_of hvw hd
  have h2 := oth_len hvw m.id
  have h3 : (askM m vs op key val).length = (wthV (vwA vs m.ep) m.id).length := by unfold askM; rw [List.length_map]
  rw [hw] at h2 h3
  have h4 : (vwA vs m.ep).length = t.length + 1 := by rw [ht]; rfl
  omega
theorem beg_busy {m : Mb} {vs : List (List Int)} {op cl op2 cl2 : Int} {key val key2 val2 : ByteArray} (ho : op = 1 ∨ op = 2) : (begin_ (begM m vs op cl key val) vs op2 cl2 key2 val2).2.2.2 = false := by
  unfold begin_
  rw [if_neg (fun h => by
    have h1 : op = 0 := h.1.2.2.2.1
    omega)]
theorem seal_hear {m : Mb} {vs : List (List Int)} (h : okMb m) (hv : okViews vs) (hl : m.ep < vs.length) (hb : m.ba = true) (hi : m.id ∈ vwA vs m.ep) : hearM m vs ⟨1, 5, m.id, m.ep + 1, 0, []⟩ = (bareM m (m.ep + 1), [⟨2, m.id, 5, m.ep + 1, 0, m.is⟩], []) := by
  have h9 := hv.2.2
  have h1 := h.2.1
  unfold hearM
  rw [if_pos ⟨h, hv, ok_ms (by decide) (by decide) h.1 (by omega) (by decide) nil_oks (many_none (.inl rfl)), rfl, (by show m.ep ≤ m.ep + 1; omega), (by show m.ep + 1 ≤ _; omega), (by omega)⟩]
  rw [if_neg (by show ¬ m.ep + 1 = m.ep; omega), if_pos ⟨rfl, rfl, hb, hi⟩]
theorem bare_hear {m : Mb} {vs : List (List Int)} (e k : Int) (hk : k = 1 ∨ k = 7) : hearM (bareM m e) vs ⟨k, 5, m.id, e, 0, []⟩ = (bareM m e, [], []) := by
  unfold hearM
  split
  · refine (if_pos rfl).trans ?_
    unfold ownM
    rw [if_neg (by show ¬ k = 2; omega), if_neg (by show ¬ k = 3; omega), if_neg (by show ¬ k = 4; omega), if_neg (by show ¬ k = 5; omega)]
    split
    · rw [if_neg (by show ¬ false = true; decide)]
    · rw [if_neg (by show ¬ (k = 6 ∨ k = 8); omega)]
  · rfl
theorem late_hear {m : Mb} {vs : List (List Int)} {e : Int} (x : Ms) (hx : x.e < e) : hearM (bareM m e) vs x = (bareM m e, [], []) := by
  unfold hearM
  rw [if_neg (fun h => by have h1 : e ≤ x.e := h.2.2.2.2.1; omega)]
theorem bare_begin {m : Mb} {vs : List (List Int)} {e op cl : Int} {key val : ByteArray} : begin_ (bareM m e) vs op cl key val = (zeroMb, [], [], false) := by
  unfold begin_
  rw [if_neg (fun h => by have h1 : false = true := h.1.2.2.1; cases h1)]
end Go.Proofs.Ytcahaimefgkmiaa
namespace Go.Proofs.Ytcahaimefgkmiaa

structure Cl where
  op : Int
  key : ByteArray
  val : ByteArray
  wh : Int
  dn : Int
  vr : Int
  ep : Int
  nu : Int
  gt : ByteArray
def zeroCl : Cl := ⟨0, ⟨#[]⟩, ⟨#[]⟩, 0, 0, 0, 0, 0, ⟨#[]⟩⟩
end Go.Proofs.Ytcahaimefgkmiaa
namespace Go.Proofs.Ytcahaimefgkmiaa
open Go.RowKit
set_option linter.unusedVariables false

structure Ev where
  k : Int
  n : Int
  pl : Int
  op : Int
  key : ByteArray
  val : ByteArray
structure Gp where
  vs : List (List Int)
  ms : List Mb
  fl : List Ms
  cs : List Cl
def zeroMs : Ms := ⟨0, 0, 0, 0, 0, []⟩
def okEv (e : Ev) : Prop := (1 ≤ e.k ∧ e.k ≤ 6) ∧ (1 ≤ e.n ∧ e.n ≤ 6) ∧ 0 ≤ e.pl ∧ (e.k ≠ 1 → e.op = 0 ∧ e.key = ⟨#[]⟩ ∧ e.val = ⟨#[]⟩) ∧ (e.k = 1 → (e.op = 1 ∨ e.op = 2) ∧ (1 ≤ e.key.size ∧ e.key.size ≤ 12) ∧ e.val.size ≤ 20 ∧ (e.op = 1 ∨ e.val = ⟨#[]⟩))
instance (e : Ev) : Decidable (okEv e) := by unfold okEv; infer_instance
def newGp (vs : List (List Int)) : Gp := ⟨vs, [(newMb 1 vs).1, (newMb 2 vs).1, (newMb 3 vs).1, (newMb 4 vs).1, (newMb 5 vs).1, (newMb 6 vs).1], [], []⟩
def mbAt (g : Gp) (n : Int) : Mb := g.ms.getD (n - 1).toNat zeroMb
/-- What is said tells its call. -/
def saidC (pl : Int) (cs : List Cl) (s : Sd) : List Cl :=
  if (cs.length : Int) ≤ s.cl ∨ 0 ≤ (cs.getD s.cl.toNat zeroCl).dn then cs
  else cs.set s.cl.toNat { cs.getD s.cl.toNat zeroCl with dn := pl, vr := s.it.n, ep := s.ep, nu := s.nu, gt := if (cs.getD s.cl.toNat zeroCl).op = 2 then s.it.v else (cs.getD s.cl.toNat zeroCl).gt }
def memG (g : Gp) (m : Mb) (told : List Ms) (said : List Sd) (pl : Int) : Gp := ⟨g.vs, g.ms.set (m.id - 1).toNat m, g.fl ++ told, said.foldl (saidC pl) g.cs⟩
def callG (g : Gp) (pl : Int) (e : Ev) : Gp := { g with cs := g.cs ++ [⟨e.op, e.key, e.val, pl, -1, 0, 0, 0, ⟨#[]⟩⟩] }
def begG (g : Gp) (pl : Int) (e : Ev) : Gp × Int :=
  if (begin_ (mbAt g e.n) g.vs e.op g.cs.length e.key e.val).2.2.2 = true then (memG (callG g pl e) (begin_ (mbAt g e.n) g.vs e.op g.cs.length e.key e.val).1 (begin_ (mbAt g e.n) g.vs e.op g.cs.length e.key e.val).2.1 (begin_ (mbAt g e.n) g.vs e.op g.cs.length e.key e.val).2.2.1 pl, 0) else (callG g pl e, 1)
/-- The first epoch from e on whose view a node is the first one of (f views are left). -/
def adoE (vs : List (List Int)) (n : Int) (e : Int) : Nat → Option Int
  | 0 => none
  | f + 1 => if (vs.length : Int) < e then none else if (vwA vs e).headD 0 = n then some e else adoE vs n (e + 1) f
def adoG (g : Gp) (pl : Int) (n : Int) : Gp × Int :=
  match adoE g.vs n ((mbAt g n).ep + 1) (g.vs.length + 1) with
  | none => (g, 1)
  | some e => if (adopt (mbAt g n) g.vs e).2.2 = true then (memG g (adopt (mbAt g n) g.vs e).1 (adopt (mbAt g n) g.vs e).2.1 [] pl, 0) else (g, 1)
def flyG (g : Gp) (pl : Int) (e : Ev) : Gp × Int :=
  if g.fl = [] then (g, 1)
  else if e.k = 4 then ({ g with fl := g.fl ++ [g.fl.getD (e.pl % g.fl.length).toNat zeroMs] }, 0)
  else if e.k = 3 then ({ g with fl := g.fl.eraseIdx (e.pl % g.fl.length).toNat }, 0)
  else (memG { g with fl := g.fl.eraseIdx (e.pl % g.fl.length).toNat } (hearM (mbAt g (g.fl.getD (e.pl % g.fl.length).toNat zeroMs).o) g.vs (g.fl.getD (e.pl % g.fl.length).toNat zeroMs)).1 (hearM (mbAt g (g.fl.getD (e.pl % g.fl.length).toNat zeroMs).o) g.vs (g.fl.getD (e.pl % g.fl.length).toNat zeroMs)).2.1 (hearM (mbAt g (g.fl.getD (e.pl % g.fl.length).toNat zeroMs).o) g.vs (g.fl.getD (e.pl % g.fl.length).toNat zeroMs)).2.2 pl, 0)
def doG (g : Gp) (pl : Int) (e : Ev) : Gp × Int :=
  if e.k = 1 then begG g pl e else if e.k = 5 then adoG g pl e.n else if e.k = 6 then (memG g (fallM (mbAt g e.n)) [] [] pl, 0) else flyG g pl e
/-- The events from place p on. -/
def runG (g : Gp) (p : Nat) : List Ev → Gp × List Int
  | [] => (g, [])
  | e :: es => ((runG (doG g p e).1 (p + 1) es).1, (doG g p e).2 :: (runG (doG g p e).1 (p + 1) es).2)
theorem runG_append (g : Gp) (p : Nat) (es fs : List Ev) : runG g p (es ++ fs) = ((runG (runG g p es).1 (p + es.length) fs).1, (runG g p es).2 ++ (runG (runG g p es).1 (p + es.length) fs).2) := by
  induction es generalizing g p with
  | nil => simp [runG]
  | cons e es ih => simp only [List.cons_append, runG, ih, List.length_cons, Nat.add_assoc, Nat.add_comm 1]
/-- A member of a life. -/
structure MOk (vs : List (List Int)) (i : Int) (m : Mb) : Prop where
  ok : okMb m
  id : m.id = i
  ep : m.ep ≤ vs.length
  hd : m.le = true → (vwA vs m.ep).headD 0 = m.id
  nw : ∀ y ∈ m.is, y.n ≤ 1000 * m.ep + 900
  nl : m.le = true → ∀ y ∈ m.is, y.n ≤ 1000 * m.ep + m.cn
  nt : m.tk.op ≠ 0 → m.tk.it.n ≤ 1000 * m.ep + m.cn
  sl : m.se = false → m.tk.op = 0
  bv : m.ba = true → m.id ∈ vwA vs m.ep
/-- A message of a life. -/
structure FOk (vs : List (List Int)) (x : Ms) : Prop where
  ok : okMs x
  ep : x.e ≤ vs.length
  st : x.k = 2 ∨ x.k = 3 → ∀ y ∈ x.is, y.n < 1000 * x.e
  nu : x.k = 3 → x.n = 0
  so : x.k = 5 → (∀ y ∈ x.is, y.n ≤ 1000 * x.e + 900) ∧ x.o ≠ (vwA vs x.e).headD 0
structure GOk (g : Gp) : Prop where
  vs : okViews g.vs
  ln : g.ms.length = 6
  ms : ∀ i (h : i < g.ms.length), MOk g.vs ((i : Int) + 1) g.ms[i]
  fl : ∀ x ∈ g.fl, FOk g.vs x
theorem mem_put {l : List Im} {x y : Im} (h : y ∈ putI l x) : y ∈ l ∨ y = x := by
  unfold putI at h
  split at h
  · exact .inl h
  · split at h
    · unfold insI at h
      rcases List.mem_append.1 h with h | h
      · exact .inl (List.mem_filter.1 h).1
      · rcases List.mem_cons.1 h with h | h
        · exact .inr h
        · exact .inl (List.mem_filter.1 h).1
    · exact .inl h
theorem tk_no {t : Tk} (h : noTk t) : t.op = 0 := h.1
theorem sl_of {m : Mb} (h : okMb m) (hs : m.se = false) : m.tk.op = 0 := by
  rcases h.2.2.2.2.2.2.2.2 with h | h
  · exact h.1
  · rw [hs] at h; exact absurd h.2.1 (by simp)
theorem FOk.plain {vs : List (List Int)} {x : Ms} (h : okMs x) (he : x.e ≤ vs.length) (hk : x.k = 1 ∨ x.k = 4 ∨ x.k = 6 ∨ x.k = 7 ∨ x.k = 8) : FOk vs x := ⟨h, he, fun h => by omega, fun h => by omega, fun h => by omega⟩
theorem has_mok {vs : List (List Int)} {m : Mb} {is : List Im} (hv : okViews vs) (h1 : okMb m) (h2 : m.ep ≤ vs.length) (h3 : (vwA vs m.ep).headD 0 = m.id) (hl : m.le = true) (hb : m.se = false ∨ m.tk = zeroTk) (hi : okIms is) (hn : ∀ y ∈ is, y.n < 1000 * m.ep) (hnt : m.tk.op ≠ 0 → m.tk.it.n ≤ 1000 * m.ep + m.cn) (hz : m.tk.op = 0) :
    MOk vs m.id (hasM m (vwA vs m.ep) is).1 ∧ ∀ t ∈ (hasM m (vwA vs m.ep) is).2, FOk vs t := by
  have hvo := view_ok hv h1.2.1.1 h2
  obtain ⟨ho, ht⟩ := has_ok h1 (view_in hv m.ep) hl hb hi
  have c0 := h1.2.2.2.2.2.2.2.1.1
  refine ⟨⟨ho, rfl, h2, fun _ => h3, fun y hy => ?_, fun _ y hy => ?_, fun h => absurd hz h, fun _ => hz, fun _ => ?_⟩, fun t h => ?_⟩
  · have := hn y hy; show y.n ≤ 1000 * m.ep + 900; omega
  · have := hn y hy; show y.n ≤ 1000 * m.ep + m.cn; omega
  · obtain ⟨t, e, _⟩ := head_of hvo h3
    show m.id ∈ vwA vs m.ep
    rw [e]
    simp
  · obtain ⟨o1, o2, o3, o4, o5⟩ := ht t h
    have hm : t.is = is ∧ t.n = 0 := by
      unfold hasM at h
      obtain ⟨z, _, rfl⟩ := List.mem_map.1 h
      exact ⟨rfl, rfl⟩
    refine ⟨o1, by rw [o3]; exact h2, fun _ y hy => ?_, fun _ => hm.2, fun e => by omega⟩
    rw [hm.1] at hy
    rw [o3]
    exact hn y hy
theorem rep_fok {vs : List (List Int)} {m : Mb} {x : Ms} {k : Int} (h : okMb m) (hx : okMs x) (he : x.e ≤ vs.length) (hk : k = 4 ∨ k = 6 ∨ k = 8) : ∀ t ∈ repM m x k, FOk vs t := fun t ht => by
  obtain ⟨o1, o2, o3⟩ := rep_ok h hx hk t ht
  have e : t.k = k := by unfold repM at ht; rw [List.mem_singleton.1 ht]
  exact FOk.plain o1 (by rw [o3]; exact he) (by omega)
theorem inst_mok {vs : List (List Int)} {m : Mb} {e : Int} {is : List Im} (h1 : okMb m) (he : 1 ≤ e ∧ e ≤ 9) (h2 : e ≤ vs.length) (hi : okIms is) (hn : ∀ y ∈ is, y.n < 1000 * e) (hm : m.id ∈ vwA vs e) : MOk vs m.id (instM m e is) :=
  ⟨ok_plain h1.1 he (fun q => by cases q) (fun q => by cases q) nil_ids hi (by decide), rfl, h2, (fun q => by cases q), (fun y hy => by have := hn y hy; show y.n ≤ 1000 * e + 900; omega), (fun q => by cases q), fun h => absurd rfl h, fun _ => rfl, fun _ => hm⟩
theorem bare_mok {vs : List (List Int)} {m : Mb} {e : Int} (h1 : okMb m) (he : 1 ≤ e ∧ e ≤ 9) (h2 : e ≤ vs.length) (hn : ∀ y ∈ m.is, y.n < 1000 * e) : MOk vs m.id (bareM m e) :=
  ⟨ok_plain h1.1 he (fun q => by cases q) (fun q => by cases q) nil_ids h1.2.2.2.2.2.2.1 (by decide), rfl, h2, (fun q => by cases q), (fun y hy => by have := hn y hy; show y.n ≤ 1000 * e + 900; omega), (fun q => by cases q), fun h => absurd rfl h, fun _ => rfl, (fun q => by cases q)⟩
/-- What a member of a life hears keeps it one; what it tells is of a life. -/
theorem hear_mok {vs : List (List Int)} {i : Int} {m : Mb} {x : Ms} (hv : okViews vs) (h : MOk vs i m) (hx : FOk vs x) : MOk vs i (hearM m vs x).1 ∧ ∀ t ∈ (hearM m vs x).2.1, FOk vs t := by
  have same : MOk vs i m ∧ ∀ t ∈ ([] : List Ms), FOk vs t := ⟨h, fun t ht => by simp at ht⟩
  obtain ⟨h1, h2, h3, h4, h5, h6, h7, h8, h9⟩ := h
  obtain ⟨x1, x2, x3, x4, x5⟩ := hx
  have c9 := h1.2.2.2.2.2.2.2.1
  subst h2
  unfold hearM
  by_cases c : heaR m vs x
  · rw [if_pos c]
    obtain ⟨_, _, _, d4, d5, d6, d7⟩ := c
    by_cases c1 : x.e = m.ep
    · rw [if_pos c1]
      unfold ownM
      by_cases k2 : x.k = 2
      · rw [if_pos k2]
        by_cases c2 : m.le = true ∧ m.ba = false
        · rw [if_pos c2]
          have hse : m.se = false := by
            cases hs : m.se with
            | false => rfl
            | true => have := (h1.2.2.1 hs).1; rw [c2.2] at this; cases this
          exact has_mok hv h1 h3 (h4 c2.1) c2.1 (.inl hse) x1.2.2.2.2.2.1 (fun y hy => by rw [← c1]; exact x3 (.inl k2) y hy) h7 (h8 hse)
        · rw [if_neg c2]; exact same
      · rw [if_neg k2]
        by_cases k3 : x.k = 3
        · rw [if_pos k3]
          by_cases c2 : m.id ∉ vwA vs m.ep ∨ (vwA vs m.ep).headD 0 = m.id
          · rw [if_pos c2]; exact same
          · rw [if_neg c2]
            have hin : m.id ∈ vwA vs m.ep := Classical.byContradiction (fun e => c2 (.inl e))
            by_cases c3 : m.ba = true
            · rw [if_pos c3]; exact ⟨same.1, rep_fok h1 x1 x2 (.inl rfl)⟩
            · rw [if_neg c3]
              by_cases c4 : m.fe = true
              · rw [if_pos c4]; exact same
              · rw [if_neg c4]
                exact ⟨inst_mok h1 h1.2.1 h3 x1.2.2.2.2.2.1 (fun y hy => by rw [← c1]; exact x3 (.inr k3) y hy) hin, rep_fok h1 x1 x2 (.inl rfl)⟩
        · rw [if_neg k3]
          by_cases k4 : x.k = 4
          · rw [if_pos k4]
            by_cases c2 : m.le = true
            · rw [if_pos c2]
              refine ⟨?_, fun t ht => by simp at ht⟩
              have hok := (own_ok h1 (view_in hv m.ep) x1 c1).ok
              unfold ownM at hok
              rw [if_neg k2, if_neg k3, if_pos k4, if_pos c2] at hok
              exact ⟨hok, rfl, h3, h4, h5, h6, h7, fun hs => sl_of hok hs, h9⟩
            · rw [if_neg c2]; exact same
          · rw [if_neg k4]
            by_cases k5 : x.k = 5
            · rw [if_pos k5]
              by_cases c2 : m.ba = true
              · rw [if_pos c2]
                have hok := (own_ok h1 (view_in hv m.ep) x1 c1).ok
                unfold ownM at hok
                rw [if_neg k2, if_neg k3, if_neg k4, if_pos k5, if_pos c2] at hok
                have hle : m.le = false := by
                  cases hl : m.le with
                  | false => rfl
                  | true => exact absurd (by rw [d4, c1]; exact (h4 hl).symm) (x5 k5).2
                have hmem : ∀ y ∈ putI m.is (x.is.headD zeroIm), y.n ≤ 1000 * m.ep + 900 := fun y hy => by
                  rcases mem_put hy with h | h
                  · exact h5 y h
                  · have h10 := (x5 k5).1
                    have hl1 : x.is.length = 1 := by
                      have h11 := x1.2.2.2.2.2.2
                      unfold manyOk at h11
                      rw [if_neg (by omega), if_pos k5] at h11
                      exact h11
                    rw [h]
                    rw [← c1]
                    cases hx9 : x.is with
                    | nil => rw [hx9] at hl1; cases hl1
                    | cons y0 ys => exact h10 y0 (by rw [hx9]; simp)
                refine ⟨⟨hok, rfl, h3, (fun hl => by rw [show m.le = true from hl] at hle; cases hle), hmem, (fun hl => by rw [show m.le = true from hl] at hle; cases hle), h7, h8, h9⟩, rep_fok h1 x1 x2 (.inr (.inl rfl))⟩
              · rw [if_neg c2]; exact same
            · rw [if_neg k5]
              by_cases k7 : x.k = 7
              · rw [if_pos k7]
                by_cases c2 : m.ba = true
                · rw [if_pos c2]; exact ⟨same.1, rep_fok h1 x1 x2 (.inr (.inr rfl))⟩
                · rw [if_neg c2]; exact same
              · rw [if_neg k7]
                by_cases k6 : x.k = 6 ∨ x.k = 8
                · rw [if_pos k6]
                  by_cases c2 : m.tk.op = opOf x.k ∧ m.tk.nu = x.n
                  · rw [if_pos c2]
                    have hok := (own_ok h1 (view_in hv m.ep) x1 c1).ok
                    unfold ownM at hok
                    rw [if_neg k2, if_neg k3, if_neg k4, if_neg k5, if_neg k7, if_pos k6, if_pos c2] at hok
                    have hop : m.tk.op ≠ 0 := by rw [c2.1]; unfold opOf; split <;> decide
                    by_cases c3 : wthV m.tk.lf x.f = []
                    · rw [if_pos c3] at hok ⊢
                      refine ⟨?_, fun t ht => by simp at ht⟩
                      have hit := h7 hop
                      unfold finM leftM at hok ⊢
                      dsimp only at hok ⊢
                      by_cases c5 : m.tk.op = 1
                      · rw [if_pos c5] at hok ⊢
                        refine ⟨hok, rfl, h3, h4, fun y hy => ?_, fun hl y hy => ?_, fun e => absurd rfl e, fun _ => rfl, h9⟩
                        · rcases mem_put hy with h | h
                          · exact h5 y h
                          · rw [h]; show m.tk.it.n ≤ 1000 * m.ep + 900; omega
                        · rcases mem_put hy with h | h
                          · exact h6 hl y h
                          · rw [h]; exact hit
                      · rw [if_neg c5] at hok ⊢
                        exact ⟨hok, rfl, h3, h4, h5, h6, fun e => absurd rfl e, fun _ => rfl, h9⟩
                    · rw [if_neg c3] at hok ⊢
                      exact ⟨⟨hok, rfl, h3, h4, h5, h6, h7, h8, h9⟩, fun t ht => by simp at ht⟩
                  · rw [if_neg c2]; exact same
                · rw [if_neg k6]; exact same
    · rw [if_neg c1]
      by_cases c2 : x.k = 1 ∧ x.e = m.ep + 1 ∧ m.ba = true ∧ m.id ∈ vwA vs m.ep
      · rw [if_pos c2]
        obtain ⟨e1, e2, e3, e4⟩ := c2
        have hlt : ∀ y ∈ m.is, y.n < 1000 * x.e := fun y hy => by have := h5 y hy; omega
        refine ⟨bare_mok h1 x1.2.2.2.1 x2 hlt, fun t ht => ?_⟩
        rw [List.mem_singleton] at ht
        subst ht
        refine ⟨ok_ms (by omega) h1.1 x1.2.1 x1.2.2.2.1 (by omega) h1.2.2.2.2.2.2.1 (by unfold manyOk; rw [if_pos (.inl rfl)]; trivial), x2, fun _ => hlt, (fun e => by cases e), (fun e => by cases e)⟩
      · rw [if_neg c2]
        by_cases c3 : x.k = 3 ∧ m.id ∈ vwA vs x.e ∧ (vwA vs x.e).headD 0 ≠ m.id
        · rw [if_pos c3]
          exact ⟨inst_mok h1 x1.2.2.2.1 x2 x1.2.2.2.2.2.1 (x3 (.inr c3.1)) c3.2.1, rep_fok h1 x1 x2 (.inl rfl)⟩
        · rw [if_neg c3]; exact same
  · rw [if_neg c]; exact same
theorem fall_mok {vs : List (List Int)} {i : Int} {m : Mb} (h : MOk vs i m) : MOk vs i (fallM m) :=
  ⟨fall_ok h.ok, h.id, h.ep, (fun q => by cases q), (fun y hy => by simp [fallM] at hy), (fun q => by cases q), (fun q => absurd rfl q), (fun _ => rfl), (fun q => by cases q)⟩
theorem new_mok {vs : List (List Int)} {id : Int} (hv : okViews vs) (hi : 1 ≤ id ∧ id ≤ 6) : MOk vs id (newMb id vs).1 := by
  obtain ⟨h1, _, h3⟩ := new_ok hv hi
  have hl := hv.2.1
  unfold newMb at h1 h3 ⊢
  rw [if_pos ⟨hv, hi⟩] at h1 h3 ⊢
  refine ⟨h1, rfl, by show (1 : Int) ≤ _; omega, fun q => by simpa using q, (fun y hy => by simp at hy), (fun _ y hy => by simp at hy), (fun q => absurd rfl q), (fun _ => rfl), fun q => by simpa using q⟩
theorem ado_mok {vs : List (List Int)} {i e : Int} {m : Mb} (h : MOk vs i m) (ha : adoR m vs e) : MOk vs i (adoM m vs e).1 ∧ ∀ t ∈ (adoM m vs e).2, FOk vs t := by
  obtain ⟨a1, a2, a3, a4, a5⟩ := ha
  have hid := h.id
  subst hid
  have he9 : 1 ≤ e ∧ e ≤ 9 := ⟨by omega, by have := a2.2.2; omega⟩
  have hit : ∀ y ∈ m.is, y.n < 1000 * e := fun y hy => by have := h.nw y hy; omega
  have hok : okMb (ledM m e) := ok_plain a1.1 he9 (fun q => by cases q) (fun q => by cases q) nil_ids a1.2.2.2.2.2.2.1 (by decide)
  unfold adoM
  by_cases c : hadM m vs e
  · rw [if_pos c]
    exact has_mok (m := ledM m e) a2 hok a3.2 a5 rfl (.inr rfl) a1.2.2.2.2.2.2.1 hit (fun q => absurd rfl q) rfl
  · rw [if_neg c]
    refine ⟨⟨hok, rfl, a3.2, fun _ => a5, (fun y hy => by have := hit y hy; show y.n ≤ 1000 * e + 900; omega), (fun _ y hy => by have := hit y hy; show y.n ≤ 1000 * e + 0; omega), (fun q => absurd rfl q), (fun _ => rfl), (fun q => by cases q)⟩, fun t ht => ?_⟩
    obtain ⟨z, hz, rfl⟩ := List.mem_map.1 ht
    have hz6 := view_in a2 (e - 1) z (List.mem_filter.1 hz).1
    exact FOk.plain (ok_ms (by omega) a1.1 hz6 he9 (by omega) nil_oks (many_none (by omega))) a3.2 (.inl rfl)
theorem beg_mok {vs : List (List Int)} {i op cl : Int} {key val : ByteArray} {m : Mb} (h : MOk vs i m) (hb : begB m vs op cl key val) : MOk vs i (begin_ m vs op cl key val).1 ∧ ∀ t ∈ (begin_ m vs op cl key val).2.1, FOk vs t := by
  obtain ⟨b1, _, b3⟩ := beg_ok hb
  have hr := hb.1
  obtain ⟨r1, r2, r3, r4, r5, r6, r7, r8, r9, r10, r11, r12⟩ := hr
  have hid := h.id
  subst hid
  have hc := r1.2.2.2.2.2.2.2.1
  have hle : m.le = true := (r1.2.2.1 r3).2.1
  have hnl := h.nl hle
  have e1 := r1.2.1
  unfold begin_ at b1 b3 ⊢
  rw [if_pos hb] at b1 b3 ⊢
  by_cases c : othV (vwA vs m.ep) m.id = []
  · rw [if_pos c] at b1 b3 ⊢
    refine ⟨?_, fun t ht => by simp at ht⟩
    unfold finM begM at b1 b3 ⊢
    dsimp only at b1 b3 ⊢
    by_cases c5 : op = 1
    · rw [if_pos c5] at b1 b3 ⊢
      refine ⟨b1, rfl, h.ep, h.hd, fun y hy => ?_, fun _ y hy => ?_, (fun q => absurd rfl q), (fun _ => rfl), h.bv⟩
      · rcases mem_put hy with q | q
        · exact h.nw y q
        · rw [q]; show 1000 * m.ep + (m.cn + 1) ≤ 1000 * m.ep + 900; omega
      · rcases mem_put hy with q | q
        · have := hnl y q; show y.n ≤ 1000 * m.ep + (m.cn + 1); omega
        · rw [q]; exact Int.le_refl _
    · rw [if_neg c5] at b1 b3 ⊢
      exact ⟨b1, rfl, h.ep, h.hd, h.nw, (fun _ y hy => by have := hnl y hy; show y.n ≤ 1000 * m.ep + (m.cn + 1); omega), (fun q => absurd rfl q), (fun _ => rfl), h.bv⟩
  · rw [if_neg c] at b1 b3 ⊢
    refine ⟨⟨b1, rfl, h.ep, h.hd, h.nw, (fun _ y hy => by have := hnl y hy; show y.n ≤ 1000 * m.ep + (m.cn + 1); omega), (fun _ => Int.le_refl _), (fun q => by rw [show m.se = false from q] at r3; cases r3), h.bv⟩, fun t ht => ?_⟩
    obtain ⟨z, hz, rfl⟩ := List.mem_map.1 ht
    have hz6 := view_in r2 m.ep z (List.mem_filter.1 hz).1
    have hzn : z ≠ m.id := by have := (List.mem_filter.1 hz).2; simpa using this
    by_cases c5 : op = 1
    · rw [if_pos c5]
      have hi : okIms [begI m key val] := ⟨fun q hq => by rw [List.mem_singleton.1 hq]; exact ⟨r8, r9, by show 1 ≤ 1000 * m.ep + (m.cn + 1) ∧ 1000 * m.ep + (m.cn + 1) ≤ 1000000000; omega⟩, List.pairwise_singleton _ _, by simp⟩
      refine ⟨ok_ms (by omega) r1.1 hz6 e1 (by omega) hi (by unfold manyOk; rw [if_neg (by omega), if_pos rfl]; rfl), h.ep, (fun q => by rcases q with q | q <;> cases q), (fun q => by cases q), fun _ => ⟨fun y hy => ?_, ?_⟩⟩
      · rw [List.mem_singleton.1 hy]; show 1000 * m.ep + (m.cn + 1) ≤ 1000 * m.ep + 900; omega
      · show z ≠ (vwA vs m.ep).headD 0
        rw [r12]; exact hzn
    · rw [if_neg c5]
      exact FOk.plain (ok_ms (by omega) r1.1 hz6 e1 (by omega) nil_oks (many_none (by omega))) h.ep (.inr (.inr (.inr (.inl rfl))))
theorem GOk.at_ {g : Gp} (h : GOk g) {n : Int} (hn : 1 ≤ n ∧ n ≤ 6) : MOk g.vs n (mbAt g n) := by
  have hl := h.ln
  have hi : (n - 1).toNat < g.ms.length := by omega
  have := h.ms _ hi
  unfold mbAt
  rw [List.getD_eq_getElem?_getD, List.getElem?_eq_getElem hi]
  rw [show (((n - 1).toNat : Nat) : Int) + 1 = n by omega] at this
  exact this
theorem GOk.mem {g : Gp} (h : GOk g) {n pl : Int} {m : Mb} {told : List Ms} {said : List Sd} (hn : 1 ≤ n ∧ n ≤ 6) (hm : MOk g.vs n m) (ht : ∀ t ∈ told, FOk g.vs t) : GOk (memG g m told said pl) := by
  refine ⟨h.vs, by simp [memG, h.ln], fun i hi => ?_, fun x hx => ?_⟩
  · have hi2 : i < g.ms.length := by simpa [memG] using hi
    show MOk g.vs _ ((g.ms.set (m.id - 1).toNat m)[i]'(by simpa using hi2))
    rw [List.getElem_set]
    split
    · rename_i e
      rw [hm.id] at e
      rw [show (i : Int) + 1 = n by omega]
      exact hm
    · exact h.ms i hi2
  · rcases List.mem_append.1 hx with q | q
    · exact h.fl x q
    · exact ht x q
theorem GOk.cs {g : Gp} (h : GOk g) (cs : List Cl) : GOk { g with cs := cs } := ⟨h.vs, h.ln, h.ms, h.fl⟩
theorem GOk.flies {g : Gp} (h : GOk g) {fl : List Ms} (hf : ∀ x ∈ fl, FOk g.vs x) : GOk { g with fl := fl } := ⟨h.vs, h.ln, h.ms, hf⟩
theorem GOk.new {vs : List (List Int)} (hv : okViews vs) : GOk (newGp vs) := by
  refine ⟨hv, rfl, fun i hi => ?_, fun x hx => by simp [newGp] at hx⟩
  have hi6 : i < 6 := hi
  match i, hi6 with
  | 0, _ => exact new_mok hv (by omega)
  | 1, _ => exact new_mok hv (by omega)
  | 2, _ => exact new_mok hv (by omega)
  | 3, _ => exact new_mok hv (by omega)
  | 4, _ => exact new_mok hv (by omega)
  | 5, _ => exact new_mok hv (by omega)
theorem ado_e {vs : List (List Int)} {n : Int} : ∀ (f : Nat) (e e' : Int), adoE vs n e f = some e' → e ≤ e' ∧ e' ≤ vs.length ∧ (vwA vs e').headD 0 = n
  | 0, e, e', h => by cases h
  | f + 1, e, e', h => by
    unfold adoE at h
    split at h
    · cases h
    · split at h
      · cases h
        exact ⟨Int.le_refl _, by omega, by assumption⟩
      · have := ado_e f (e + 1) e' h
        exact ⟨by omega, this.2⟩
/-- Each event of a life keeps it one. -/
theorem GOk.doG {g : Gp} (h : GOk g) {pl : Int} {e : Ev} (he : okEv e) : GOk (doG g pl e).1 := by
  unfold Go.Proofs.Ytcahaimefgkmiaa.doG
  by_cases k1 : e.k = 1
  · rw [if_pos k1]
    unfold begG
    by_cases c : (begin_ (mbAt g e.n) g.vs e.op g.cs.length e.key e.val).2.2.2 = true
    · rw [if_pos c]
      have hb : begB (mbAt g e.n) g.vs e.op g.cs.length e.key e.val := by
        apply Classical.byContradiction
        intro q
        unfold begin_ at c
        rw [if_neg q] at c
        cases c
      obtain ⟨m1, m2⟩ := beg_mok (h.at_ he.2.1) hb
      exact GOk.mem (g := callG g pl e) (h.cs _) he.2.1 m1 m2
    · rw [if_neg c]; exact h.cs _
  · rw [if_neg k1]
    by_cases k5 : e.k = 5
    · rw [if_pos k5]
      unfold adoG
      cases q : adoE g.vs e.n ((mbAt g e.n).ep + 1) (g.vs.length + 1) with
      | none => exact h
      | some a =>
        dsimp only
        by_cases c : (adopt (mbAt g e.n) g.vs a).2.2 = true
        · rw [if_pos c]
          have ha : adoR (mbAt g e.n) g.vs a := by
            apply Classical.byContradiction
            intro q
            unfold adopt at c
            rw [if_neg q] at c
            cases c
          obtain ⟨m1, m2⟩ := ado_mok (h.at_ he.2.1) ha
          unfold adopt
          rw [if_pos ha]
          exact GOk.mem h he.2.1 m1 m2
        · rw [if_neg c]; exact h
    · rw [if_neg k5]
      by_cases k6 : e.k = 6
      · rw [if_pos k6]
        exact GOk.mem h he.2.1 (fall_mok (h.at_ he.2.1)) (fun t ht => by simp at ht)
      · rw [if_neg k6]
        unfold flyG
        by_cases c0 : g.fl = []
        · rw [if_pos c0]; exact h
        · rw [if_neg c0]
          have hlen : 0 < g.fl.length := List.length_pos_iff.2 c0
          have hk : (e.pl % (g.fl.length : Int)).toNat < g.fl.length := by
            have h1 := Int.emod_nonneg e.pl (show (g.fl.length : Int) ≠ 0 by omega)
            have h2 := Int.emod_lt_of_pos e.pl (show (0 : Int) < (g.fl.length : Int) by omega)
            omega
          have hx : g.fl.getD (e.pl % (g.fl.length : Int)).toNat zeroMs ∈ g.fl := by
            rw [List.getD_eq_getElem?_getD, List.getElem?_eq_getElem hk]
            exact List.getElem_mem hk
          generalize g.fl.getD (e.pl % (g.fl.length : Int)).toNat zeroMs = x at *
          have herase : ∀ y ∈ g.fl.eraseIdx (e.pl % (g.fl.length : Int)).toNat, FOk g.vs y := fun y hy => h.fl y (List.mem_of_mem_eraseIdx hy)
          by_cases k4 : e.k = 4
          · rw [if_pos k4]
            exact h.flies (fun y hy => by
              rcases List.mem_append.1 hy with q | q
              · exact h.fl y q
              · rw [List.mem_singleton.1 q]; exact h.fl x hx)
          · rw [if_neg k4]
            by_cases k3 : e.k = 3
            · rw [if_pos k3]; exact h.flies herase
            · rw [if_neg k3]
              have ho := (h.fl x hx).ok.2.2.1
              obtain ⟨m1, m2⟩ := hear_mok h.vs (h.at_ ho) (h.fl x hx)
              exact GOk.mem (g := { g with fl := g.fl.eraseIdx (e.pl % (g.fl.length : Int)).toNat }) (h.flies herase) ho m1 m2
theorem GOk.runG {g : Gp} : ∀ (es : List Ev) (g : Gp) (p : Nat), GOk g → (∀ e ∈ es, okEv e) → GOk (runG g p es).1
  | [], g, p, h, _ => h
  | e :: es, g, p, h, he => GOk.runG (g := g) es _ (p + 1) (h.doG (he e (by simp))) (fun x hx => he x (by simp [hx]))
/-- Nobody serves where another one does. -/
theorem GOk.one {g : Gp} (h : GOk g) {i j : Nat} (hi : i < g.ms.length) (hj : j < g.ms.length) (si : g.ms[i].se = true) (sj : g.ms[j].se = true) (e : g.ms[i].ep = g.ms[j].ep) : i = j := by
  have a := h.ms i hi
  have b := h.ms j hj
  have la := a.hd (a.ok.2.2.1 si).2.1
  have lb := b.hd (b.ok.2.2.1 sj).2.1
  rw [e, lb, a.id, b.id] at la
  omega
end Go.Proofs.Ytcahaimefgkmiaa
