/- Members, plain: they stay right. -/
import Derived.Test.YtpjgplohlchpoaaGreatDoorUAH
import Derived.Test.YtpjgplohlchpoaaGreatDoorUAA
namespace Go.Proofs.YtpjgplohlchpoaaGreatDoor
open Go.RowKit
set_option linter.unusedVariables false

theorem oth_ids (v : List Int) (id : Int) : okIds (othV v id) := by
  unfold othV
  exact ⟨fun x hx => (show ∀ x ∈ ([1, 2, 3, 4, 5, 6] : List Int), 1 ≤ x ∧ x ≤ 6 by decide) x (List.mem_filter.1 hx).1, List.Pairwise.filter _ (by decide)⟩
theorem wth_ids {l : List Int} (h : okIds l) (x : Int) : okIds (wthV l x) := ⟨fun y hy => h.1 y (List.mem_filter.1 hy).1, List.Pairwise.filter _ h.2⟩
theorem put_oks {l : List Im} (h : okIms l) (x : Im) : okIms (putI l x) := by
  unfold putI
  split
  · exact h
  · split
    · rename_i h2; exact h2.2
    · exact h
theorem put_grows {l : List Im} (h : okIms l) (x : Im) : ∀ y ∈ l, y.n ≤ (imOf (putI l x) y.k).n := by
  intro y hy
  unfold putI
  split
  · rw [imOf_of h.2.1 hy]; exact Int.le_refl _
  · rename_i hn
    split
    · rename_i h2
      have hn : newI l x = false := by simpa using hn
      by_cases c : y.k = x.k
      · have := newI_no hn y hy c
        rw [c, imOf_of h2.2.2.1 (ins_mem.2 (.inl rfl))]
        omega
      · rw [imOf_of h2.2.2.1 (ins_mem.2 (.inr ⟨hy, c⟩))]; exact Int.le_refl _
    · rw [imOf_of h.2.1 hy]; exact Int.le_refl _
theorem same_grows {l : List Im} (h : okIms l) : ∀ y ∈ l, y.n ≤ (imOf l y.k).n := fun y hy => by rw [imOf_of h.2.1 hy]; exact Int.le_refl _
theorem nil_oks : okIms [] := ⟨fun _ h => by simp at h, List.Pairwise.nil, Nat.zero_le _⟩
theorem nil_ids : okIds [] := ⟨fun _ h => by simp at h, List.Pairwise.nil⟩
theorem zero_tk : noTk zeroTk := ⟨rfl, rfl, rfl, rfl, rfl⟩
/-- A member without a task. -/
theorem ok_plain {i e c : Int} {f b l s : Bool} {wa : List Int} {is : List Im} (h1 : 1 ≤ i ∧ i ≤ 6) (h2 : 1 ≤ e ∧ e ≤ 9) (h3 : s = true → b = true ∧ l = true ∧ wa = []) (h4 : f = true → b = false ∧ l = false) (h5 : okIds wa) (h6 : okIms is) (h7 : 0 ≤ c ∧ c ≤ 900) : okMb ⟨i, e, f, b, l, s, wa, is, c, zeroTk⟩ :=
  ⟨h1, h2, h3, h4, h5, nil_ids, h6, h7, .inl zero_tk⟩
/-- What one has heard. -/
structure HearF (m : Mb) (r : Mb × List Ms × List Sd) : Prop where
  ok : okMb r.1
  id : r.1.id = m.id
  ep : m.ep ≤ r.1.ep
  msg : ∀ t ∈ r.2.1, okMs t ∧ t.f = m.id ∧ t.e = r.1.ep
  ba : r.1.ep = m.ep → m.ba = true → r.1.ba = true ∧ ∀ y ∈ m.is, y.n ≤ (imOf r.1.is y.k).n
theorem hear_same {m : Mb} (h : okMb m) : HearF m (m, [], []) := ⟨h, rfl, Int.le_refl _, fun t ht => by simp at ht, fun _ hb => ⟨hb, same_grows h.2.2.2.2.2.2.1⟩⟩
theorem many_none {k : Int} (h : k = 1 ∨ k = 4 ∨ k = 6 ∨ k = 7 ∨ k = 8) : manyOk k 0 := by
  unfold manyOk
  rw [if_neg (by omega), if_neg (by omega)]
theorem ok_ms {k f o e n : Int} {is : List Im} (h1 : 1 ≤ k ∧ k ≤ 8) (h2 : 1 ≤ f ∧ f ≤ 6) (h3 : 1 ≤ o ∧ o ≤ 6) (h4 : 1 ≤ e ∧ e ≤ 9) (h5 : 0 ≤ n ∧ n ≤ 1000000000) (h6 : okIms is) (h7 : manyOk k is.length) : okMs ⟨k, f, o, e, n, is⟩ := ⟨h1, h2, h3, h4, h5, h6, h7⟩
theorem rep_ok {m : Mb} {x : Ms} {k : Int} (h : okMb m) (hx : okMs x) (hk : k = 4 ∨ k = 6 ∨ k = 8) : ∀ t ∈ repM m x k, okMs t ∧ t.f = m.id ∧ t.e = x.e := by
  intro t ht
  unfold repM at ht
  rw [List.mem_singleton] at ht
  subst ht
  obtain ⟨x1, x2, x3, x4, x5, x6, x7⟩ := hx
  exact ⟨ok_ms (by omega) h.1 x2 x4 x5 nil_oks (many_none (by omega)), rfl, rfl⟩
theorem has_ok {m : Mb} {v : List Int} {is : List Im} (h : okMb m) (hv : ∀ x ∈ v, 1 ≤ x ∧ x ≤ 6) (hl : m.le = true) (hb : m.se = false ∨ m.tk = zeroTk) (hi : okIms is) : okMb (hasM m v is).1 ∧ ∀ t ∈ (hasM m v is).2, okMs t ∧ t.f = m.id ∧ t.e = m.ep ∧ t.k = 3 ∧ t.o ≠ m.id := by
  obtain ⟨h1, h2, h3, h4, h5, h6, h7, h8, h9⟩ := h
  have hfe : m.fe = false := by
    cases e : m.fe with
    | false => rfl
    | true => have := (h4 e).2; rw [hl] at this; cases this
  have htk : noTk m.tk := by
    rcases hb with hb | hb
    · rcases h9 with h9 | h9
      · exact h9
      · have := h9.2.1; rw [hb] at this; cases this
    · rw [hb]; exact zero_tk
  refine ⟨⟨h1, h2, fun hs => ⟨rfl, hl, by simpa [hasM] using hs⟩, fun hf => absurd (show m.fe = true from hf) (by rw [hfe]; decide), oth_ids _ _, h6, hi, h8, .inl htk⟩, ?_⟩
  intro t ht
  obtain ⟨y, hy, rfl⟩ := List.mem_map.1 ht
  have hy2 := List.mem_filter.1 hy
  exact ⟨ok_ms (by decide) h1 (hv y hy2.1) h2 (by decide) hi (by unfold manyOk; rw [if_pos (.inr rfl)]; trivial), rfl, rfl, rfl, by simpa using hy2.2⟩
theorem fin_ok {m : Mb} (h : okMb m) : okMb (finM m).1 ∧ (finM m).1.id = m.id ∧ (finM m).1.ep = m.ep ∧ (finM m).1.ba = m.ba ∧ (∀ y ∈ m.is, y.n ≤ (imOf (finM m).1.is y.k).n) := by
  obtain ⟨h1, h2, h3, h4, h5, h6, h7, h8, h9⟩ := h
  unfold finM
  split
  · exact ⟨⟨h1, h2, h3, h4, h5, nil_ids, put_oks h7 _, h8, .inl zero_tk⟩, rfl, rfl, rfl, put_grows h7 _⟩
  · exact ⟨⟨h1, h2, h3, h4, h5, nil_ids, h7, h8, .inl zero_tk⟩, rfl, rfl, rfl, same_grows h7⟩
theorem own_ok {m : Mb} {v : List Int} {x : Ms} (h : okMb m) (hv : ∀ x ∈ v, 1 ≤ x ∧ x ≤ 6) (hx : okMs x) (he : x.e = m.ep) : HearF m (ownM m v x) := by
  have h' := h
  obtain ⟨h1, h2, h3, h4, h5, h6, h7, h8, h9⟩ := h'
  have hxi := hx.2.2.2.2.2.1
  unfold ownM
  split
  · split
    · rename_i c2
      have hs : m.se = false := by
        cases e : m.se with
        | false => rfl
        | true => have := (h3 e).1; rw [c2.2] at this; cases this
      obtain ⟨a1, a2⟩ := has_ok (is := x.is) h hv c2.1 (.inl hs) hxi
      exact ⟨a1, rfl, Int.le_refl _, fun t ht => ⟨(a2 t ht).1, (a2 t ht).2.1, (a2 t ht).2.2.1⟩, fun _ hb => by rw [c2.2] at hb; cases hb⟩
    · exact hear_same h
  · split
    · split
      · exact hear_same h
      · split
        · rename_i cb
          exact ⟨h, rfl, Int.le_refl _, fun t ht => by have := rep_ok h hx (.inl rfl) t ht; rw [he] at this; exact this, fun _ _ => ⟨cb, same_grows h7⟩⟩
        · rename_i cb
          split
          · exact hear_same h
          · exact ⟨ok_plain h1 h2 (fun e => by cases e) (fun e => by cases e) nil_ids hxi (by decide), rfl, Int.le_refl _, fun t ht => by have := rep_ok h hx (.inl rfl) t ht; rw [he] at this; exact this, fun _ hb => absurd hb cb⟩
    · split
      · split
        · rename_i cl
          have hfe : m.fe = false := by
            cases e : m.fe with
            | false => rfl
            | true => have := (h4 e).2; rw [cl] at this; cases this
          refine ⟨⟨h1, h2, fun hs => ?_, h4, wth_ids h5 _, h6, h7, h8, ?_⟩, rfl, Int.le_refl _, fun t ht => by simp at ht, fun _ hb => ⟨hb, same_grows h7⟩⟩
          · have hs : (m.ba && decide (wthV m.wa x.f = [])) = true := hs
            rw [Bool.and_eq_true, decide_eq_true_eq] at hs
            exact ⟨hs.1, cl, hs.2⟩
          · rcases h9 with h9 | ⟨n1, n2, n3, n4⟩
            · exact .inl h9
            · refine .inr ⟨n1, ?_, n3, n4⟩
              obtain ⟨b1, b2, b3⟩ := h3 n2
              show (m.ba && decide (wthV m.wa x.f = [])) = true
              rw [b1, b3]
              rfl
        · exact hear_same h
      · split
        · split
          · rename_i cb
            exact ⟨⟨h1, h2, h3, h4, h5, h6, put_oks h7 _, h8, h9⟩, rfl, Int.le_refl _, fun t ht => by have := rep_ok h hx (.inr (.inl rfl)) t ht; rw [he] at this; exact this, fun _ _ => ⟨cb, put_grows h7 _⟩⟩
          · exact hear_same h
        · split
          · split
            · rename_i cb
              exact ⟨h, rfl, Int.le_refl _, fun t ht => by have := rep_ok h hx (.inr (.inr rfl)) t ht; rw [he] at this; exact this, fun _ _ => ⟨cb, same_grows h7⟩⟩
            · exact hear_same h
          · split
            · split
              · have hl : okMb (leftM m x.f) := ⟨h1, h2, h3, h4, h5, wth_ids h6 _, h7, h8, by
                  rcases h9 with ⟨n1, n2, n3, n4, n5⟩ | h9
                  · exact .inl ⟨n1, n2, n3, n4, by show wthV m.tk.lf x.f = []; rw [n5]; rfl⟩
                  · exact .inr h9⟩
                split
                · obtain ⟨f1, f2, f3, f4, f5⟩ := fin_ok hl
                  exact ⟨f1, f2, by rw [f3]; exact Int.le_refl _, fun t ht => by simp at ht, fun _ hb => ⟨by rw [f4]; exact hb, f5⟩⟩
                · exact ⟨hl, rfl, Int.le_refl _, fun t ht => by simp at ht, fun _ hb => ⟨hb, same_grows h7⟩⟩
              · exact hear_same h
            · exact hear_same h
theorem view_in {vs : List (List Int)} (h : okViews vs) (e : Int) : ∀ x ∈ vwA vs e, 1 ≤ x ∧ x ≤ 6 := by
  intro x hx
  unfold vwA at hx
  rw [List.getD_eq_getElem?_getD] at hx
  by_cases c : (e - 1).toNat < vs.length
  · rw [List.getElem?_eq_getElem c] at hx
    exact (h.1 _ (List.getElem_mem c)).2.1 x hx
  · rw [List.getElem?_eq_none (by omega)] at hx
    simp at hx
theorem view_ok {vs : List (List Int)} (h : okViews vs) {e : Int} (h1 : 1 ≤ e) (h2 : e ≤ vs.length) : okView (vwA vs e) := by
  unfold vwA
  have c : (e - 1).toNat < vs.length := by omega
  rw [List.getD_eq_getElem?_getD, List.getElem?_eq_getElem c]
  exact h.1 _ (List.getElem_mem c)
theorem hear_ok {m : Mb} {vs : List (List Int)} (x : Ms) (h : okMb m) (hv : okViews vs) : HearF m (hearM m vs x) := by
  unfold hearM
  split
  · rename_i c
    obtain ⟨_, _, hx, _, c4, c5, c6⟩ := c
    obtain ⟨h1, h2, h3, h4, h5, h6, h7, h8, h9⟩ := h
    have h : okMb m := ⟨h1, h2, h3, h4, h5, h6, h7, h8, h9⟩
    have hxe := hx.2.2.2.1
    split
    · rename_i e
      exact own_ok h (view_in hv _) hx e
    · rename_i e
      split
      · refine ⟨ok_plain h1 hxe (fun e => by cases e) (fun e => by cases e) nil_ids h7 (by decide), rfl, c4, fun t ht => ?_, fun e2 => absurd e2 e⟩
        rw [List.mem_singleton] at ht
        subst ht
        exact ⟨ok_ms (by decide) h1 hx.2.1 hxe (by decide) h7 (by unfold manyOk; rw [if_pos (.inl rfl)]; trivial), rfl, rfl⟩
      · split
        · exact ⟨ok_plain h1 hxe (fun e => by cases e) (fun e => by cases e) nil_ids hx.2.2.2.2.2.1 (by decide), rfl, c4, fun t ht => rep_ok h hx (.inl rfl) t ht, fun e2 => absurd e2 e⟩
        · exact hear_same h
  · exact hear_same h
theorem fall_ok {m : Mb} (h : okMb m) : okMb (fallM m) := ok_plain h.1 h.2.1 (fun e => by cases e) (fun _ => ⟨rfl, rfl⟩) nil_ids nil_oks (by decide)
theorem new_ok {id : Int} {vs : List (List Int)} (hv : okViews vs) (hi : 1 ≤ id ∧ id ≤ 6) : okMb (newMb id vs).1 ∧ (newMb id vs).2 = true ∧ (newMb id vs).1.id = id := by
  unfold newMb
  rw [if_pos ⟨hv, hi⟩]
  refine ⟨ok_plain hi (by decide) (fun e => ?_) (fun e => by cases e) nil_ids nil_oks (by decide), rfl, rfl⟩
  refine ⟨?_, e, rfl⟩
  rw [decide_eq_true_eq] at e
  have h0 := view_ok hv (e := 1) (by decide) (by have := hv.2.1; omega)
  rw [decide_eq_true_eq]
  cases hc : vwA vs 1 with
  | nil => rw [hc] at h0; exact absurd h0.1.1 (by simp)
  | cons y t => rw [hc] at e; simp at e; rw [e]; simp
end Go.Proofs.YtpjgplohlchpoaaGreatDoor
namespace Go.Proofs.YtpjgplohlchpoaaGreatDoor
open Go.RowKit
set_option linter.unusedVariables false

theorem oth_perm {v : List Int} (h : okView v) (id : Int) : (othV v id).Perm (wthV v id) := by
  have n1 : (othV v id).Nodup := List.Pairwise.filter _ (by decide)
  have n2 : (wthV v id).Nodup := List.Pairwise.filter _ h.2.2
  rw [List.perm_ext_iff_of_nodup n1 n2]
  intro x
  unfold othV wthV
  rw [List.mem_filter, List.mem_filter]
  constructor
  · rintro ⟨_, h2⟩
    simp at h2
    exact ⟨h2.2, by simpa using h2.1⟩
  · rintro ⟨h1, h2⟩
    have hx := h.2.1 x h1
    refine ⟨?_, by simp at h2; simp [h1, h2]⟩
    have : x = 1 ∨ x = 2 ∨ x = 3 ∨ x = 4 ∨ x = 5 ∨ x = 6 := by omega
    simpa using this
theorem oth_len {v : List Int} (h : okView v) (id : Int) : (othV v id).length = (wthV v id).length := (oth_perm h id).length_eq
theorem wth_no {l : List Int} {x : Int} (h : x ∉ l) : wthV l x = l := by
  unfold wthV
  rw [List.filter_eq_self]
  intro y hy
  simp
  intro e
  exact h (e ▸ hy)
theorem head_of {v : List Int} {id : Int} (h : okView v) (hd : v.headD 0 = id) : ∃ t, v = id :: t ∧ wthV v id = t := by
  cases v with
  | nil => exact absurd h.1.1 (by simp)
  | cons y t =>
    have hd : y = id := hd
    subst hd
    have hn := h.2.2
    rw [List.nodup_cons] at hn
    refine ⟨t, rfl, ?_⟩
    unfold wthV
    rw [List.filter_cons, if_neg (by simp)]
    exact wth_no hn.1
theorem oth_nil {v : List Int} {id : Int} (h : okView v) (hd : v.headD 0 = id) : othV v id = [] ↔ v.length = 1 := by
  obtain ⟨t, rfl, ht⟩ := head_of h hd
  have h1 := oth_len h id
  rw [ht] at h1
  constructor
  · intro e
    rw [e] at h1
    simp at h1 ⊢
    exact List.eq_nil_of_length_eq_zero (by omega)
  · intro e
    simp at e
    subst e
    exact List.eq_nil_of_length_eq_zero h1
theorem ado_ok {m : Mb} {vs : List (List Int)} {e : Int} (h : adoR m vs e) : okMb (adoM m vs e).1 ∧ (adoM m vs e).1.le = true ∧ (adoM m vs e).1.ep = e ∧ (adoM m vs e).1.id = m.id ∧ ((adoM m vs e).1.se = true → (vwA vs e).length = 1) ∧ ((adoM m vs e).1.ba = true → m.ep = e - 1 ∧ m.ba = true) ∧ (∀ t ∈ (adoM m vs e).2, okMs t ∧ ((adoM m vs e).1.ba = decide (t.k = 3)) ∧ t.o ≠ m.id ∧ t.f = m.id ∧ t.e = e) := by
  obtain ⟨hm, hv, he, hlt, hd⟩ := h
  obtain ⟨h1, h2, h3, h4, h5, h6, h7, h8, h9⟩ := hm
  have he9 : 1 ≤ e ∧ e ≤ 9 := by have := hv.2.2; omega
  have hled : okMb (ledM m e) := ok_plain h1 he9 (fun e => by cases e) (fun e => by cases e) nil_ids h7 (by decide)
  have hvw := view_ok hv (e := e) (by omega) (by omega)
  unfold adoM
  split
  · rename_i c
    obtain ⟨a1, a2⟩ := has_ok (m := ledM m e) (v := vwA vs e) hled (view_in hv e) rfl (.inr rfl) h7
    refine ⟨a1, rfl, rfl, rfl, fun hs => ?_, fun _ => ⟨c.2.1, c.1⟩, fun t ht => ⟨(a2 t ht).1, ?_, (a2 t ht).2.2.2.2, (a2 t ht).2.1, (a2 t ht).2.2.1⟩⟩
    · have hs : decide (othV (vwA vs e) m.id = []) = true := hs
      rw [decide_eq_true_eq] at hs
      exact (oth_nil hvw hd).1 hs
    · rw [(a2 t ht).2.2.2.1]
      rfl
  · refine ⟨hled, rfl, rfl, rfl, (fun hs => by cases hs), (fun hb => by cases hb), fun t ht => ?_⟩
    obtain ⟨y, hy, rfl⟩ := List.mem_map.1 ht
    have hy2 := List.mem_filter.1 hy
    exact ⟨ok_ms (by decide) h1 (view_in hv _ y hy2.1) he9 (by decide) nil_oks (many_none (.inl rfl)), rfl, by simpa using hy2.2, rfl, rfl⟩
theorem beg_m {m : Mb} {vs : List (List Int)} {op cl : Int} {key val : ByteArray} (h : begR m vs op cl key val) : okMb (begM m vs op cl key val) := by
  obtain ⟨hm, hv, hs, ht, hc, ho, hcl, hk, hvl, _, _, _⟩ := h
  obtain ⟨h1, h2, h3, h4, h5, h6, h7, h8, h9⟩ := hm
  exact ⟨h1, h2, h3, h4, h5, oth_ids _ _, h7, (show 0 ≤ m.cn + 1 ∧ m.cn + 1 ≤ 900 by omega), .inr ⟨ho, hs, hcl, (show 1 ≤ m.cn + 1 ∧ m.cn + 1 ≤ 900 by omega)⟩⟩
theorem beg_ok {m : Mb} {vs : List (List Int)} {op cl : Int} {key val : ByteArray} (h : begB m vs op cl key val) : okMb (begin_ m vs op cl key val).1 ∧ (begin_ m vs op cl key val).1.id = m.id ∧ (begin_ m vs op cl key val).1.ep = m.ep := by
  unfold begin_
  rw [if_pos h]
  have hb := beg_m h.1
  split
  · obtain ⟨f1, f2, f3, _⟩ := fin_ok hb
    exact ⟨f1, f2, f3⟩
  · exact ⟨hb, rfl, rfl⟩
/-- What is asked, of others alone. -/
theorem ask_ok {m : Mb} {vs : List (List Int)} {op cl : Int} {key val : ByteArray} (h : begR m vs op cl key val) : ∀ t ∈ askM m vs op key val, t.o ∈ vwA vs m.ep ∧ t.f = m.id ∧ t.e = m.ep ∧ (1 ≤ t.o ∧ t.o ≤ 6) ∧ (op = 1 → t.k = 5 ∧ t.is = [begI m key val]) := by
  intro t ht
  obtain ⟨y, hy, rfl⟩ := List.mem_map.1 ht
  have hy2 := List.mem_filter.1 hy
  have hy3 := view_in h.2.1 _ y hy2.1
  by_cases c : op = 1
  · rw [if_pos c]
    exact ⟨hy2.1, rfl, rfl, hy3, fun _ => ⟨rfl, rfl⟩⟩
  · rw [if_neg c]
    exact ⟨hy2.1, rfl, rfl, hy3, fun e => absurd e c⟩
theorem ask_len {m : Mb} {vs : List (List Int)} {op cl : Int} {key val : ByteArray} (h : begR m vs op cl key val) : (askM m vs op key val).length + 1 = (vwA vs m.ep).length ∧ (othV (vwA vs m.ep) m.id).length + 1 = (vwA vs m.ep).length := by
  obtain ⟨hm, hv, _, _, _, _, _, _, _, _, hl, hd⟩ := h
  have hvw := view_ok hv hm.2.1.1 hl
  obtain ⟨t, ht, hw⟩ := head_of hvw hd
  have h2 := oth_len hvw m.id
  have h3 : (askM m vs op key val).length = (wthV (vwA vs m.ep) m.id).length := by unfold askM; rw [List.length_map]
  rw [hw] at h2 h3
  have h4 : (vwA vs m.ep).length = t.length + 1 := by rw [ht]; rfl
  omega
theorem beg_busy {m : Mb} {vs : List (List Int)} {op cl op2 cl2 : Int} {key val key2 val2 : ByteArray} (ho : op = 1 ∨ op = 2) : (begin_ (begM m vs op cl key val) vs op2 cl2 key2 val2).2.2.2 = false := by
  unfold begin_
  rw [if_neg (fun h => by
    have h1 : op = 0 := h.1.2.2.2.1
    omega)]
theorem seal_hear {m : Mb} {vs : List (List Int)} (h : okMb m) (hv : okViews vs) (hl : m.ep < vs.length) (hb : m.ba = true) (hi : m.id ∈ vwA vs m.ep) : hearM m vs ⟨1, 5, m.id, m.ep + 1, 0, []⟩ = (bareM m (m.ep + 1), [⟨2, m.id, 5, m.ep + 1, 0, m.is⟩], []) := by
  have h9 := hv.2.2
  have h1 := h.2.1
  unfold hearM
  rw [if_pos ⟨h, hv, ok_ms (by decide) (by decide) h.1 (by omega) (by decide) nil_oks (many_none (.inl rfl)), rfl, (by show m.ep ≤ m.ep + 1; omega), (by show m.ep + 1 ≤ _; omega), (by omega)⟩]
  rw [if_neg (by show ¬ m.ep + 1 = m.ep; omega), if_pos ⟨rfl, rfl, hb, hi⟩]
theorem bare_hear {m : Mb} {vs : List (List Int)} (e k : Int) (hk : k = 1 ∨ k = 7) : hearM (bareM m e) vs ⟨k, 5, m.id, e, 0, []⟩ = (bareM m e, [], []) := by
  unfold hearM
  split
  · refine (if_pos rfl).trans ?_
    unfold ownM
    rw [if_neg (by show ¬ k = 2; omega), if_neg (by show ¬ k = 3; omega), if_neg (by show ¬ k = 4; omega), if_neg (by show ¬ k = 5; omega)]
    split
    · rw [if_neg (by show ¬ false = true; decide)]
    · rw [if_neg (by show ¬ (k = 6 ∨ k = 8); omega)]
  · rfl
theorem late_hear {m : Mb} {vs : List (List Int)} {e : Int} (x : Ms) (hx : x.e < e) : hearM (bareM m e) vs x = (bareM m e, [], []) := by
  unfold hearM
  rw [if_neg (fun h => by have h1 : e ≤ x.e := h.2.2.2.2.1; omega)]
theorem bare_begin {m : Mb} {vs : List (List Int)} {e op cl : Int} {key val : ByteArray} : begin_ (bareM m e) vs op cl key val = (zeroMb, [], [], false) := by
  unfold begin_
  rw [if_neg (fun h => by have h1 : false = true := h.1.2.2.1; cases h1)]
end Go.Proofs.YtpjgplohlchpoaaGreatDoor
namespace Go.Proofs.YtpjgplohlchpoaaGreatDoor

structure Cl where
  op : Int
  key : ByteArray
  val : ByteArray
  wh : Int
  dn : Int
  vr : Int
  ep : Int
  nu : Int
  gt : ByteArray
def zeroCl : Cl := ⟨0, ⟨#[]⟩, ⟨#[]⟩, 0, 0, 0, 0, 0, ⟨#[]⟩⟩
end Go.Proofs.YtpjgplohlchpoaaGreatDoor
