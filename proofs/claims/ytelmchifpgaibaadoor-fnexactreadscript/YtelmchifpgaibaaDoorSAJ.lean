/- Members, plain: what they are, what they hear, begin, adopt. -/
import Derived.Test.YtelmchifpgaibaaDoorSAH
import Derived.Test.YtelmchifpgaibaaDoorSAI
namespace Go.Proofs.YtelmchifpgaibaaDoor
open Go.RowKit
set_option linter.unusedVariables false

instance : DecidableEq Im := fun a b => decidable_of_iff (a.k = b.k ∧ a.v = b.v ∧ a.n = b.n) ⟨fun h => by cases a; cases b; simp_all, fun h => by rw [h]; exact ⟨rfl, rfl, rfl⟩⟩
structure Tk where
  op : Int
  cl : Int
  nu : Int
  it : Im
  lf : List Int
structure Mb where
  id : Int
  ep : Int
  fe : Bool
  ba : Bool
  le : Bool
  se : Bool
  wa : List Int
  is : List Im
  cn : Int
  tk : Tk
structure Sd where
  cl : Int
  ep : Int
  nu : Int
  it : Im
def zeroTk : Tk := ⟨0, 0, 0, zeroIm, []⟩
def zeroMb : Mb := ⟨0, 0, false, false, false, false, [], [], 0, zeroTk⟩
def okIds (l : List Int) : Prop := (∀ x ∈ l, 1 ≤ x ∧ x ≤ 6) ∧ l.Pairwise (· < ·)
instance (l : List Int) : Decidable (okIds l) := by unfold okIds; infer_instance
def noTk (t : Tk) : Prop := t.op = 0 ∧ t.cl = 0 ∧ t.nu = 0 ∧ t.it = zeroIm ∧ t.lf = []
instance (t : Tk) : Decidable (noTk t) := by unfold noTk; infer_instance
def okTk (t : Tk) (se : Bool) : Prop := noTk t ∨ ((t.op = 1 ∨ t.op = 2) ∧ se = true ∧ (0 ≤ t.cl ∧ t.cl ≤ 1000) ∧ (1 ≤ t.nu ∧ t.nu ≤ 900))
instance (t : Tk) (se : Bool) : Decidable (okTk t se) := by unfold okTk; infer_instance
def okMb (m : Mb) : Prop := (1 ≤ m.id ∧ m.id ≤ 6) ∧ (1 ≤ m.ep ∧ m.ep ≤ 9) ∧ (m.se = true → m.ba = true ∧ m.le = true ∧ m.wa = []) ∧ (m.fe = true → m.ba = false ∧ m.le = false) ∧ okIds m.wa ∧ okIds m.tk.lf ∧ okIms m.is ∧ (0 ≤ m.cn ∧ m.cn ≤ 900) ∧ okTk m.tk m.se
instance (m : Mb) : Decidable (okMb m) := by unfold okMb; infer_instance
def vwA (vs : List (List Int)) (e : Int) : List Int := vs.getD (e - 1).toNat []
def newMb (id : Int) (vs : List (List Int)) : Mb × Bool := if okViews vs ∧ (1 ≤ id ∧ id ≤ 6) then (⟨id, 1, false, decide (id ∈ vwA vs 1), decide ((vwA vs 1).headD 0 = id), decide ((vwA vs 1).headD 0 = id), [], [], 0, zeroTk⟩, true) else (zeroMb, false)
def othV (v : List Int) (id : Int) : List Int := ([1, 2, 3, 4, 5, 6] : List Int).filter (fun x => decide (x ≠ id) && decide (x ∈ v))
def wthV (l : List Int) (x : Int) : List Int := l.filter (fun y => decide (y ≠ x))
/-- A member that leads has the state. -/
def hasM (m : Mb) (v : List Int) (is : List Im) : Mb × List Ms := ({ m with ba := true, is := is, wa := othV v m.id, se := decide (othV v m.id = []) }, (wthV v m.id).map (fun t => ⟨3, m.id, t, m.ep, 0, is⟩))
def adoR (m : Mb) (vs : List (List Int)) (e : Int) : Prop := okMb m ∧ okViews vs ∧ (2 ≤ e ∧ e ≤ vs.length) ∧ m.ep < e ∧ (vwA vs e).headD 0 = m.id
instance (m : Mb) (vs : List (List Int)) (e : Int) : Decidable (adoR m vs e) := by unfold adoR; infer_instance
def ledM (m : Mb) (e : Int) : Mb := ⟨m.id, e, false, false, true, false, [], m.is, 0, zeroTk⟩
def hadM (m : Mb) (vs : List (List Int)) (e : Int) : Prop := m.ba = true ∧ m.ep = e - 1 ∧ m.id ∈ vwA vs (e - 1)
instance (m : Mb) (vs : List (List Int)) (e : Int) : Decidable (hadM m vs e) := by unfold hadM; infer_instance
def adoM (m : Mb) (vs : List (List Int)) (e : Int) : Mb × List Ms := if hadM m vs e then hasM (ledM m e) (vwA vs e) m.is else (ledM m e, (wthV (vwA vs (e - 1)) m.id).map (fun v => ⟨1, m.id, v, e, 0, []⟩))
def adopt (m : Mb) (vs : List (List Int)) (e : Int) : Mb × List Ms × Bool := if adoR m vs e then ((adoM m vs e).1, (adoM m vs e).2, true) else (zeroMb, [], false)
def bareM (m : Mb) (e : Int) : Mb := ⟨m.id, e, false, false, false, false, [], m.is, 0, zeroTk⟩
def instM (m : Mb) (e : Int) (is : List Im) : Mb := ⟨m.id, e, false, true, false, false, [], is, 0, zeroTk⟩
def finM (m : Mb) : Mb × List Sd := if m.tk.op = 1 then ({ m with is := putI m.is m.tk.it, tk := zeroTk }, [⟨m.tk.cl, m.ep, m.tk.nu, m.tk.it⟩]) else ({ m with tk := zeroTk }, [⟨m.tk.cl, m.ep, m.tk.nu, imOf m.is m.tk.it.k⟩])
def repM (m : Mb) (x : Ms) (k : Int) : List Ms := [⟨k, m.id, x.f, x.e, x.n, []⟩]
def leftM (m : Mb) (f : Int) : Mb := { m with tk := { m.tk with lf := wthV m.tk.lf f } }
def doneM (m : Mb) (f : Int) : Mb := { m with wa := wthV m.wa f, se := m.ba && decide (wthV m.wa f = []) }
def opOf (k : Int) : Int := if k = 8 then 2 else 1
/-- A message of its own Epoch. -/
def ownM (m : Mb) (v : List Int) (x : Ms) : Mb × List Ms × List Sd :=
  if x.k = 2 then (if m.le = true ∧ m.ba = false then ((hasM m v x.is).1, (hasM m v x.is).2, []) else (m, [], []))
  else if x.k = 3 then (if m.id ∉ v ∨ v.headD 0 = m.id then (m, [], []) else if m.ba = true then (m, repM m x 4, []) else if m.fe = true then (m, [], []) else (instM m m.ep x.is, repM m x 4, []))
  else if x.k = 4 then (if m.le = true then (doneM m x.f, [], []) else (m, [], []))
  else if x.k = 5 then (if m.ba = true then ({ m with is := putI m.is (x.is.headD zeroIm) }, repM m x 6, []) else (m, [], []))
  else if x.k = 7 then (if m.ba = true then (m, repM m x 8, []) else (m, [], []))
  else if x.k = 6 ∨ x.k = 8 then (if m.tk.op = opOf x.k ∧ m.tk.nu = x.n then (if wthV m.tk.lf x.f = [] then ((finM (leftM m x.f)).1, [], (finM (leftM m x.f)).2) else (leftM m x.f, [], [])) else (m, [], []))
  else (m, [], [])
def heaR (m : Mb) (vs : List (List Int)) (x : Ms) : Prop := okMb m ∧ okViews vs ∧ okMs x ∧ x.o = m.id ∧ m.ep ≤ x.e ∧ x.e ≤ vs.length ∧ m.ep ≤ vs.length
instance (m : Mb) (vs : List (List Int)) (x : Ms) : Decidable (heaR m vs x) := by unfold heaR; infer_instance
def hearM (m : Mb) (vs : List (List Int)) (x : Ms) : Mb × List Ms × List Sd :=
  if heaR m vs x then
    (if x.e = m.ep then ownM m (vwA vs m.ep) x
    else if x.k = 1 ∧ x.e = m.ep + 1 ∧ m.ba = true ∧ m.id ∈ vwA vs m.ep then (bareM m x.e, [⟨2, m.id, x.f, x.e, 0, m.is⟩], [])
    else if x.k = 3 ∧ m.id ∈ vwA vs x.e ∧ (vwA vs x.e).headD 0 ≠ m.id then (instM m x.e x.is, repM m x 4, [])
    else (m, [], []))
  else (m, [], [])
def begR (m : Mb) (vs : List (List Int)) (op cl : Int) (key val : ByteArray) : Prop := okMb m ∧ okViews vs ∧ m.se = true ∧ m.tk.op = 0 ∧ m.cn < 900 ∧ (op = 1 ∨ op = 2) ∧ (0 ≤ cl ∧ cl ≤ 1000) ∧ (1 ≤ key.size ∧ key.size ≤ 12) ∧ val.size ≤ 20 ∧ (op = 2 → val = ⟨#[]⟩) ∧ m.ep ≤ vs.length ∧ (vwA vs m.ep).headD 0 = m.id
instance (m : Mb) (vs : List (List Int)) (op cl : Int) (key val : ByteArray) : Decidable (begR m vs op cl key val) := by unfold begR; infer_instance
def begI (m : Mb) (key val : ByteArray) : Im := ⟨key, val, 1000 * m.ep + (m.cn + 1)⟩
def begM (m : Mb) (vs : List (List Int)) (op cl : Int) (key val : ByteArray) : Mb := { m with cn := m.cn + 1, tk := ⟨op, cl, m.cn + 1, begI m key val, othV (vwA vs m.ep) m.id⟩ }
def askM (m : Mb) (vs : List (List Int)) (op : Int) (key val : ByteArray) : List Ms := (wthV (vwA vs m.ep) m.id).map (fun t => if op = 1 then ⟨5, m.id, t, m.ep, m.cn + 1, [begI m key val]⟩ else ⟨7, m.id, t, m.ep, m.cn + 1, []⟩)
def begB (m : Mb) (vs : List (List Int)) (op cl : Int) (key val : ByteArray) : Prop := begR m vs op cl key val ∧ (op = 1 → imOf (putI m.is (begI m key val)) key = begI m key val)
instance (m : Mb) (vs : List (List Int)) (op cl : Int) (key val : ByteArray) : Decidable (begB m vs op cl key val) := by unfold begB; infer_instance
def begin_ (m : Mb) (vs : List (List Int)) (op cl : Int) (key val : ByteArray) : Mb × List Ms × List Sd × Bool :=
  if begB m vs op cl key val then
    (if othV (vwA vs m.ep) m.id = [] then ((finM (begM m vs op cl key val)).1, [], (finM (begM m vs op cl key val)).2, true)
    else (begM m vs op cl key val, askM m vs op key val, [], true))
  else (zeroMb, [], [], false)
def fallM (m : Mb) : Mb := ⟨m.id, m.ep, true, false, false, false, [], [], 0, zeroTk⟩
end Go.Proofs.YtelmchifpgaibaaDoor
namespace Go.Proofs.YtelmchifpgaibaaDoor
open Go.RowKit
set_option linter.unusedVariables false

theorem oth_ids (v : List Int) (id : Int) : okIds (othV v id) := by
  unfold othV
  exact ⟨fun x hx => (show ∀ x ∈ ([1, 2, 3, 4, 5, 6] : List Int), 1 ≤ x ∧ x ≤ 6 by decide) x (List.mem_filter.1 hx).1, List.Pairwise.filter _ (by decide)⟩
theorem wth_ids {l : List Int} (h : okIds l) (x : Int) : okIds (wthV l x) := ⟨fun y hy => h.1 y (List.mem_filter.1 hy).1, List.Pairwise.filter _ h.2⟩
theorem put_oks {l : List Im} (h : okIms l) (x : Im) : okIms (putI l x) := by
  unfold putI
  split
  · exact h
  · split
    · rename_i h2; exact h2.2
    · exact h
theorem put_grows {l : List Im} (h : okIms l) (x : Im) : ∀ y ∈ l, y.n ≤ (imOf (putI l x) y.k).n := by
  intro y hy
  unfold putI
  split
  · rw [imOf_of h.2.1 hy]; exact Int.le_refl _
  · rename_i hn
    split
    · rename_i h2
      have hn : newI l x = false := by simpa using hn
      by_cases c : y.k = x.k
      · have := newI_no hn y hy c
        rw [c, imOf_of h2.2.2.1 (ins_mem.2 (.inl rfl))]
        omega
      · rw [imOf_of h2.2.2.1 (ins_mem.2 (.inr ⟨hy, c⟩))]; exact Int.le_refl _
    · rw [imOf_of h.2.1 hy]; exact Int.le_refl _
theorem same_grows {l : List Im} (h : okIms l) : ∀ y ∈ l, y.n ≤ (imOf l y.k).n := fun y hy => by rw [imOf_of h.2.1 hy]; exact Int.le_refl _
theorem nil_oks : okIms [] := ⟨fun _ h => by simp at h, List.Pairwise.nil, Nat.zero_le _⟩
theorem nil_ids : okIds [] := ⟨fun _ h => by simp at h, List.Pairwise.nil⟩
theorem zero_tk : noTk zeroTk := ⟨rfl, rfl, rfl, rfl, rfl⟩
/-- A member without a task. -/
theorem ok_plain {i e c : Int} {f b l s : Bool} {wa : List Int} {is : List Im} (h1 : 1 ≤ i ∧ i ≤ 6) (h2 : 1 ≤ e ∧ e ≤ 9) (h3 : s = true → b = true ∧ l = true ∧ wa = []) (h4 : f = true → b = false ∧ l = false) (h5 : okIds wa) (h6 : okIms is) (h7 : 0 ≤ c ∧ c ≤ 900) : okMb ⟨i, e, f, b, l, s, wa, is, c, zeroTk⟩ :=
  ⟨h1, h2, h3, h4, h5, nil_ids, h6, h7, .inl zero_tk⟩
/-- What one has heard. -/
structure HearF (m : Mb) (r : Mb × List Ms × List Sd) : Prop where
  ok : okMb r.1
  id : r.1.id = m.id
  ep : m.ep ≤ r.1.ep
  msg : ∀ t ∈ r.2.1, okMs t ∧ t.f = m.id ∧ t.e = r.1.ep
  ba : r.1.ep = m.ep → m.ba = true → r.1.ba = true ∧ ∀ y ∈ m.is, y.n ≤ (imOf r.1.is y.k).n
theorem hear_same {m : Mb} (h : okMb m) : HearF m (m, [], []) := ⟨h, rfl, Int.le_refl _, fun t ht => by simp at ht, fun _ hb => ⟨hb, same_grows h.2.2.2.2.2.2.1⟩⟩
theorem many_none {k : Int} (h : k = 1 ∨ k = 4 ∨ k = 6 ∨ k = 7 ∨ k = 8) : manyOk k 0 := by
  unfold manyOk
  rw [if_neg (by omega), if_neg (by omega)]
theorem ok_ms {k f o e n : Int} {is : List Im} (h1 : 1 ≤ k ∧ k ≤ 8) (h2 : 1 ≤ f ∧ f ≤ 6) (h3 : 1 ≤ o ∧ o ≤ 6) (h4 : 1 ≤ e ∧ e ≤ 9) (h5 : 0 ≤ n ∧ n ≤ 1000000000) (h6 : okIms is) (h7 : manyOk k is.length) : okMs ⟨k, f, o, e, n, is⟩ := ⟨h1, h2, h3, h4, h5, h6, h7⟩
theorem rep_ok {m : Mb} {x : Ms} {k : Int} (h : okMb m) (hx : okMs x) (hk : k = 4 ∨ k = 6 ∨ k = 8) : ∀ t ∈ repM m x k, okMs t ∧ t.f = m.id ∧ t.e = x.e := by
  intro t ht
  unfold repM at ht
  rw [List.mem_singleton] at ht
  subst ht
  obtain ⟨x1, x2, x3, x4, x5, x6, x7⟩ := hx
  exact ⟨ok_ms (by omega) h.1 x2 x4 x5 nil_oks (many_none (by omega)), rfl, rfl⟩
theorem has_ok {m : Mb} {v : List Int} {is : List Im} (h : okMb m) (hv : ∀ x ∈ v, 1 ≤ x ∧ x ≤ 6) (hl : m.le = true) (hb : m.se = false ∨ m.tk = zeroTk) (hi : okIms is) : okMb (hasM m v is).1 ∧ ∀ t ∈ (hasM m v is).2, okMs t ∧ t.f = m.id ∧ t.e = m.ep ∧ t.k = 3 ∧ t.o ≠ m.id := by
  obtain ⟨h1, h2, h3, h4, h5, h6, h7, h8, h9⟩ := h
  have hfe : m.fe = false := by
    cases e : m.fe with
    | false => rfl
    | true => have := (h4 e).2; rw [hl] at this; cases this
  have htk : noTk m.tk := by
    rcases hb with hb | hb
    · rcases h9 with h9 | h9
      · exact h9
      · have := h9.2.1; rw [hb] at this; cases this
    · rw [hb]; exact zero_tk
  refine ⟨⟨h1, h2, fun hs => ⟨rfl, hl, by simpa [hasM] using hs⟩, fun hf => absurd (show m.fe = true from hf) (by rw [hfe]; decide), oth_ids _ _, h6, hi, h8, .inl htk⟩, ?_⟩
  intro t ht
  obtain ⟨y, hy, rfl⟩ := List.mem_map.1 ht
  have hy2 := List.mem_filter.1 hy
  exact ⟨ok_ms (by decide) h1 (hv y hy2.1) h2 (by decide) hi (by unfold manyOk; rw [if_pos (.inr rfl)]; trivial), rfl, rfl, rfl, by simpa using hy2.2⟩
theorem fin_ok {m : Mb} (h : okMb m) : okMb (finM m).1 ∧ (finM m).1.id = m.id ∧ (finM m).1.ep = m.ep ∧ (finM m).1.ba = m.ba ∧ (∀ y ∈ m.is, y.n ≤ (imOf (finM m).1.is y.k).n) := by
  obtain ⟨h1, h2, h3, h4, h5, h6, h7, h8, h9⟩ := h
  unfold finM
  split
  · exact ⟨⟨h1, h2, h3, h4, h5, nil_ids, put_oks h7 _, h8, .inl zero_tk⟩, rfl, rfl, rfl, put_grows h7 _⟩
  · exact ⟨⟨h1, h2, h3, h4, h5, nil_ids, h7, h8, .inl zero_tk⟩, rfl, rfl, rfl, same_grows h7⟩
theorem own_ok {m : Mb} {v : List Int} {x : Ms} (h : okMb m) (hv : ∀ x ∈ v, 1 ≤ x ∧ x ≤ 6) (hx : okMs x) (he : x.e = m.ep) : HearF m (ownM m v x) := by
  have h' := h
  obtain ⟨h1, h2, h3, h4, h5, h6, h7, h8, h9⟩ := h'
  have hxi := hx.2.2.2.2.2.1
  unfold ownM
  split
  · split
    · rename_i c2
      have hs : m.se = false := by
        cases e : m.se with
        | false => rfl
        | true => have := (h3 e).1; rw [c2.2] at this; cases this
      obtain ⟨a1, a2⟩ := has_ok (is := x.is) h hv c2.1 (.inl hs) hxi
      exact ⟨a1, rfl, Int.le_refl _, fun t ht => ⟨(a2 t ht).1, (a2 t ht).2.1, (a2 t ht).2.2.1⟩, fun _ hb => by rw [c2.2] at hb; cases hb⟩
    · exact hear_same h
  · split
    · split
      · exact hear_same h
      · split
        · rename_i cb
          exact ⟨h, rfl, Int.le_refl _, fun t ht => by have := rep_ok h hx (.inl rfl) t ht; rw [he] at this; exact this, fun _ _ => ⟨cb, same_grows h7⟩⟩
        · rename_i cb
          split
          · exact hear_same h
          · exact ⟨ok_plain h1 h2 (fun e => by cases e) (fun e => by cases e) nil_ids hxi (by decide), rfl, Int.le_refl _, fun t ht => by have := rep_ok h hx (.inl rfl) t ht; rw [he] at this; exact this, fun _ hb => absurd hb cb⟩
    · split
      · split
        · rename_i cl
          have hfe : m.fe = false := by
            cases e : m.fe with
            | false => rfl
            | true => have := (h4 e).2; rw [cl] at this; cases this
          refine ⟨⟨h1, h2, fun hs => ?_, h4, wth_ids h5 _, h6, h7, h8, ?_⟩, rfl, Int.le_refl _, fun t ht => by simp at ht, fun _ hb => ⟨hb, same_grows h7⟩⟩
          · have hs : (m.ba && decide (wthV m.wa x.f = [])) = true := hs
            rw [Bool.and_eq_true, decide_eq_true_eq] at hs
            exact ⟨hs.1, cl, hs.2⟩
          · rcases h9 with h9 | ⟨n1, n2, n3, n4⟩
            · exact .inl h9
            · refine .inr ⟨n1, ?_, n3, n4⟩
              obtain ⟨b1, b2, b3⟩ := h3 n2
              show (m.ba && decide (wthV m.wa x.f = [])) = true
              rw [b1, b3]
              rfl
        · exact hear_same h
      · split
        · split
          · rename_i cb
            exact ⟨⟨h1, h2, h3, h4, h5, h6, put_oks h7 _, h8, h9⟩, rfl, Int.le_refl _, fun t ht => by have := rep_ok h hx (.inr (.inl rfl)) t ht; rw [he] at this; exact this, fun _ _ => ⟨cb, put_grows h7 _⟩⟩
          · exact hear_same h
        · split
          · split
            · rename_i cb
              exact ⟨h, rfl, Int.le_refl _, fun t ht => by have := rep_ok h hx (.inr (.inr rfl)) t ht; rw [he] at this; exact this, fun _ _ => ⟨cb, same_grows h7⟩⟩
            · exact hear_same h
          · split
            · split
              · have hl : okMb (leftM m x.f) := ⟨h1, h2, h3, h4, h5, wth_ids h6 _, h7, h8, by
                  rcases h9 with ⟨n1, n2, n3, n4, n5⟩ | h9
                  · exact .inl ⟨n1, n2, n3, n4, by show wthV m.tk.lf x.f = []; rw [n5]; rfl⟩
                  · exact .inr h9⟩
                split
                · obtain ⟨f1, f2, f3, f4, f5⟩ := fin_ok hl
                  exact ⟨f1, f2, by rw [f3]; exact Int.le_refl _, fun t ht => by simp at ht, fun _ hb => ⟨by rw [f4]; exact hb, f5⟩⟩
                · exact ⟨hl, rfl, Int.le_refl _, fun t ht => by simp at ht, fun _ hb => ⟨hb, same_grows h7⟩⟩
              · exact hear_same h
            · exact hear_same h
theorem view_in {vs : List (List Int)} (h : okViews vs) (e : Int) : ∀ x ∈ vwA vs e, 1 ≤ x ∧ x ≤ 6 := by
  intro x hx
  unfold vwA at hx
  rw [List.getD_eq_getElem?_getD] at hx
  by_cases c : (e - 1).toNat < vs.length
  · rw [List.getElem?_eq_getElem c] at hx
    exact (h.1 _ (List.getElem_mem c)).2.1 x hx
  · rw [List.getElem?_eq_none (by omega)] at hx
    simp at hx
theorem view_ok {vs : List (List Int)} (h : okViews vs) {e : Int} (h1 : 1 ≤ e) (h2 : e ≤ vs.length) : okView (vwA vs e) := by
  unfold vwA
  have c : (e - 1).toNat < vs.length := by omega
  rw [List.getD_eq_getElem?_getD, List.getElem?_eq_getElem c]
  exact h.1 _ (List.getElem_mem c)
theorem hear_ok {m : Mb} {vs : List (List Int)} (x : Ms) (h : okMb m) (hv : okViews vs) : HearF m (hearM m vs x) := by
  unfold hearM
  split
  · rename_i c
    obtain ⟨_, _, hx, _, c4, c5, c6⟩ := c
    obtain ⟨h1, h2, h3, h4, h5, h6, h7, h8, h9⟩ := h
    have h : okMb m := ⟨h1, h2, h3, h4, h5, h6, h7, h8, h9⟩
    have hxe := hx.2.2.2.1
    split
    · rename_i e
      exact own_ok h (view_in hv _) hx e
    · rename_i e
      split
      · refine ⟨ok_plain h1 hxe (fun e => by cases e) (fun e => by cases e) nil_ids h7 (by decide), rfl, c4, fun t ht => ?_, fun e2 => absurd e2 e⟩
        rw [List.mem_singleton] at ht
        subst ht
        exact ⟨ok_ms (by decide) h1 hx.2.1 hxe (by decide) h7 (by unfold manyOk; rw [if_pos (.inl rfl)]; trivial), rfl, rfl⟩
      · split
        · exact ⟨ok_plain h1 hxe (fun e => by cases e) (fun e => by cases e) nil_ids hx.2.2.2.2.2.1 (by decide), rfl, c4, fun t ht => rep_ok h hx (.inl rfl) t ht, fun e2 => absurd e2 e⟩
        · exact hear_same h
  · exact hear_same h
theorem fall_ok {m : Mb} (h : okMb m) : okMb (fallM m) := ok_plain h.1 h.2.1 (fun e => by cases e) (fun _ => ⟨rfl, rfl⟩) nil_ids nil_oks (by decide)
theorem new_ok {id : Int} {vs : List (List Int)} (hv : okViews vs) (hi : 1 ≤ id ∧ id ≤ 6) : okMb (newMb id vs).1 ∧ (newMb id vs).2 = true ∧ (newMb id vs).1.id = id := by
  unfold newMb
  rw [if_pos ⟨hv, hi⟩]
  refine ⟨ok_plain hi (by decide) (fun e => ?_) (fun e => by cases e) nil_ids nil_oks (by decide), rfl, rfl⟩
  refine ⟨?_, e, rfl⟩
  rw [decide_eq_true_eq] at e
  have h0 := view_ok hv (e := 1) (by decide) (by have := hv.2.1; omega)
  rw [decide_eq_true_eq]
  cases hc : vwA vs 1 with
  | nil => rw [hc] at h0; exact absurd h0.1.1 (by simp)
  | cons y t => rw [hc] at e; simp at e; rw [e]; simp
end Go.Proofs.YtelmchifpgaibaaDoor
