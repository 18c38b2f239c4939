/- A group, plain: what its events do; what holds of its members and messages. -/
import Derived.Test.YtpjgplohlchpoaaGreatDoorUAM
namespace Go.Proofs.YtpjgplohlchpoaaGreatDoor
open Go.RowKit
set_option linter.unusedVariables false

structure Ev where
  k : Int
  n : Int
  pl : Int
  op : Int
  key : ByteArray
  val : ByteArray
structure Gp where
  vs : List (List Int)
  ms : List Mb
  fl : List Ms
  cs : List Cl
def zeroMs : Ms := ⟨0, 0, 0, 0, 0, []⟩
def okEv (e : Ev) : Prop := (1 ≤ e.k ∧ e.k ≤ 6) ∧ (1 ≤ e.n ∧ e.n ≤ 6) ∧ 0 ≤ e.pl ∧ (e.k ≠ 1 → e.op = 0 ∧ e.key = ⟨#[]⟩ ∧ e.val = ⟨#[]⟩) ∧ (e.k = 1 → (e.op = 1 ∨ e.op = 2) ∧ (1 ≤ e.key.size ∧ e.key.size ≤ 12) ∧ e.val.size ≤ 20 ∧ (e.op = 1 ∨ e.val = ⟨#[]⟩))
instance (e : Ev) : Decidable (okEv e) := by unfold okEv; infer_instance
def newGp (vs : List (List Int)) : Gp := ⟨vs, [(newMb 1 vs).1, (newMb 2 vs).1, (newMb 3 vs).1, (newMb 4 vs).1, (newMb 5 vs).1, (newMb 6 vs).1], [], []⟩
def mbAt (g : Gp) (n : Int) : Mb := g.ms.getD (n - 1).toNat zeroMb
/-- What is said tells its call. -/
def saidC (pl : Int) (cs : List Cl) (s : Sd) : List Cl :=
  if (cs.length : Int) ≤ s.cl ∨ 0 ≤ (cs.getD s.cl.toNat zeroCl).dn then cs
  else cs.set s.cl.toNat { cs.getD s.cl.toNat zeroCl with dn := pl, vr := s.it.n, ep := s.ep, nu := s.nu, gt := if (cs.getD s.cl.toNat zeroCl).op = 2 then s.it.v else (cs.getD s.cl.toNat zeroCl).gt }
def memG (g : Gp) (m : Mb) (told : List Ms) (said : List Sd) (pl : Int) : Gp := ⟨g.vs, g.ms.set (m.id - 1).toNat m, g.fl ++ told, said.foldl (saidC pl) g.cs⟩
def callG (g : Gp) (pl : Int) (e : Ev) : Gp := { g with cs := g.cs ++ [⟨e.op, e.key, e.val, pl, -1, 0, 0, 0, ⟨#[]⟩⟩] }
def begG (g : Gp) (pl : Int) (e : Ev) : Gp × Int :=
  if (begin_ (mbAt g e.n) g.vs e.op g.cs.length e.key e.val).2.2.2 = true then (memG (callG g pl e) (begin_ (mbAt g e.n) g.vs e.op g.cs.length e.key e.val).1 (begin_ (mbAt g e.n) g.vs e.op g.cs.length e.key e.val).2.1 (begin_ (mbAt g e.n) g.vs e.op g.cs.length e.key e.val).2.2.1 pl, 0) else (callG g pl e, 1)
/-- The first epoch from e on whose view a node is the first one of (f views are left). -/
def adoE (vs : List (List Int)) (n : Int) (e : Int) : Nat → Option Int
  | 0 => none
  | f + 1 => if (vs.length : Int) < e then none else if (vwA vs e).headD 0 = n then some e else adoE vs n (e + 1) f
def adoG (g : Gp) (pl : Int) (n : Int) : Gp × Int :=
  match adoE g.vs n ((mbAt g n).ep + 1) (g.vs.length + 1) with
  | none => (g, 1)
  | some e => if (adopt (mbAt g n) g.vs e).2.2 = true then (memG g (adopt (mbAt g n) g.vs e).1 (adopt (mbAt g n) g.vs e).2.1 [] pl, 0) else (g, 1)
def flyG (g : Gp) (pl : Int) (e : Ev) : Gp × Int :=
  if g.fl = [] then (g, 1)
  else if e.k = 4 then ({ g with fl := g.fl ++ [g.fl.getD (e.pl % g.fl.length).toNat zeroMs] }, 0)
  else if e.k = 3 then ({ g with fl := g.fl.eraseIdx (e.pl % g.fl.length).toNat }, 0)
  else (memG { g with fl := g.fl.eraseIdx (e.pl % g.fl.length).toNat } (hearM (mbAt g (g.fl.getD (e.pl % g.fl.length).toNat zeroMs).o) g.vs (g.fl.getD (e.pl % g.fl.length).toNat zeroMs)).1 (hearM (mbAt g (g.fl.getD (e.pl % g.fl.length).toNat zeroMs).o) g.vs (g.fl.getD (e.pl % g.fl.length).toNat zeroMs)).2.1 (hearM (mbAt g (g.fl.getD (e.pl % g.fl.length).toNat zeroMs).o) g.vs (g.fl.getD (e.pl % g.fl.length).toNat zeroMs)).2.2 pl, 0)
def doG (g : Gp) (pl : Int) (e : Ev) : Gp × Int :=
  if e.k = 1 then begG g pl e else if e.k = 5 then adoG g pl e.n else if e.k = 6 then (memG g (fallM (mbAt g e.n)) [] [] pl, 0) else flyG g pl e
/-- The events from place p on. -/
def runG (g : Gp) (p : Nat) : List Ev → Gp × List Int
  | [] => (g, [])
  | e :: es => ((runG (doG g p e).1 (p + 1) es).1, (doG g p e).2 :: (runG (doG g p e).1 (p + 1) es).2)
theorem runG_append (g : Gp) (p : Nat) (es fs : List Ev) : runG g p (es ++ fs) = ((runG (runG g p es).1 (p + es.length) fs).1, (runG g p es).2 ++ (runG (runG g p es).1 (p + es.length) fs).2) := by
  induction es generalizing g p with
  | nil => simp [runG]
  | cons e es ih => simp only [List.cons_append, runG, ih, List.length_cons, Nat.add_assoc, Nat.add_comm 1]
/-- A member of a life. -/
structure MOk (vs : List (List Int)) (i : Int) (m : Mb) : Prop where
  ok : okMb m
  id : m.id = i
  ep : m.ep ≤ vs.length
  hd : m.le = true → (vwA vs m.ep).headD 0 = m.id
  nw : ∀ y ∈ m.is, y.n ≤ 1000 * m.ep + 900
  nl : m.le = true → ∀ y ∈ m.is, y.n ≤ 1000 * m.ep + m.cn
  nt : m.tk.op ≠ 0 → m.tk.it.n ≤ 1000 * m.ep + m.cn
  sl : m.se = false → m.tk.op = 0
  bv : m.ba = true → m.id ∈ vwA vs m.ep
/-- A message of a life. -/
structure FOk (vs : List (List Int)) (x : Ms) : Prop where
  ok : okMs x
  ep : x.e ≤ vs.length
  st : x.k = 2 ∨ x.k = 3 → ∀ y ∈ x.is, y.n < 1000 * x.e
  nu : x.k = 3 → x.n = 0
  so : x.k = 5 → (∀ y ∈ x.is, y.n ≤ 1000 * x.e + 900) ∧ x.o ≠ (vwA vs x.e).headD 0
structure GOk (g : Gp) : Prop where
  vs : okViews g.vs
  ln : g.ms.length = 6
  ms : ∀ i (h : i < g.ms.length), MOk g.vs ((i : Int) + 1) g.ms[i]
  fl : ∀ x ∈ g.fl, FOk g.vs x
theorem mem_put {l : List Im} {x y : Im} (h : y ∈ putI l x) : y ∈ l ∨ y = x := by
  unfold putI at h
  split at h
  · exact .inl h
  · split at h
    · unfold insI at h
      rcases List.mem_append.1 h with h | h
      · exact .inl (List.mem_filter.1 h).1
      · rcases List.mem_cons.1 h with h | h
        · exact .inr h
        · exact .inl (List.mem_filter.1 h).1
    · exact .inl h
theorem tk_no {t : Tk} (h : noTk t) : t.op = 0 := h.1
theorem sl_of {m : Mb} (h : okMb m) (hs : m.se = false) : m.tk.op = 0 := by
  rcases h.2.2.2.2.2.2.2.2 with h | h
  · exact h.1
  · rw [hs] at h; exact absurd h.2.1 (by simp)
theorem FOk.plain {vs : List (List Int)} {x : Ms} (h : okMs x) (he : x.e ≤ vs.length) (hk : x.k = 1 ∨ x.k = 4 ∨ x.k = 6 ∨ x.k = 7 ∨ x.k = 8) : FOk vs x := ⟨h, he, fun h => by omega, fun h => by omega, fun h => by omega⟩
theorem has_mok {vs : List (List Int)} {m : Mb} {is : List Im} (hv : okViews vs) (h1 : okMb m) (h2 : m.ep ≤ vs.length) (h3 : (vwA vs m.ep).headD 0 = m.id) (hl : m.le = true) (hb : m.se = false ∨ m.tk = zeroTk) (hi : okIms is) (hn : ∀ y ∈ is, y.n < 1000 * m.ep) (hnt : m.tk.op ≠ 0 → m.tk.it.n ≤ 1000 * m.ep + m.cn) (hz : m.tk.op = 0) :
    MOk vs m.id (hasM m (vwA vs m.ep) is).1 ∧ ∀ t ∈ (hasM m (vwA vs m.ep) is).2, FOk vs t := by
  have hvo := view_ok hv h1.2.1.1 h2
  obtain ⟨ho, ht⟩ := has_ok h1 (view_in hv m.ep) hl hb hi
  have c0 := h1.2.2.2.2.2.2.2.1.1
  refine ⟨⟨ho, rfl, h2, fun _ => h3, fun y hy => ?_, fun _ y hy => ?_, fun h => absurd hz h, fun _ => hz, fun _ => ?_⟩, fun t h => ?_⟩
  · have := hn y hy; show y.n ≤ 1000 * m.ep + 900; omega
  · have := hn y hy; show y.n ≤ 1000 * m.ep + m.cn; omega
  · obtain ⟨t, e, _⟩ := head_of hvo h3
    show m.id ∈ vwA vs m.ep
    rw [e]
    simp
  · obtain ⟨o1, o2, o3, o4, o5⟩ := ht t h
    have hm : t.is = is ∧ t.n = 0 := by
      unfold hasM at h
      obtain ⟨z, _, rfl⟩ := List.mem_map.1 h
      exact ⟨rfl, rfl⟩
    refine ⟨o1, by rw [o3]; exact h2, fun _ y hy => ?_, fun _ => hm.2, fun e => by omega⟩
    rw [hm.1] at hy
    rw [o3]
    exact hn y hy
theorem rep_fok {vs : List (List Int)} {m : Mb} {x : Ms} {k : Int} (h : okMb m) (hx : okMs x) (he : x.e ≤ vs.length) (hk : k = 4 ∨ k = 6 ∨ k = 8) : ∀ t ∈ repM m x k, FOk vs t := fun t ht => by
  obtain ⟨o1, o2, o3⟩ := rep_ok h hx hk t ht
  have e : t.k = k := by unfold repM at ht; rw [List.mem_singleton.1 ht]
  exact FOk.plain o1 (by rw [o3]; exact he) (by omega)
theorem inst_mok {vs : List (List Int)} {m : Mb} {e : Int} {is : List Im} (h1 : okMb m) (he : 1 ≤ e ∧ e ≤ 9) (h2 : e ≤ vs.length) (hi : okIms is) (hn : ∀ y ∈ is, y.n < 1000 * e) (hm : m.id ∈ vwA vs e) : MOk vs m.id (instM m e is) :=
  ⟨ok_plain h1.1 he (fun q => by cases q) (fun q => by cases q) nil_ids hi (by decide), rfl, h2, (fun q => by cases q), (fun y hy => by have := hn y hy; show y.n ≤ 1000 * e + 900; omega), (fun q => by cases q), fun h => absurd rfl h, fun _ => rfl, fun _ => hm⟩
theorem bare_mok {vs : List (List Int)} {m : Mb} {e : Int} (h1 : okMb m) (he : 1 ≤ e ∧ e ≤ 9) (h2 : e ≤ vs.length) (hn : ∀ y ∈ m.is, y.n < 1000 * e) : MOk vs m.id (bareM m e) :=
  ⟨ok_plain h1.1 he (fun q => by cases q) (fun q => by cases q) nil_ids h1.2.2.2.2.2.2.1 (by decide), rfl, h2, (fun q => by cases q), (fun y hy => by have := hn y hy; show y.n ≤ 1000 * e + 900; omega), (fun q => by cases q), fun h => absurd rfl h, fun _ => rfl, (fun q => by cases q)⟩
/-- What a member of a life hears keeps it one; what it tells is of a life. -/
theorem hear_mok {vs : List (List Int)} {i : Int} {m : Mb} {x : Ms} (hv : okViews vs) (h : MOk vs i m) (hx : FOk vs x) : MOk vs i (hearM m vs x).1 ∧ ∀ t ∈ (hearM m vs x).2.1, FOk vs t := by
  have same : MOk vs i m ∧ ∀ t ∈ ([] : List Ms), FOk vs t := ⟨h, fun t ht => by simp at ht⟩
  obtain ⟨h1, h2, h3, h4, h5, h6, h7, h8, h9⟩ := h
  obtain ⟨x1, x2, x3, x4, x5⟩ := hx
  have c9 := h1.2.2.2.2.2.2.2.1
  subst h2
  unfold hearM
  by_cases c : heaR m vs x
  · rw [if_pos c]
    obtain ⟨_, _, _, d4, d5, d6, d7⟩ := c
    by_cases c1 : x.e = m.ep
    · rw [if_pos c1]
      unfold ownM
      by_cases k2 : x.k = 2
      · rw [if_pos k2]
        by_cases c2 : m.le = true ∧ m.ba = false
        · rw [if_pos c2]
          have hse : m.se = false := by
            cases hs : m.se with
            | false => rfl
            | true => have := (h1.2.2.1 hs).1; rw [c2.2] at this; cases this
          exact has_mok hv h1 h3 (h4 c2.1) c2.1 (.inl hse) x1.2.2.2.2.2.1 (fun y hy => by rw [← c1]; exact x3 (.inl k2) y hy) h7 (h8 hse)
        · rw [if_neg c2]; exact same
      · rw [if_neg k2]
        by_cases k3 : x.k = 3
        · rw [if_pos k3]
          by_cases c2 : m.id ∉ vwA vs m.ep ∨ (vwA vs m.ep).headD 0 = m.id
          · rw [if_pos c2]; exact same
          · rw [if_neg c2]
            have hin : m.id ∈ vwA vs m.ep := Classical.byContradiction (fun e => c2 (.inl e))
            by_cases c3 : m.ba = true
            · rw [if_pos c3]; exact ⟨same.1, rep_fok h1 x1 x2 (.inl rfl)⟩
            · rw [if_neg c3]
              by_cases c4 : m.fe = true
              · rw [if_pos c4]; exact same
              · rw [if_neg c4]
                exact ⟨inst_mok h1 h1.2.1 h3 x1.2.2.2.2.2.1 (fun y hy => by rw [← c1]; exact x3 (.inr k3) y hy) hin, rep_fok h1 x1 x2 (.inl rfl)⟩
        · rw [if_neg k3]
          by_cases k4 : x.k = 4
          · rw [if_pos k4]
            by_cases c2 : m.le = true
            · rw [if_pos c2]
              refine ⟨?_, fun t ht => by simp at ht⟩
              have hok := (own_ok h1 (view_in hv m.ep) x1 c1).ok
              unfold ownM at hok
              rw [if_neg k2, if_neg k3, if_pos k4, if_pos c2] at hok
              exact ⟨hok, rfl, h3, h4, h5, h6, h7, fun hs => sl_of hok hs, h9⟩
            · rw [if_neg c2]; exact same
          · rw [if_neg k4]
            by_cases k5 : x.k = 5
            · rw [if_pos k5]
              by_cases c2 : m.ba = true
              · rw [if_pos c2]
                have hok := (own_ok h1 (view_in hv m.ep) x1 c1).ok
                unfold ownM at hok
                rw [if_neg k2, if_neg k3, if_neg k4, if_pos k5, if_pos c2] at hok
                have hle : m.le = false := by
                  cases hl : m.le with
                  | false => rfl
                  | true => exact absurd (by rw [d4, c1]; exact (h4 hl).symm) (x5 k5).2
                have hmem : ∀ y ∈ putI m.is (x.is.headD zeroIm), y.n ≤ 1000 * m.ep + 900 := fun y hy => by
                  rcases mem_put hy with h | h
                  · exact h5 y h
                  · have h10 := (x5 k5).1
                    have hl1 : x.is.length = 1 := by
                      have h11 := x1.2.2.2.2.2.2
                      unfold manyOk at h11
                      rw [if_neg (by omega), if_pos k5] at h11
                      exact h11
                    rw [h]
                    rw [← c1]
                    cases hx9 : x.is with
                    | nil => rw [hx9] at hl1; cases hl1
                    | cons y0 ys => exact h10 y0 (by rw [hx9]; simp)
                refine ⟨⟨hok, rfl, h3, (fun hl => by rw [show m.le = true from hl] at hle; cases hle), hmem, (fun hl => by rw [show m.le = true from hl] at hle; cases hle), h7, h8, h9⟩, rep_fok h1 x1 x2 (.inr (.inl rfl))⟩
              · rw [if_neg c2]; exact same
            · rw [if_neg k5]
              by_cases k7 : x.k = 7
              · rw [if_pos k7]
                by_cases c2 : m.ba = true
                · rw [if_pos c2]; exact ⟨same.1, rep_fok h1 x1 x2 (.inr (.inr rfl))⟩
                · rw [if_neg c2]; exact same
              · rw [if_neg k7]
                by_cases k6 : x.k = 6 ∨ x.k = 8
                · rw [if_pos k6]
                  by_cases c2 : m.tk.op = opOf x.k ∧ m.tk.nu = x.n
                  · rw [if_pos c2]
                    have hok := (own_ok h1 (view_in hv m.ep) x1 c1).ok
                    unfold ownM at hok
                    rw [if_neg k2, if_neg k3, if_neg k4, if_neg k5, if_neg k7, if_pos k6, if_pos c2] at hok
                    have hop : m.tk.op ≠ 0 := by rw [c2.1]; unfold opOf; split <;> decide
                    by_cases c3 : wthV m.tk.lf x.f = []
                    · rw [if_pos c3] at hok ⊢
                      refine ⟨?_, fun t ht => by simp at ht⟩
                      have hit := h7 hop
                      unfold finM leftM at hok ⊢
                      dsimp only at hok ⊢
                      by_cases c5 : m.tk.op = 1
                      · rw [if_pos c5] at hok ⊢
                        refine ⟨hok, rfl, h3, h4, fun y hy => ?_, fun hl y hy => ?_, fun e => absurd rfl e, fun _ => rfl, h9⟩
                        · rcases mem_put hy with h | h
                          · exact h5 y h
                          · rw [h]; show m.tk.it.n ≤ 1000 * m.ep + 900; omega
                        · rcases mem_put hy with h | h
                          · exact h6 hl y h
                          · rw [h]; exact hit
                      · rw [if_neg c5] at hok ⊢
                        exact ⟨hok, rfl, h3, h4, h5, h6, fun e => absurd rfl e, fun _ => rfl, h9⟩
                    · rw [if_neg c3] at hok ⊢
                      exact ⟨⟨hok, rfl, h3, h4, h5, h6, h7, h8, h9⟩, fun t ht => by simp at ht⟩
                  · rw [if_neg c2]; exact same
                · rw [if_neg k6]; exact same
    · rw [if_neg c1]
      by_cases c2 : x.k = 1 ∧ x.e = m.ep + 1 ∧ m.ba = true ∧ m.id ∈ vwA vs m.ep
      · rw [if_pos c2]
        obtain ⟨e1, e2, e3, e4⟩ := c2
        have hlt : ∀ y ∈ m.is, y.n < 1000 * x.e := fun y hy => by have := h5 y hy; omega
        refine ⟨bare_mok h1 x1.2.2.2.1 x2 hlt, fun t ht => ?_⟩
        rw [List.mem_singleton] at ht
        subst ht
        refine ⟨ok_ms (by omega) h1.1 x1.2.1 x1.2.2.2.1 (by omega) h1.2.2.2.2.2.2.1 (by unfold manyOk; rw [if_pos (.inl rfl)]; trivial), x2, fun _ => hlt, (fun e => by cases e), (fun e => by cases e)⟩
      · rw [if_neg c2]
        by_cases c3 : x.k = 3 ∧ m.id ∈ vwA vs x.e ∧ (vwA vs x.e).headD 0 ≠ m.id
        · rw [if_pos c3]
          exact ⟨inst_mok h1 x1.2.2.2.1 x2 x1.2.2.2.2.2.1 (x3 (.inr c3.1)) c3.2.1, rep_fok h1 x1 x2 (.inl rfl)⟩
        · rw [if_neg c3]; exact same
  · rw [if_neg c]; exact same
theorem fall_mok {vs : List (List Int)} {i : Int} {m : Mb} (h : MOk vs i m) : MOk vs i (fallM m) :=
  ⟨fall_ok h.ok, h.id, h.ep, (fun q => by cases q), (fun y hy => by simp [fallM] at hy), (fun q => by cases q), (fun q => absurd rfl q), (fun _ => rfl), (fun q => by cases q)⟩
theorem new_mok {vs : List (List Int)} {id : Int} (hv : okViews vs) (hi : 1 ≤ id ∧ id ≤ 6) : MOk vs id (newMb id vs).1 := by
  obtain ⟨h1, _, h3⟩ := new_ok hv hi
  have hl := hv.2.1
  unfold newMb at h1 h3 ⊢
  rw [if_pos ⟨hv, hi⟩] at h1 h3 ⊢
  refine ⟨h1, rfl, by show (1 : Int) ≤ _; omega, fun q => by simpa using q, (fun y hy => by simp at hy), (fun _ y hy => by simp at hy), (fun q => absurd rfl q), (fun _ => rfl), fun q => by simpa using q⟩
theorem ado_mok {vs : List (List Int)} {i e : Int} {m : Mb} (h : MOk vs i m) (ha : adoR m vs e) : MOk vs i (adoM m vs e).1 ∧ ∀ t ∈ (adoM m vs e).2, FOk vs t := by
  obtain ⟨a1, a2, a3, a4, a5⟩ := ha
  have hid := h.id
  subst hid
  have he9 : 1 ≤ e ∧ e ≤ 9 := ⟨by omega, by have := a2.2.2; omega⟩
  have hit : ∀ y ∈ m.is, y.n < 1000 * e := fun y hy => by have := h.nw y hy; omega
  have hok : okMb (ledM m e) := ok_plain a1.1 he9 (fun q => by cases q) (fun q => by cases q) nil_ids a1.2.2.2.2.2.2.1 (by decide)
  unfold adoM
  by_cases c : hadM m vs e
  · rw [if_pos c]
    exact has_mok (m := ledM m e) a2 hok a3.2 a5 rfl (.inr rfl) a1.2.2.2.2.2.2.1 hit (fun q => absurd rfl q) rfl
  · rw [if_neg c]
    refine ⟨⟨hok, rfl, a3.2, fun _ => a5, (fun y hy => by have := hit y hy; show y.n ≤ 1000 * e + 900; omega), (fun _ y hy => by have := hit y hy; show y.n ≤ 1000 * e + 0; omega), (fun q => absurd rfl q), (fun _ => rfl), (fun q => by cases q)⟩, fun t ht => ?_⟩
    obtain ⟨z, hz, rfl⟩ := List.mem_map.1 ht
    have hz6 := view_in a2 (e - 1) z (List.mem_filter.1 hz).1
    exact FOk.plain (ok_ms (by omega) a1.1 hz6 he9 (by omega) nil_oks (many_none (by omega))) a3.2 (.inl rfl)
theorem beg_mok {vs : List (List Int)} {i op cl : Int} {key val : ByteArray} {m : Mb} (h : MOk vs i m) (hb : begB m vs op cl key val) : MOk vs i (begin_ m vs op cl key val).1 ∧ ∀ t ∈ (begin_ m vs op cl key val).2.1, FOk vs t := by
  obtain ⟨b1, _, b3⟩ := beg_ok hb
  have hr := hb.1
  obtain ⟨r1, r2, r3, r4, r5, r6, r7, r8, r9, r10, r11, r12⟩ := hr
  have hid := h.id
  subst hid
  have hc := r1.2.2.2.2.2.2.2.1
  have hle : m.le = true := (r1.2.2.1 r3).2.1
  have hnl := h.nl hle
  have e1 := r1.2.1
  unfold begin_ at b1 b3 ⊢
  rw [if_pos hb] at b1 b3 ⊢
  by_cases c : othV (vwA vs m.ep) m.id = []
  · rw [if_pos c] at b1 b3 ⊢
    refine ⟨?_, fun t ht => by simp at ht⟩
    unfold finM begM at b1 b3 ⊢
    dsimp only at b1 b3 ⊢
    by_cases c5 : op = 1
    · rw [if_pos c5] at b1 b3 ⊢
      refine ⟨b1, rfl, h.ep, h.hd, fun y hy => ?_, fun _ y hy => ?_, (fun q => absurd rfl q), (fun _ => rfl), h.bv⟩
      · rcases mem_put hy with q | q
        · exact h.nw y q
        · rw [q]; show 1000 * m.ep + (m.cn + 1) ≤ 1000 * m.ep + 900; omega
      · rcases mem_put hy with q | q
        · have := hnl y q; show y.n ≤ 1000 * m.ep + (m.cn + 1); omega
        · rw [q]; exact Int.le_refl _
    · rw [if_neg c5] at b1 b3 ⊢
      exact ⟨b1, rfl, h.ep, h.hd, h.nw, (fun _ y hy => by have := hnl y hy; show y.n ≤ 1000 * m.ep + (m.cn + 1); omega), (fun q => absurd rfl q), (fun _ => rfl), h.bv⟩
  · rw [if_neg c] at b1 b3 ⊢
    refine ⟨⟨b1, rfl, h.ep, h.hd, h.nw, (fun _ y hy => by have := hnl y hy; show y.n ≤ 1000 * m.ep + (m.cn + 1); omega), (fun _ => Int.le_refl _), (fun q => by rw [show m.se = false from q] at r3; cases r3), h.bv⟩, fun t ht => ?_⟩
    obtain ⟨z, hz, rfl⟩ := List.mem_map.1 ht
    have hz6 := view_in r2 m.ep z (List.mem_filter.1 hz).1
    have hzn : z ≠ m.id := by have := (List.mem_filter.1 hz).2; simpa using this
    by_cases c5 : op = 1
    · rw [if_pos c5]
      have hi : okIms [begI m key val] := ⟨fun q hq => by rw [List.mem_singleton.1 hq]; exact ⟨r8, r9, by show 1 ≤ 1000 * m.ep + (m.cn + 1) ∧ 1000 * m.ep + (m.cn + 1) ≤ 1000000000; omega⟩, List.pairwise_singleton _ _, by simp⟩
      refine ⟨ok_ms (by omega) r1.1 hz6 e1 (by omega) hi (by unfold manyOk; rw [if_neg (by omega), if_pos rfl]; rfl), h.ep, (fun q => by rcases q with q | q <;> cases q), (fun q => by cases q), fun _ => ⟨fun y hy => ?_, ?_⟩⟩
      · rw [List.mem_singleton.1 hy]; show 1000 * m.ep + (m.cn + 1) ≤ 1000 * m.ep + 900; omega
      · show z ≠ (vwA vs m.ep).headD 0
        rw [r12]; exact hzn
    · rw [if_neg c5]
      exact FOk.plain (ok_ms (by omega) r1.1 hz6 e1 (by omega) nil_oks (many_none (by omega))) h.ep (.inr (.inr (.inr (.inl rfl))))
theorem GOk.at_ {g : Gp} (h : GOk g) {n : Int} (hn : 1 ≤ n ∧ n ≤ 6) : MOk g.vs n (mbAt g n) := by
  have hl := h.ln
  have hi : (n - 1).toNat < g.ms.length := by omega
  have := h.ms _ hi
  unfold mbAt
  rw [List.getD_eq_getElem?_getD, List.getElem?_eq_getElem hi]
  rw [show (((n - 1).toNat : Nat) : Int) + 1 = n by omega] at this
  exact this
theorem GOk.mem {g : Gp} (h : GOk g) {n pl : Int} {m : Mb} {told : List Ms} {said : List Sd} (hn : 1 ≤ n ∧ n ≤ 6) (hm : MOk g.vs n m) (ht : ∀ t ∈ told, FOk g.vs t) : GOk (memG g m told said pl) := by
  refine ⟨h.vs, by simp [memG, h.ln], fun i hi => ?_, fun x hx => ?_⟩
  · have hi2 : i < g.ms.length := by simpa [memG] using hi
    show MOk g.vs _ ((g.ms.set (m.id - 1).toNat m)[i]'(by simpa using hi2))
    rw [List.getElem_set]
    split
    · rename_i e
      rw [hm.id] at e
      rw [show (i : Int) + 1 = n by omega]
      exact hm
    · exact h.ms i hi2
  · rcases List.mem_append.1 hx with q | q
    · exact h.fl x q
    · exact ht x q
theorem GOk.cs {g : Gp} (h : GOk g) (cs : List Cl) : GOk { g with cs := cs } := ⟨h.vs, h.ln, h.ms, h.fl⟩
theorem GOk.flies {g : Gp} (h : GOk g) {fl : List Ms} (hf : ∀ x ∈ fl, FOk g.vs x) : GOk { g with fl := fl } := ⟨h.vs, h.ln, h.ms, hf⟩
theorem GOk.new {vs : List (List Int)} (hv : okViews vs) : GOk (newGp vs) := by
  refine ⟨hv, rfl, fun i hi => ?_, fun x hx => by simp [newGp] at hx⟩
  have hi6 : i < 6 := hi
  match i, hi6 with
  | 0, _ => exact new_mok hv (by omega)
  | 1, _ => exact new_mok hv (by omega)
  | 2, _ => exact new_mok hv (by omega)
  | 3, _ => exact new_mok hv (by omega)
  | 4, _ => exact new_mok hv (by omega)
  | 5, _ => exact new_mok hv (by omega)
theorem ado_e {vs : List (List Int)} {n : Int} : ∀ (f : Nat) (e e' : Int), adoE vs n e f = some e' → e ≤ e' ∧ e' ≤ vs.length ∧ (vwA vs e').headD 0 = n
  | 0, e, e', h => by cases h
  | f + 1, e, e', h => by
    unfold adoE at h
    split at h
    · cases h
    · split at h
      · cases h
        exact ⟨Int.le_refl _, by omega, by assumption⟩
      · have := ado_e f (e + 1) e' h
        exact ⟨by omega, this.2⟩
/-- Each event of a life keeps it one. -/
theorem GOk.doG {g : Gp} (h : GOk g) {pl : Int} {e : Ev} (he : okEv e) : GOk (doG g pl e).1 := by
  unfold Go.Proofs.YtpjgplohlchpoaaGreatDoor.doG
  by_cases k1 : e.k = 1
  · rw [if_pos k1]
    unfold begG
    by_cases c : (begin_ (mbAt g e.n) g.vs e.op g.cs.length e.key e.val).2.2.2 = true
    · rw [if_pos c]
      have hb : begB (mbAt g e.n) g.vs e.op g.cs.length e.key e.val := by
        apply Classical.byContradiction
        intro q
        unfold begin_ at c
        rw [if_neg q] at c
        cases c
      obtain ⟨m1, m2⟩ := beg_mok (h.at_ he.2.1) hb
      exact GOk.mem (g := callG g pl e) (h.cs _) he.2.1 m1 m2
    · rw [if_neg c]; exact h.cs _
  · rw [if_neg k1]
    by_cases k5 : e.k = 5
    · rw [if_pos k5]
      unfold adoG
      cases q : adoE g.vs e.n ((mbAt g e.n).ep + 1) (g.vs.length + 1) with
      | none => exact h
      | some a =>
        dsimp only
        by_cases c : (adopt (mbAt g e.n) g.vs a).2.2 = true
        · rw [if_pos c]
          have ha : adoR (mbAt g e.n) g.vs a := by
            apply Classical.byContradiction
            intro q
            unfold adopt at c
            rw [if_neg q] at c
            cases c
          obtain ⟨m1, m2⟩ := ado_mok (h.at_ he.2.1) ha
          unfold adopt
          rw [if_pos ha]
          exact GOk.mem h he.2.1 m1 m2
        · rw [if_neg c]; exact h
    · rw [if_neg k5]
      by_cases k6 : e.k = 6
      · rw [if_pos k6]
        exact GOk.mem h he.2.1 (fall_mok (h.at_ he.2.1)) (fun t ht => by simp at ht)
      · rw [if_neg k6]
        unfold flyG
        by_cases c0 : g.fl = []
        · rw [if_pos c0]; exact h
        · rw [if_neg c0]
          have hlen : 0 < g.fl.length := List.length_pos_iff.2 c0
          have hk : (e.pl % (g.fl.length : Int)).toNat < g.fl.length := by
            have h1 := Int.emod_nonneg e.pl (show (g.fl.length : Int) ≠ 0 by omega)
            have h2 := Int.emod_lt_of_pos e.pl (show (0 : Int) < (g.fl.length : Int) by omega)
            omega
          have hx : g.fl.getD (e.pl % (g.fl.length : Int)).toNat zeroMs ∈ g.fl := by
            rw [List.getD_eq_getElem?_getD, List.getElem?_eq_getElem hk]
            exact List.getElem_mem hk
          generalize g.fl.getD (e.pl % (g.fl.length : Int)).toNat zeroMs = x at *
          have herase : ∀ y ∈ g.fl.eraseIdx (e.pl % (g.fl.length : Int)).toNat, FOk g.vs y := fun y hy => h.fl y (List.mem_of_mem_eraseIdx hy)
          by_cases k4 : e.k = 4
          · rw [if_pos k4]
            exact h.flies (fun y hy => by
              rcases List.mem_append.1 hy with q | q
              · exact h.fl y q
              · rw [List.mem_singleton.1 q]; exact h.fl x hx)
          · rw [if_neg k4]
            by_cases k3 : e.k = 3
            · rw [if_pos k3]; exact h.flies herase
            · rw [if_neg k3]
              have ho := (h.fl x hx).ok.2.2.1
              obtain ⟨m1, m2⟩ := hear_mok h.vs (h.at_ ho) (h.fl x hx)
              exact GOk.mem (g := { g with fl := g.fl.eraseIdx (e.pl % (g.fl.length : Int)).toNat }) (h.flies herase) ho m1 m2
theorem GOk.runG {g : Gp} : ∀ (es : List Ev) (g : Gp) (p : Nat), GOk g → (∀ e ∈ es, okEv e) → GOk (runG g p es).1
  | [], g, p, h, _ => h
  | e :: es, g, p, h, he => GOk.runG (g := g) es _ (p + 1) (h.doG (he e (by simp))) (fun x hx => he x (by simp [hx]))
/-- Nobody serves where another one does. -/
theorem GOk.one {g : Gp} (h : GOk g) {i j : Nat} (hi : i < g.ms.length) (hj : j < g.ms.length) (si : g.ms[i].se = true) (sj : g.ms[j].se = true) (e : g.ms[i].ep = g.ms[j].ep) : i = j := by
  have a := h.ms i hi
  have b := h.ms j hj
  have la := a.hd (a.ok.2.2.1 si).2.1
  have lb := b.hd (b.ok.2.2.1 sj).2.1
  rw [e, lb, a.id, b.id] at la
  omega
end Go.Proofs.YtpjgplohlchpoaaGreatDoor
