/- Decisions, plain: numbers and texts stay small, whatever happens. -/
import Derived.Test.YtgehdgmllilmgaaYB
import Derived.Test.YtgehdgmllilmgaaCoY
import Derived.Test.YtgehdgmllilmgaaCnP
namespace Go.Proofs.Ytgehdgmllilmgaa
open Go.RowKit
set_option linter.unusedVariables false
variable {lo : Nat → Prop}

structure Sz (k : Nat) (c : Cn) : Prop where
  n : ∀ m ∈ c.ns, m.v.size ≤ 40
  v : ∀ x ∈ c.vs, x.v.size ≤ 40
  t : ∀ t ∈ c.ts, t.v.size ≤ 40 ∧ ∀ m ∈ t.ps, m.v.size ≤ 40
  l : c.ns.length ≤ 6 * k
  h : c.ch.length ≤ k
  w : c.vs.length ≤ 5
theorem pick_size {l : List Nt} {own : ByteArray} (hl : ∀ m ∈ l, m.v.size ≤ 40) (ho : own.size ≤ 40) : (pickS l own).2.size ≤ 40 := by
  unfold pickS
  suffices ∀ (l : List Nt) (a : Int × ByteArray), (∀ m ∈ l, m.v.size ≤ 40) → a.2.size ≤ 40 → (l.foldl pickN a).2.size ≤ 40 from this l (0, own) hl ho
  intro l
  induction l with
  | nil => intro a _ h; exact h
  | cons m l ih =>
    intro a h1 h2
    refine ih _ (fun x hx => h1 x (by simp [hx])) ?_
    unfold pickN
    split
    · exact h1 m (by simp)
    · exact h2
theorem Sz.tyAt {k : Nat} {c : Cn} (h : Sz k c) (i : Int) : (tyAt c i).v.size ≤ 40 ∧ ∀ m ∈ (tyAt c i).ps, m.v.size ≤ 40 := by
  unfold Go.Proofs.Ytgehdgmllilmgaa.tyAt
  rw [List.getD_eq_getElem?_getD]
  cases e : c.ts[i.toNat - 1]? with
  | none => exact ⟨by decide, fun m hm => by simp [zeroTy] at hm⟩
  | some t => exact h.t t (List.mem_of_getElem? e)
theorem Sz.voAt {k : Nat} {c : Cn} (h : Sz k c) (i : Int) : (voAt c i).v.size ≤ 40 := by
  unfold Go.Proofs.Ytgehdgmllilmgaa.voAt
  rw [List.getD_eq_getElem?_getD]
  cases e : c.vs[i.toNat - 1]? with
  | none => show (⟨#[]⟩ : ByteArray).size ≤ 40; decide
  | some t => exact h.v t (List.mem_of_getElem? e)
theorem Sz.up {k : Nat} {c : Cn} (h : Sz k c) : Sz (k + 1) c := ⟨h.n, h.v, h.t, by have := h.l; omega, by have := h.h; omega, h.w⟩
theorem Sz.setT {k : Nat} {c : Cn} (h : Sz k c) (i : Int) (t : Ty) (h1 : t.v.size ≤ 40) (h2 : ∀ m ∈ t.ps, m.v.size ≤ 40) : Sz k (setTy c i t) :=
  ⟨h.n, h.v, fun x hx => by rcases List.mem_or_eq_of_mem_set hx with hx | hx; exact h.t x hx; rw [hx]; exact ⟨h1, h2⟩, h.l, h.h, h.w⟩
theorem Sz.more {k : Nat} {c : Cn} (h : Sz k c) (l : List Nt) (hl : ∀ m ∈ l, m.v.size ≤ 40) (hn : l.length ≤ 6) : Sz (k + 1) { c with ns := c.ns ++ l } :=
  ⟨fun m hm => by rcases List.mem_append.1 hm with hm | hm; exact h.n m hm; exact hl m hm, h.v, h.t, by have := h.l; show (c.ns ++ l).length ≤ _; rw [List.length_append]; omega, by have := h.h; show c.ch.length ≤ _; omega, h.w⟩
theorem Sz.prop {k : Nat} {c : Cn} {e : Hp} (h : Sz k c) (he : e.v.size ≤ 40) : Sz (k + 1) (propC c e).1 := by
  unfold propC
  split
  · exact h.up
  · refine (h.setT e.i _ he (fun m hm => by simp at hm)).more ((List.range c.vs.length).map (askP e.i (nextB (Go.Proofs.Ytgehdgmllilmgaa.tyAt c e.i) e.i))) (fun m hm => ?_) (by have := h.w; simp; omega)
    obtain ⟨k, _, rfl⟩ := List.mem_map.1 hm
    show (⟨#[]⟩ : ByteArray).size ≤ 40
    decide
theorem Sz.prom {k : Nat} {c : Cn} {m : Nt} (h : Sz k c) (hm : m.v.size ≤ 40) : Sz (k + 1) (promC c m).1 := by
  have hp : ∀ x ∈ (Go.Proofs.Ytgehdgmllilmgaa.tyAt c m.o).ps ++ [m], x.v.size ≤ 40 := fun x hx => by
    rcases List.mem_append.1 hx with hx | hx
    · exact (h.tyAt m.o).2 x hx
    · rw [List.mem_singleton] at hx; subst hx; exact hm
  unfold promC
  split
  · exact h.up
  · split
    · exact h.up
    · split
      · refine (h.setT m.o _ (pick_size hp (h.tyAt m.o).1) hp).more ((List.range c.vs.length).map (askT (Go.Proofs.Ytgehdgmllilmgaa.tyAt c m.o).i (Go.Proofs.Ytgehdgmllilmgaa.tyAt c m.o).b (pickS ((Go.Proofs.Ytgehdgmllilmgaa.tyAt c m.o).ps ++ [m]) (Go.Proofs.Ytgehdgmllilmgaa.tyAt c m.o).v).2)) (fun x hx => ?_) (by have := h.w; simp; omega)
        obtain ⟨k, _, rfl⟩ := List.mem_map.1 hx
        exact pick_size hp (h.tyAt m.o).1
      · exact (h.setT m.o { Go.Proofs.Ytgehdgmllilmgaa.tyAt c m.o with ps := (Go.Proofs.Ytgehdgmllilmgaa.tyAt c m.o).ps ++ [m] } (h.tyAt m.o).1 hp).up
theorem Sz.tak {k : Nat} {c : Cn} {m : Nt} (h : Sz k c) : Sz (k + 1) (takC c m).1 := by
  unfold takC
  split
  · exact h.up
  · split
    · have g := h.setT m.o { Go.Proofs.Ytgehdgmllilmgaa.tyAt c m.o with tk := (Go.Proofs.Ytgehdgmllilmgaa.tyAt c m.o).tk ++ [m.f], ch := true } (h.tyAt m.o).1 (h.tyAt m.o).2
      exact ⟨g.n, g.v, g.t, by have := h.l; show c.ns.length ≤ _; omega, by show (c.ch ++ [(Go.Proofs.Ytgehdgmllilmgaa.tyAt c m.o).v]).length ≤ k + 1; have := h.h; rw [List.length_append, List.length_singleton]; omega, g.w⟩
    · exact (h.setT m.o { Go.Proofs.Ytgehdgmllilmgaa.tyAt c m.o with tk := (Go.Proofs.Ytgehdgmllilmgaa.tyAt c m.o).tk ++ [m.f] } (h.tyAt m.o).1 (h.tyAt m.o).2).up
theorem hear_size {x : Vo} {m : Nt} (hx : x.v.size ≤ 40) (hm : m.v.size ≤ 40) : (hearA x m).1.v.size ≤ 40 ∧ (hearA x m).2.1.v.size ≤ 40 := by
  have hz : zeroNt.v.size ≤ 40 := by decide
  unfold hearA
  split
  · split
    · exact ⟨hx, hx⟩
    · split
      · exact ⟨hm, hm⟩
      · exact ⟨hx, hz⟩
  · exact ⟨hx, hz⟩
theorem Sz.hear {k : Nat} {c : Cn} {m : Nt} (h : Sz k c) (hm : m.v.size ≤ 40) : Sz (k + 1) (hearC c m).1 := by
  have hs := hear_size (h.voAt m.o) hm
  unfold hearC
  split
  · have g : Sz k (setVo c m.o (hearA (Go.Proofs.Ytgehdgmllilmgaa.voAt c m.o) m).1) := ⟨h.n, fun x hx => by rcases List.mem_or_eq_of_mem_set hx with hx | hx; exact h.v x hx; rw [hx]; exact hs.1, h.t, h.l, h.h, by show (c.vs.set _ _).length ≤ 5; rw [List.length_set]; exact h.w⟩
    exact g.more [(hearA (Go.Proofs.Ytgehdgmllilmgaa.voAt c m.o) m).2.1] (fun x hx => by rw [List.mem_singleton] at hx; subst hx; exact hs.2) (by simp)
  · exact h.up
theorem Sz.drop {k : Nat} {c : Cn} (h : Sz k c) (p : Nat) : Sz k (dropC c p) :=
  ⟨fun m hm => h.n m (drop_mem hm), h.v, h.t, by show (c.ns.take p ++ c.ns.drop (p + 1)).length ≤ _; have := h.l; rw [List.length_append, List.length_take, List.length_drop]; omega, h.h, h.w⟩
theorem Sz.doC {k : Nat} {c : Cn} {e : Hp} (h : Sz k c) (he : e.v.size ≤ 40) : Sz (k + 1) (doC c e).1 := by
  unfold Go.Proofs.Ytgehdgmllilmgaa.doC
  by_cases c1 : e.k = 1
  · rw [if_pos c1]; exact h.prop he
  · rw [if_neg c1]
    by_cases c2 : c.ns = []
    · rw [if_pos c2]; exact h.up
    · rw [if_neg c2]
      have hm : (ntAt c (placeC c e)).v.size ≤ 40 := h.n _ (ntAt_mem (place_lt c2))
      by_cases c3 : e.k = 4
      · rw [if_pos c3]
        exact h.more [ntAt c (placeC c e)] (fun x hx => by rw [List.mem_singleton] at hx; subst hx; exact hm) (by simp)
      · rw [if_neg c3]
        by_cases c4 : e.k = 3
        · rw [if_pos c4]; exact (h.drop _).up
        · rw [if_neg c4]
          unfold carrC
          split
          · exact (h.drop _).prom hm
          · split
            · exact (h.drop _).tak
            · exact (h.drop _).hear hm
theorem Sz.new (v t : Nat) (hv : v ≤ 5) : Sz 0 (newCn v t) :=
  ⟨fun m hm => by simp [newCn] at hm, fun x hx => by rw [List.eq_of_mem_replicate hx]; decide, fun y hy => by
    obtain ⟨i, _, rfl⟩ := List.mem_map.1 hy
    exact ⟨by show (⟨#[]⟩ : ByteArray).size ≤ 40; decide, fun m hm => by simp [newTy] at hm⟩, by simp [newCn], by simp [newCn], by simp [newCn]; exact hv⟩
theorem nodup_int {l : List Int} {n : Nat} (hn : l.Nodup) (h : ∀ x ∈ l, 1 ≤ x ∧ x ≤ n) : l.length ≤ n := by
  have := nodup_le n (l.map (fun x => x.toNat - 1)) (by
    refine List.Pairwise.map (R := fun a b => a ∈ l ∧ b ∈ l ∧ a ≠ b) _ ?_ (List.Pairwise.imp_of_mem (fun ha hb hab => ⟨ha, hb, hab⟩) hn)
    rintro a b ⟨ha, hb, hab⟩
    have := h a ha
    have := h b hb
    omega) (fun x hx => by
    obtain ⟨y, hy, rfl⟩ := List.mem_map.1 hx
    have := h y hy
    omega)
  rwa [List.length_map] at this
theorem tj_get {ts : List Ty} {j : Nat} (h : j < ts.length) : tj ts j = ts[j] := by unfold tj; rw [List.getD_eq_getElem?_getD, List.getElem?_eq_getElem h]; rfl
/-- What the steps in memory need is there. -/
theorem fit_of {n T k : Nat} {Pr : ByteArray → Prop} {c : Cn} (G : GC n T Pr c) (h : Sz k c) (hk : k ≤ 100000) : Fit12 c ∧ Rng12 c := by
  obtain ⟨V, A, G⟩ := G
  have hv := h.w
  have hT := G.hT
  have hnt := G.nt
  have hty : ∀ t ∈ c.ts, ∃ j, j < T ∧ TyOk n Pr c.vs V j t := fun t ht => by
    obtain ⟨j, hj, rfl⟩ := List.getElem_of_mem ht
    exact ⟨j, by omega, by have := G.ty j (by omega); rwa [tj_get hj] at this⟩
  refine ⟨⟨by omega, by omega, by have := h.l; omega, by have := h.h; omega, fun t ht => ?_, fun t ht => ?_, fun j hj => ?_⟩, ⟨fun m hm => ?_, fun x hx => by have := h.v x hx; omega⟩⟩
  · obtain ⟨j, hj, y1, y2, _⟩ := hty t ht
    rcases y2 with y2 | y2 <;> omega
  · obtain ⟨j, hj, y1, y2, y3, y4, y5, y6, y7⟩ := hty t ht
    have e1 := nodup_int y5 (fun x hx => by obtain ⟨m, hm, rfl⟩ := List.mem_map.1 hx; exact (y4 m hm).2.2.1)
    have e2 := nodup_int y6 (fun x hx => (y7 x hx).1)
    have := G.nv
    rw [List.length_map] at e1
    omega
  · have := (G.ty j (by omega)).1
    rwa [tj_get hj] at this
  · have hs := h.n m hm
    obtain ⟨_, hm⟩ := G.no m hm
    rw [G.nv, G.nt]
    rcases hm with ⟨q, q1, q2⟩ | ⟨q, q1, q2⟩ | ⟨q, q1, q2, q3⟩ | ⟨q, q1, q2, q3⟩
    · exact ⟨q2.1, fun h => by omega, fun _ _ => q2.2, by omega⟩
    · exact ⟨q2.1, fun _ => q2.2, fun h => absurd q h, by omega⟩
    · exact ⟨q2.1, fun h => by omega, fun _ _ => q2.2, by omega⟩
    · exact ⟨q2.1, fun _ => q2.2, fun _ h => absurd q h, by omega⟩
end Go.Proofs.Ytgehdgmllilmgaa
namespace Go.Proofs.Ytgehdgmllilmgaa
open Go.RowKit
set_option linter.unusedVariables false

/-- What is not asked yet has fewer promises than most. -/
def NA12 (n : Nat) (c : Cn) : Prop := ∀ t ∈ c.ts, t.as = false → (t.ps.length : Int) < mostI n
section
variable {n T : Nat} {Pr : ByteArray → Prop}
/-- Nobody took what was not asked for. -/
theorem GC.notk {c : Cn} (G : GC n T Pr c) {j : Nat} (hj : j < c.ts.length) (ha : c.ts[j].as = false) : c.ts[j].tk = [] := by
  obtain ⟨V, A, G⟩ := G
  have hjT : j < T := by have := G.nt; omega
  obtain ⟨y1, y2, y3, y4, y5, y6, y7⟩ := G.ty j hjT
  rw [tj_get hj] at y1 y2 y3 y4 y5 y6 y7
  cases htk : c.ts[j].tk with
  | nil => rfl
  | cons x l =>
    have hx := y7 x (by rw [htk]; simp)
    have hv := G.v1 _ _ _ hx.2
    obtain ⟨b1, _, i, hi, hm, hor⟩ := G.a2 _ _ hv.2.2.2
    have hb : c.ts[j].b % 10 = (j : Int) + 1 := by
      rcases y2 with y2 | y2
      · omega
      · exact y2.2.1
    have hij : i = j := by omega
    subst hij
    rw [tj_get hj] at hor
    rcases hor with ⟨_, h2, _⟩ | h2
    · rw [ha] at h2; cases h2
    · omega
end
theorem tell_prom {n T : Nat} {Pr : ByteArray → Prop} {c : Cn} {m : Nt} {j : Nat} (G : GC n T Pr c) (N : NA12 c.vs.length c) (hk : m.k = 2) (ho : m.o = (j : Int) + 1) (hj : j < c.ts.length) : tellC c m = promC c m := by
  unfold tellC promC
  rw [ho, tyAt_nat c hj]
  have hN := N c.ts[j] (List.getElem_mem hj)
  have hK := G.notk hj
  generalize c.ts[j] = t at *
  by_cases cb : t.b ≠ m.b ∨ t.as = true
  · rw [if_pos cb]
    have : waitB t m = false := by
      unfold waitB
      rcases cb with cb | cb
      · split
        · rfl
        · rw [if_pos (.inl hk)]
          have : (m.b == t.b) = false := by cases h : (m.b == t.b) with | false => rfl | true => exact absurd (eq_of_beq h).symm cb
          rw [this]
          rfl
      · rw [if_pos ⟨hk, by rw [cb]; rfl⟩]
    rw [if_pos this]
  · rw [if_neg cb]
    have hb : t.b = m.b := by by_cases h : t.b = m.b; exact h; exact absurd (.inl h) cb
    have ha : t.as = false := by cases h : t.as with | false => rfl | true => exact absurd (.inr h) cb
    by_cases ca : t.ps.any (fun p => p.f == m.f) = true
    · rw [if_pos ca]
      have : waitB t m = false := by
        unfold waitB
        rw [if_pos ⟨hk, by rw [ca]; simp⟩]
      rw [if_pos this]
    · rw [if_neg ca]
      have ca' : t.ps.any (fun p => p.f == m.f) = false := by cases h : t.ps.any (fun p => p.f == m.f) with | false => rfl | true => exact absurd h ca
      have : waitB t m = true := by
        unfold waitB
        rw [if_neg (by rw [ha, ca']; simp), if_pos (.inl hk), hK ha, hb]
        simp
      rw [if_neg (by rw [this]; simp), if_pos hk]
      have hlt := hN ha
      unfold hearPr
      by_cases cm : (t.ps.length : Int) + 1 = mostI c.vs.length
      · rw [if_pos cm, if_neg (by omega)]
      · rw [if_neg cm, if_pos (by omega), List.append_nil]
        rfl
theorem tell_tak {c : Cn} {m : Nt} {j : Nat} (hk : m.k = 4) (ho : m.o = (j : Int) + 1) (hj : j < c.ts.length) : tellC c m = takC c m := by
  unfold tellC takC
  rw [ho, tyAt_nat c hj]
  generalize c.ts[j] = t at *
  have hw : waitB t m = ((m.b == t.b) && !(t.tk.any (fun p => p == m.f))) := by
    unfold waitB
    rw [if_neg (fun h => by have := h.1; omega), if_pos (.inr hk)]
  rw [hw]
  by_cases cb : t.b ≠ m.b ∨ t.tk.any (fun p => p == m.f) = true
  · rw [if_pos cb]
    have : ((m.b == t.b) && !(t.tk.any (fun p => p == m.f))) = false := by
      rcases cb with cb | cb
      · have : (m.b == t.b) = false := by cases h : (m.b == t.b) with | false => rfl | true => exact absurd (eq_of_beq h).symm cb
        rw [this]; rfl
      · rw [cb]; simp
    rw [if_pos this]
  · rw [if_neg cb]
    have hb : t.b = m.b := by by_cases h : t.b = m.b; exact h; exact absurd (.inl h) cb
    have ca : t.tk.any (fun p => p == m.f) = false := by cases h : t.tk.any (fun p => p == m.f) with | false => rfl | true => exact absurd (.inr h) cb
    rw [if_neg (by rw [hb, ca]; simp), if_neg (by omega)]
    unfold hearTk
    by_cases cm : (t.tk.length : Int) + 1 = mostI c.vs.length
    · rw [if_pos cm, if_pos cm]
    · rw [if_neg cm, if_neg cm, List.append_nil]
      rfl
theorem NA12.setTy {n : Nat} {c : Cn} (h : NA12 n c) (i : Int) (t : Ty) (ht : t.as = false → (t.ps.length : Int) < mostI n) : NA12 n (setTy c i t) := fun x hx => by
  rcases List.mem_or_eq_of_mem_set hx with hx | rfl
  · exact h x hx
  · exact ht
theorem NA12.tyAt {n : Nat} {c : Cn} (h : NA12 n c) (hn : 1 ≤ n) (i : Int) : (tyAt c i).as = false → ((tyAt c i).ps.length : Int) < mostI n := by
  unfold Go.Proofs.Ytgehdgmllilmgaa.tyAt
  rw [List.getD_eq_getElem?_getD]
  cases e : c.ts[i.toNat - 1]? with
  | none =>
    intro _
    show ((0 : Nat) : Int) < mostI n
    unfold mostI
    rw [if_neg (by omega)]
    omega
  | some t => exact h t (List.mem_of_getElem? e)
theorem NA12.doC {n : Nat} {c : Cn} {e : Hp} (h : NA12 n c) (hn : 1 ≤ n) (hv : c.vs.length = n) : NA12 n (doC c e).1 := by
  have m1 : (0 : Int) < mostI n := by unfold mostI; rw [if_neg (by omega)]; omega
  have hd : ∀ k, NA12 n (dropC c k) := fun k t ht => h t ht
  unfold Go.Proofs.Ytgehdgmllilmgaa.doC
  split
  · unfold propC
    split
    · exact h
    · exact NA12.setTy h e.i _ (fun _ => m1)
  · split
    · exact h
    · split
      · exact fun t ht => h t ht
      · split
        · exact hd _
        · unfold carrC
          split
          · unfold promC
            have ht := (hd (placeC c e)).tyAt hn (ntAt c (placeC c e)).o
            split
            · exact hd _
            · rename_i c1
              split
              · exact hd _
              · split
                · exact NA12.setTy (hd _) _ _ (fun q => by cases q)
                · rename_i c3
                  refine NA12.setTy (hd _) _ _ (fun q => ?_)
                  have := ht q
                  have hvv : (dropC c (placeC c e)).vs.length = n := hv
                  rw [hvv] at c3
                  show (((Go.Proofs.Ytgehdgmllilmgaa.tyAt (dropC c (placeC c e)) (ntAt c (placeC c e)).o).ps ++ [ntAt c (placeC c e)]).length : Int) < _
                  rw [List.length_append, List.length_singleton]
                  omega
          · split
            · unfold takC
              have ht := (hd (placeC c e)).tyAt hn (ntAt c (placeC c e)).o
              split
              · exact hd _
              · split
                · exact NA12.setTy (hd _) _ _ ht
                · exact NA12.setTy (hd _) _ _ ht
            · unfold hearC
              split
              · exact fun t ht => h t ht
              · exact fun t ht => h t ht
theorem NA12.new (v t : Nat) (hv : 1 ≤ v) : NA12 v (newCn v t) := fun y hy _ => by
  obtain ⟨i, _, rfl⟩ := List.mem_map.1 hy
  show ((0 : Nat) : Int) < mostI v
  unfold mostI
  rw [if_neg (by omega)]
  omega
theorem vs_doC {c : Cn} {e : Hp} : (doC c e).1.vs.length = c.vs.length := by
  unfold Go.Proofs.Ytgehdgmllilmgaa.doC
  split
  · unfold propC
    split <;> rfl
  · split
    · rfl
    · split
      · rfl
      · split
        · rfl
        · unfold carrC
          split
          · unfold promC
            split
            · rfl
            · split
              · rfl
              · split <;> rfl
          · split
            · unfold takC
              split
              · rfl
              · split <;> rfl
            · unfold hearC
              split
              · exact List.length_set
              · rfl
end Go.Proofs.Ytgehdgmllilmgaa
