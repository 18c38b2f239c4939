/- What is sought in right tables, told by entries; what a put and a take leave; tables in variables. -/
import Derived.Test.YtinjohpeanlalaaXO
namespace Go.Proofs.Ytinjohpeanlalaa
open Go.RowKit

/-- A table has an entry. -/
def Ent (l o : List Ce) (key : ByteArray) (h : Int) : Prop := ∃ c : Ce, (c ∈ l ∨ c ∈ o) ∧ c.key = key ∧ c.h = h
theorem seekT_iff {l o : List Ce} {mv : Int} (h : OkN l o mv) {key : ByteArray} (hk : key.toList ≠ []) (x : Int) : seekT l o key = some x ↔ Ent l o key x := by
  constructor
  · intro e
    unfold seekT at e
    split at e
    · rename_i k hs
      obtain ⟨c, hc, ek⟩ := seek_yes hs
      rw [hc] at e
      injection e with e
      exact ⟨c, .inl (List.mem_of_getElem? hc), ek, e⟩
    · split at e
      · rename_i k hs
        obtain ⟨c, hc, ek⟩ := seek_yes hs
        rw [hc] at e
        injection e with e
        exact ⟨c, .inr (List.mem_of_getElem? hc), ek, e⟩
      · cases e
  · rintro ⟨c, hc | hc, ek, eh⟩
    · obtain ⟨i, hi, e⟩ := List.mem_iff_getElem.1 hc
      have hx : l[i]? = some c := by rw [List.getElem?_eq_getElem hi, e]
      have hs := seek_at h.l1.1 h.l1.2.1 h.l1.2.2 hx (by rw [ek]; exact hk)
      rw [ek] at hs
      unfold seekT
      rw [hs]
      simp only
      rw [hx, ← eh]
      rfl
    · obtain ⟨i, hi, e⟩ := List.mem_iff_getElem.1 hc
      have hx : o[i]? = some c := by rw [List.getElem?_eq_getElem hi, e]
      have hs := seek_at h.o1.1 h.o1.2.1 h.o1.2.2 hx (by rw [ek]; exact hk)
      rw [ek] at hs
      have hn : seekC l key = none := seek_none fun j y hy e2 => h.apart i j c y hx hy (by rw [ek]; exact hk) (by rw [ek, e2])
      unfold seekT
      rw [hn]
      simp only
      rw [hs]
      simp only
      rw [hx, ← eh]
      rfl
theorem seekT_same {l o L O : List Ce} {mv M : Int} (h : OkN l o mv) (H : OkN L O M) {key : ByteArray} (hk : key.toList ≠ []) (he : ∀ x, Ent L O key x ↔ Ent l o key x) : seekT L O key = seekT l o key := by
  cases e : seekT l o key with
  | some x => exact (seekT_iff H hk x).2 ((he x).2 ((seekT_iff h hk x).1 e))
  | none =>
    cases e2 : seekT L O key with
    | none => rfl
    | some x =>
      have := (seekT_iff h hk x).2 ((he x).1 ((seekT_iff H hk x).1 e2))
      rw [e] at this
      cases this
theorem mem_set {l : List Ce} {k : Nat} {c x : Ce} (hx : l[k]? = some x) {key : ByteArray} (h1 : x.key ≠ key) (h2 : c.key ≠ key) (h : Int) : (∃ d, d ∈ l.set k c ∧ d.key = key ∧ d.h = h) ↔ ∃ d, d ∈ l ∧ d.key = key ∧ d.h = h := by
  constructor
  · rintro ⟨d, hd, e1, e2⟩
    obtain ⟨i, hi, e⟩ := List.mem_iff_getElem.1 hd
    rcases set_at (show (l.set k c)[i]? = some d by rw [List.getElem?_eq_getElem hi, e]) with ⟨_, e3⟩ | ⟨_, hx2⟩
    · rw [e3] at e1; exact absurd e1 h2
    · exact ⟨d, List.mem_of_getElem? hx2, e1, e2⟩
  · rintro ⟨d, hd, e1, e2⟩
    obtain ⟨i, hi, e⟩ := List.mem_iff_getElem.1 hd
    have hik : i ≠ k := by
      intro e3
      subst e3
      rw [List.getElem?_eq_getElem hi, e] at hx
      injection hx with hx
      rw [← hx] at h1
      exact h1 e1
    exact ⟨d, List.mem_of_getElem? (show (l.set k c)[i]? = some d by rw [List.getElem?_set_ne (Ne.symm hik), List.getElem?_eq_getElem hi, e]), e1, e2⟩
theorem ent_or {l o : List Ce} {key : ByteArray} {h : Int} : Ent l o key h ↔ (∃ d, d ∈ l ∧ d.key = key ∧ d.h = h) ∨ (∃ d, d ∈ o ∧ d.key = key ∧ d.h = h) := by
  constructor
  · rintro ⟨c, h1 | h1, h2, h3⟩
    · exact .inl ⟨c, h1, h2, h3⟩
    · exact .inr ⟨c, h1, h2, h3⟩
  · rintro (⟨c, h1, h2, h3⟩ | ⟨c, h1, h2, h3⟩)
    · exact ⟨c, .inl h1, h2, h3⟩
    · exact ⟨c, .inr h1, h2, h3⟩
theorem gC_ne {key : ByteArray} (hk : key.toList ≠ []) : gC.key ≠ key := fun e => hk (by rw [← e]; exact gC_key)
/-- Where a key is put, and what else is there. -/
theorem ent_put {l o L O : List Ce} {mv M : Int} {key : ByteArray} {hd : Int} (h : OkN l o mv) (hk : key.toList ≠ []) (hsz : key.size ≤ 12) (hh : 0 ≤ hd) (e : putR l o mv key hd = some (L, O, M)) :
    Ent L O key hd ∧ ∀ k', k'.toList ≠ [] → k' ≠ key → ∀ x, Ent L O k' x ↔ Ent l o k' x := by
  unfold putR at e
  split at e
  · rename_i k hs
    obtain ⟨x, hx, hxk⟩ := seek_yes hs
    injection e with e
    injection e with e1 e2
    injection e2 with e2 e3
    rw [← e1, ← e2]
    have hi := (List.getElem?_eq_some_iff.1 hx).1
    refine ⟨⟨⟨key, hd⟩, .inl (List.mem_of_getElem? (show (l.set k ⟨key, hd⟩)[k]? = some _ by rw [List.getElem?_set_self hi])), rfl, rfl⟩, fun k' hk' hne y => ?_⟩
    rw [ent_or, ent_or, mem_set hx (by rw [hxk]; exact Ne.symm hne) (Ne.symm hne)]
  · rename_i hs
    split at e
    · rename_i l' hp
      injection e with e
      injection e with e1 e2
      injection e2 with e2 e3
      rw [← e1, ← e2]
      obtain ⟨_, _, k, rfl, x, hx, hx0⟩ := put_right h.l1 h.l2 hk hsz hh (seek_no h.l1 hk hs) hp
      have hi := (List.getElem?_eq_some_iff.1 hx).1
      refine ⟨⟨⟨key, hd⟩, .inl (List.mem_of_getElem? (show (l.set k ⟨key, hd⟩)[k]? = some _ by rw [List.getElem?_set_self hi])), rfl, rfl⟩, fun k' hk' hne y => ?_⟩
      have h2 : (∃ d, d ∈ goneO o key ∧ d.key = k' ∧ d.h = y) ↔ ∃ d, d ∈ o ∧ d.key = k' ∧ d.h = y := by
        unfold goneO
        split
        · rename_i j hj
          obtain ⟨c, hc, hck⟩ := seek_yes hj
          exact mem_set hc (by rw [hck]; exact Ne.symm hne) (gC_ne hk') y
        · exact Iff.rfl
      rw [ent_or, ent_or, mem_set hx (fun e => hk' (by rw [← e]; exact hx0)) (Ne.symm hne), h2]
    · cases e
theorem ent_take {l o L O : List Ce} {mv M : Int} {key : ByteArray} (h : OkN l o mv) (hk : key.toList ≠ []) (e : takeR l o mv key = some (L, O, M)) :
    (∀ x, ¬ Ent L O key x) ∧ ∀ k', k'.toList ≠ [] → k' ≠ key → ∀ x, Ent L O k' x ↔ Ent l o k' x := by
  have hgo : ∀ (r : List Ce) (k : Nat) (c : Ce), (FitC r ∧ Dst r ∧ Rch r) → r[k]? = some c → c.key = key → ∀ d, d ∈ r.set k gC → d.key ≠ key := by
    intro r k c hr hc hck d hd e
    obtain ⟨i, hi, e2⟩ := List.mem_iff_getElem.1 hd
    rcases set_at (show (r.set k gC)[i]? = some d by rw [List.getElem?_eq_getElem hi, e2]) with ⟨_, e3⟩ | ⟨hne, hx⟩
    · rw [e3] at e; exact gC_ne hk e
    · exact hne (hr.2.1 i k d c hx hc (by rw [e]; exact hk) (by rw [e, hck]))
  unfold takeR at e
  split at e
  · rename_i k hs
    obtain ⟨c, hc, hck⟩ := seek_yes hs
    injection e with e
    injection e with e1 e2
    injection e2 with e2 e3
    rw [← e1, ← e2]
    refine ⟨?_, fun k' hk' hne y => by rw [ent_or, ent_or, mem_set hc (by rw [hck]; exact Ne.symm hne) (gC_ne hk')]⟩
    rintro x ⟨d, hd | hd, e1, _⟩
    · exact hgo l k c h.l1 hc hck d hd e1
    · obtain ⟨i, hi, e2⟩ := List.mem_iff_getElem.1 hd
      exact h.apart i k d c (by rw [List.getElem?_eq_getElem hi, e2]) hc (by rw [e1]; exact hk) (by rw [e1, hck])
  · rename_i hn
    split at e
    · rename_i k hs
      obtain ⟨c, hc, hck⟩ := seek_yes hs
      injection e with e
      injection e with e1 e2
      injection e2 with e2 e3
      rw [← e1, ← e2]
      refine ⟨?_, fun k' hk' hne y => by rw [ent_or, ent_or, mem_set hc (by rw [hck]; exact Ne.symm hne) (gC_ne hk')]⟩
      rintro x ⟨d, hd | hd, e1, _⟩
      · obtain ⟨i, hi, e2⟩ := List.mem_iff_getElem.1 hd
        exact seek_no h.l1 hk hn i d (by rw [List.getElem?_eq_getElem hi, e2]) e1
      · exact hgo o k c h.o1 hc hck d hd e1
    · cases e
theorem take_some {l o : List Ce} {mv : Int} {key : ByteArray} {x : Int} (h : seekT l o key = some x) : ∃ R, takeR l o mv key = some R := by
  unfold seekT at h
  unfold takeR
  split at h
  · rename_i k hs; rw [hs]; exact ⟨_, rfl⟩
  · rename_i hs
    rw [hs]
    simp only
    split at h
    · rename_i k hs2; rw [hs2]; exact ⟨_, rfl⟩
    · cases h
theorem seekT_none {l o : List Ce} {mv : Int} (h : OkN l o mv) {key : ByteArray} (hk : key.toList ≠ []) (hn : ∀ x, ¬ Ent l o key x) : seekT l o key = none := by
  cases e : seekT l o key with
  | none => rfl
  | some x => exact absurd ((seekT_iff h hk x).1 e) (hn x)

/-- A right table in a variable. -/
structure OneT2 (w : World) (A : Nat) (ao : Option Addr) (l : List Ce) (ca : Nat) (a' : Option Addr) (o : List Ce) (ca' : Nat) (m : Int) : Prop where
  ok : OkN l o m
  var : Blk w A 29 [.slice ao l.length ca, .slice a' o.length ca', .int .i64 m]
  rd : RdC w ao l
  rd' : RdC w a' o
theorem OneT2.later {w w' : World} {A ca ca' : Nat} {ao a' : Option Addr} {l o : List Ce} {m : Int} (h : OneT2 w A ao l ca a' o ca' m) (hb : Below w.heap.size w w') : OneT2 w' A ao l ca a' o ca' m := ⟨h.ok, h.var.below hb h.var.lt, h.rd.later hb, h.rd'.later hb⟩
theorem OneT2.cells {w : World} {A ca ca' : Nat} {ao a' : Option Addr} {l o : List Ce} {m : Int} (h : OneT2 w A ao l ca a' o ca' m) : A < w.heap.size ∧ w.cell? ⟨A, 0, none⟩ = some (.slice ao l.length ca) ∧ w.cell? ⟨A, 1, none⟩ = some (.slice a' o.length ca') ∧ w.cell? ⟨A, 2, none⟩ = some (.int .i64 m) := ⟨h.var.lt, h.var.cell 0, h.var.cell 1, h.var.cell 2⟩
theorem OneT2.box {w : World} {b b' ca ca' : Nat} {ao a' : Option Addr} {l o : List Ce} {m : Int} (hok : OkN l o m) (h1 : w.ownsRow b 47 2 (.slice ao l.length ca) l.length (ces l)) (h2 : w.ownsRow b' 47 2 (.slice a' o.length ca') o.length (ces o)) : OneT2 (w.alloc (.cells #[.slice ao l.length ca, .slice a' o.length ca', .int .i64 m] 29)) w.heap.size ao l ca a' o ca' m :=
  ⟨hok, Blk.new w _ _, rdC_of_own (h1.alloc _), rdC_of_own (h2.alloc _)⟩
theorem OneT2.small {w : World} {A ca ca' : Nat} {ao a' : Option Addr} {l o : List Ce} {m : Int} (h : OneT2 w A ao l ca a' o ca' m) : l.length ≤ 64 ∧ o.length ≤ 64 := by
  have := (okN_iff.2 h.ok).len
  exact ⟨this.1, this.2.1⟩
/-- What SeekKey tells of what is sought. -/
def skI (x : Option Int) : Int := x.getD 0
def skB (x : Option Int) : Bool := x.isSome
theorem seekA_sk {l o : List Ce} {mv : Int} {key : ByteArray} {h : Int} {t : Bool} (hok : OkN l o mv) (hk : key.toList ≠ []) (x : SeekA l o mv key h t) : h = skI (seekT l o key) ∧ t = skB (seekT l o key) := by
  rcases x with ⟨rfl, _, _, e⟩ | ⟨rfl, rfl, hn⟩
  · rw [e]; exact ⟨rfl, rfl⟩
  · cases e : seekT l o key with
    | none => exact ⟨rfl, rfl⟩
    | some y => exact absurd ⟨okN_iff.2 hok, hk, y, e⟩ hn
theorem seekI {w w' : World} {A ca ca' : Nat} {ao a' : Option Addr} {l o : List Ce} {m : Int} (h : OneT2 w A ao l ca a' o ca' m) (z : ByteArray) (h1 : z.toList ≠ []) (h2 : z.size ≤ 12) (hb : Below w.heap.size w w') :
    Calls Try.prog 16 #[.agg #[.slice ao l.length ca, .slice a' o.length ca', .int .i64 m], .string z] w' fun e w'' => e = .returned (.tuple #[.int .i64 (skI (seekT l o z)), .bool (skB (seekT l o z))]) ∧ Below w'.heap.size w' w'' := by
  have hs := h.small
  refine (implSeek_any ao a' l o ca ca' m z w' (by omega) (by omega) (by omega) (h.rd.later hb).toJ (h.rd'.later hb).toJ).mono ?_
  rintro e w'' ⟨x, t, rfl, hx, hb2⟩
  obtain ⟨rfl, rfl⟩ := seekA_sk h.ok h1 hx
  exact ⟨rfl, hb2⟩
theorem seekS {w w' : World} {A ca ca' : Nat} {ao a' : Option Addr} {l o : List Ce} {m : Int} (h : OneT2 w A ao l ca a' o ca' m) (z : ByteArray) (h1 : z.toList ≠ []) (h2 : z.size ≤ 12) (hb : Below w.heap.size w w') :
    Calls Try.prog 19 #[.agg #[.slice ao l.length ca, .slice a' o.length ca', .int .i64 m], .string z] w' fun e w'' => e = .returned (.tuple #[.int .i64 (skI (seekT l o z)), .bool (skB (seekT l o z))]) ∧ Below w'.heap.size w' w'' := by
  have hs := h.small
  refine (specSeekKey_any ao a' l o ca ca' m z w' (by omega) (by omega) (by omega) (h.rd.later hb) (h.rd'.later hb)).mono ?_
  rintro e w'' ⟨x, t, rfl, hx, hb2⟩
  obtain ⟨rfl, rfl⟩ := seekA_sk h.ok h1 hx
  exact ⟨rfl, hb2⟩
theorem tokI {w w' : World} {A ca ca' : Nat} {ao a' : Option Addr} {l o : List Ce} {m : Int} (h : OneT2 w A ao l ca a' o ca' m) (hb : Below w.heap.size w w') :
    Calls Try.prog 15 #[.agg #[.slice ao l.length ca, .slice a' o.length ca', .int .i64 m]] w' fun e w'' => e = .returned (.bool true) ∧ Below w'.heap.size w' w'' := by
  have hs := h.small
  refine (implTOk_any ao a' l o ca ca' m w' (by omega) (by omega) (h.rd.later hb).toJ (h.rd'.later hb).toJ).mono ?_
  rintro e w'' ⟨x, rfl, hx, hb2⟩
  obtain rfl : x = true := hx.2 (okN_iff.2 h.ok)
  exact ⟨rfl, hb2⟩
theorem nmL_ne (j : Nat) (h : j < 12) : (nmL j).toList ≠ [] ∧ (nmL j).size ≤ 12 := by
  have hi : InK (nmL j) := ⟨j, h, rfl⟩
  exact ⟨key_ne hi.size.1, hi.size.2⟩
end Go.Proofs.Ytinjohpeanlalaa
