import Derived.Test.YtigpjmmfelndkaaGreatDoorLXN
import Derived.Test.YtigpjmmfelndkaaGreatDoorLXBW
import Derived.Test.YtigpjmmfelndkaaGreatDoorLXQ
import Derived.Test.YtigpjmmfelndkaaGreatDoorLXS
import Derived.Test.YtigpjmmfelndkaaGreatDoorLXT
namespace Go.Proofs.YtigpjmmfelndkaaGreatDoor
open Go.RowKit
structure Nr where
 sl : List Sl
 fr : Int
 ce : List Ce
 od : List Ce
 mv : Int
 w : List ByteArray
 wm : Int
 t : List ByteArray
 tm : Int
 s : List ByteArray
 sm : Int
 sk : List Int
 ad : Int
 dr : Int
def qaD (N : Nr) : List ByteArray := N.w ++ N.t ++ N.s
def qdD (n : Nat) : Nat := if n / 4 < 1 then 1 else n / 4
def qdO (n : Nat) : Nat := (n - qdD n) / 2
def qeF (n : Nat) : Nat := n - qdD n - qdO n
theorem qkM {n : Nat} (h : 2 <= n) : qdD n + qeF n + qdO n = n /\ 1 <= qdD n /\ 1 <= qeF n := by
 unfold qeF qdO qdD
 split <;> omega
def qaN (n : Nat) : Nat := if n < 2 then 4 else if n < 4 then 8 else if n < 8 then 16 else if n < 16 then 32 else 64
theorem qjC {n : Nat} (h : n <= 24) : 2 * n + 1 <= qaN n := by
 unfold qaN
 split
 ·omega
 ·split
  ·omega
  ·split
   ·omega
   ·split <;> omega
theorem qlN : ∀ (a b : List ByteArray), a.Nodup -> (∀ x ∈ a, x ∈ b) -> a.length <= b.length
 | [], _, _, _ => Nat.zero_le _
 | x :: a, b, hn, h => by
  rw [List.nodup_cons] at hn
  have hx := h x (List.mem_cons_self ..)
  have ih := qlN a (qaX b x) hn.2 (fun y hy => (qbN b x y).2 ⟨h y (List.mem_cons_of_mem _ hy), fun e => hn.1 (by rw [<- e]; exact hy)⟩)
  have := qiK hx
  simp only [List.length_cons]
  omega
theorem qeD {a b : List ByteArray} (ha : a.Nodup) (hb : b.Nodup) (h : ∀ x, x ∈ a ↔ x ∈ b) : a.length = b.length :=
 Nat.le_antisymm (qlN a b ha (fun x hx => (h x).1 hx)) (qlN b a hb (fun x hx => (h x).2 hx))
theorem quT {l : List Ce} (h : OkN l [] 0) {k : ByteArray} (hk : k.toList ≠ []) {x y : Int} (h1 : Ent l [] k x) (h2 : Ent l [] k y) : x = y := by
 have e1 := (qhR h hk x).2 h1
 have e2 := (qhR h hk y).2 h2
 rw [e1] at e2
 injection e2
theorem qlE (k : ByteArray) : qaZ [] k = none := rfl
theorem qtX {l L O : List Ce} {k : ByteArray} {mv M : Int} (e : qbY l [] mv k = some (L, O, M)) : O = [] /\ M = mv := by
 unfold qbY at e
 split at e
 ·injection e with e; injection e with _ e; injection e with e1 e2; exact ⟨e1.symm, e2.symm⟩
 ·rw [qlE] at e
  cases e
theorem qsU {l L O : List Ce} {k : ByteArray} {mv M h : Int} (e : qcJ l [] mv k h = some (L, O, M)) : O = [] /\ M = mv := by
 unfold qcJ at e
 split at e
 ·injection e with e; injection e with _ e; injection e with e1 e2; exact ⟨e1.symm, e2.symm⟩
 ·split at e
  ·injection e with e; injection e with _ e; injection e with e1 e2
   refine ⟨?_, e2.symm⟩
   rw [<- e1]
   rfl
  ·cases e
structure InT (sl : List Sl) (fr : Int) (ce : List Ce) (K : List ByteArray) : Prop where
 ar : OkA sl fr
 tb : OkN ce [] 0
 ent : ∀ k, k ∈ K -> ∃ (j : Nat) (hj : j < sl.length), sl[j].used = true /\ sl[j].key = k
 back : ∀ k h, k.toList ≠ [] -> Ent ce [] k h -> k ∈ K
 used : ∀ (j : Nat) (hj : j < sl.length), sl[j].used = true -> sl[j].key ∈ K /\ Ent ce [] sl[j].key (24 * sl[j].gen + (j : Int))
theorem InT.congr {sl : List Sl} {fr : Int} {ce : List Ce} {K K' : List ByteArray} (h : InT sl fr ce K) (he : ∀ x, x ∈ K' ↔ x ∈ K) : InT sl fr ce K' :=
 ⟨h.ar, h.tb, fun k hk => h.ent k ((he k).1 hk), fun k x hk e => (he k).2 (h.back k x hk e), fun j hj u => ⟨(he _).2 (h.used j hj u).1, (h.used j hj u).2⟩⟩
theorem InT.slot {sl : List Sl} {fr : Int} {ce : List Ce} {K : List ByteArray} (h : InT sl fr ce K) {j : Nat} (hj : j < sl.length) (hu : sl[j].used = true) : 1 <= sl[j].key.size /\ sl[j].key.size <= 12 /\ sl[j].val.size <= 20 /\ sl[j].key.toList ≠ [] := by
 obtain ⟨h1, h2, h3, _⟩ := (h.ar.slots j hj).2.2.1 hu
 refine ⟨h1, h2, h3, fun e => ?_⟩
 have : sl[j].key.toList.length = sl[j].key.size := by rw [ByteArray.toList_eq]; simp
 rw [e] at this
 simp at this
 omega
theorem InT.key {sl : List Sl} {fr : Int} {ce : List Ce} {K : List ByteArray} (h : InT sl fr ce K) {k : ByteArray} (hk : k ∈ K) : qcV k /\ k.toList ≠ [] := by
 obtain ⟨j, hj, hu, rfl⟩ := h.ent k hk
 obtain ⟨h1, h2, _, h4⟩ := h.slot hj hu
 exact ⟨⟨h1, h2⟩, h4⟩
theorem InT.uniq {sl : List Sl} {fr : Int} {ce : List Ce} {K : List ByteArray} (h : InT sl fr ce K) {i j : Nat} (hi : i < sl.length) (hj : j < sl.length) (ui : sl[i].used = true) (uj : sl[j].used = true) (e : sl[i].key = sl[j].key) : i = j := by
 have e1 := (h.used i hi ui).2
 have e2 := (h.used j hj uj).2
 rw [e] at e1
 have := quT h.tb (h.slot hj uj).2.2.2 e1 e2
 have := h.ar.most
 omega
theorem InT.at {sl : List Sl} {fr : Int} {ce : List Ce} {K : List ByteArray} (h : InT sl fr ce K) {j : Nat} (hj : j < sl.length) (hu : sl[j].used = true) : AtA sl fr (24 * sl[j].gen + (j : Int)) j := by
 have g0 := (h.ar.slots j hj).1
 have hm := h.ar.most
 exact ⟨h.ar, by omega, hj, by omega, hu, by omega⟩
theorem AtA.det {l : List Sl} {f x : Int} {i j : Nat} (h1 : AtA l f x i) (h2 : AtA l f x j) : i = j := by
 have := h1.place
 have := h2.place
 omega
theorem InT.handle {sl : List Sl} {fr : Int} {ce : List Ce} {K : List ByteArray} (h : InT sl fr ce K) {j : Nat} (hj : j < sl.length) (hu : sl[j].used = true) : qcP ce [] sl[j].key = some (24 * sl[j].gen + (j : Int)) :=
 (qhR h.tb (h.slot hj hu).2.2.2 _).2 (h.used j hj hu).2
theorem InT.none {sl : List Sl} {fr : Int} {ce : List Ce} {K : List ByteArray} (h : InT sl fr ce K) {k : ByteArray} (hk : k.toList ≠ []) (hn : ¬ k ∈ K) : qcP ce [] k = none :=
 qvP h.tb hk (fun x e => hn (h.back k x hk e))
theorem InT.lift {sl : List Sl} {fr : Int} {ce L O : List Ce} {M : Int} {K K' : List ByteArray} (h : InT sl fr ce K) {j : Nat} (hj : j < sl.length) (hu : sl[j].used = true) (e : qbY ce [] 0 sl[j].key = some (L, O, M)) (hK : ∀ x, x ∈ K' ↔ x ∈ K /\ x ≠ sl[j].key) :
  InT (sl.set j (qaS sl[j] fr)) (j : Int) L K' := by
 have hs := h.slot hj hu
 obtain ⟨rfl, rfl⟩ := qtX e
 obtain ⟨t1, t2⟩ := zaK h.tb hs.2.2.2 e
 refine ⟨h.ar.lift hj hu, h.tb.take hs.2.2.2 e, fun k hk => ?_, fun k x hk hx => ?_, fun i hi ui => ?_⟩
 ·obtain ⟨hk1, hk2⟩ := (hK k).1 hk
  obtain ⟨i, hi, ui, rfl⟩ := h.ent k hk1
  have hne : j ≠ i := fun e => by subst e; exact hk2 rfl
  exact ⟨i, by rw [List.length_set]; exact hi, by rw [List.getElem_set_ne hne]; exact ui, by rw [List.getElem_set_ne hne]⟩
 ·have hne : k ≠ sl[j].key := fun e => by rw [e] at hx; exact t1 x hx
  exact (hK k).2 ⟨h.back k x hk ((t2 k hk hne x).1 hx), hne⟩
 ·rw [List.length_set] at hi
  by_cases hne : j = i
  ·subst hne
   rw [List.getElem_set_self] at ui
   cases ui
  ·rw [List.getElem_set_ne hne] at ui ⊢
   have hki : sl[i].key ≠ sl[j].key := fun e => hne (h.uniq hj hi hu ui e.symm)
   obtain ⟨u1, u2⟩ := h.used i hi ui
   exact ⟨(hK _).2 ⟨u1, hki⟩, (t2 _ (h.slot hi ui).2.2.2 hki _).2 u2⟩
theorem OkA.head {sl : List Sl} {f : Nat} (h : OkA sl (f : Int)) (hf : f < sl.length) : sl[f].used = false := by
 obtain ⟨V, hV, hu⟩ := h.chain
 match V, hV with
 | [], hV => have e : (f : Int) = -1 := hV; omega
 | p :: V, hV =>
  obtain ⟨e, hp, _⟩ := hV
  obtain rfl : f = p := by omega
  exact (hu f hf).2 (List.mem_cons_self ..)
theorem InT.lay {sl : List Sl} {f : Nat} {ce L O : List Ce} {M : Int} {K K' : List ByteArray} {k v : ByteArray} (h : InT sl (f : Int) ce K) (hf : f < sl.length) (hk : qcV k) (hk0 : k.toList ≠ []) (hv : v.size <= 20) (hn : ¬ k ∈ K) (e : qcJ ce [] 0 k (24 * sl[f].gen + (f : Int)) = some (L, O, M)) (hK : ∀ x, x ∈ K' ↔ x = k ∨ x ∈ K) :
  InT (sl.set f ⟨sl[f].gen, true, k, v, 0⟩) sl[f].next L K' := by
 obtain ⟨rfl, rfl⟩ := qsU e
 have g0 := (h.ar.slots f hf).1
 have hfree := h.ar.head hf
 obtain ⟨t1, t2⟩ := qyG h.tb hk0 hk.2 (by omega) e
 refine ⟨h.ar.lay hf k v hk.1 hk.2 hv, h.tb.put hk0 hk.2 (by omega) e, fun z hz => ?_, fun z x hz hx => ?_, fun i hi ui => ?_⟩
 ·rcases (hK z).1 hz with rfl | hz
  ·exact ⟨f, by rw [List.length_set]; exact hf, by rw [List.getElem_set_self], by rw [List.getElem_set_self]⟩
  ·obtain ⟨i, hi, ui, rfl⟩ := h.ent z hz
   have hne : f ≠ i := fun e => by subst e; rw [hfree] at ui; cases ui
   exact ⟨i, by rw [List.length_set]; exact hi, by rw [List.getElem_set_ne hne]; exact ui, by rw [List.getElem_set_ne hne]⟩
 ·by_cases hne : z = k
  ·exact (hK z).2 (.inl hne)
  ·exact (hK z).2 (.inr (h.back z x hz ((t2 z hz hne x).1 hx)))
 ·rw [List.length_set] at hi
  by_cases hne : f = i
  ·subst hne
   rw [List.getElem_set_self]
   exact ⟨(hK k).2 (.inl rfl), t1⟩
  ·rw [List.getElem_set_ne hne] at ui ⊢
   obtain ⟨u1, u2⟩ := h.used i hi ui
   have hki : sl[i].key ≠ k := fun e => hn (by rw [<- e]; exact u1)
   exact ⟨(hK _).2 (.inr u1), (t2 _ (h.slot hi ui).2.2.2 hki _).2 u2⟩
theorem InT.renew {sl : List Sl} {fr : Int} {ce L O : List Ce} {M : Int} {K : List ByteArray} {v : ByteArray} (h : InT sl fr ce K) {j : Nat} (hj : j < sl.length) (hu : sl[j].used = true) (hv : v.size <= 20) (e : qcJ ce [] 0 sl[j].key (24 * qbM sl[j].gen + (j : Int)) = some (L, O, M)) :
  InT (sl.set j ⟨qbM sl[j].gen, true, sl[j].key, v, 0⟩) fr L K := by
 have hs := h.slot hj hu
 have g0 := (h.ar.slots j hj).1
 have g1 := qnN g0
 obtain ⟨rfl, rfl⟩ := qsU e
 obtain ⟨t1, t2⟩ := qyG h.tb hs.2.2.2 hs.2.1 (by omega) e
 have hA := (h.ar.lift hj hu).lay (by rw [List.length_set]; exact hj) sl[j].key v hs.1 hs.2.1 hv
 rw [List.set_set] at hA
 simp only [List.getElem_set_self] at hA
 refine ⟨hA, h.tb.put hs.2.2.2 hs.2.1 (by omega) e, fun z hz => ?_, fun z x hz hx => ?_, fun i hi ui => ?_⟩
 ·obtain ⟨i, hi, ui, rfl⟩ := h.ent z hz
  by_cases hne : j = i
  ·subst hne
   exact ⟨j, by rw [List.length_set]; exact hj, by rw [List.getElem_set_self], by rw [List.getElem_set_self]⟩
  ·exact ⟨i, by rw [List.length_set]; exact hi, by rw [List.getElem_set_ne hne]; exact ui, by rw [List.getElem_set_ne hne]⟩
 ·by_cases hne : z = sl[j].key
  ·rw [hne]; exact (h.used j hj hu).1
  ·exact h.back z x hz ((t2 z hz hne x).1 hx)
 ·rw [List.length_set] at hi
  by_cases hne : j = i
  ·subst hne
   rw [List.getElem_set_self]
   exact ⟨(h.used j hj hu).1, t1⟩
  ·rw [List.getElem_set_ne hne] at ui ⊢
   obtain ⟨u1, u2⟩ := h.used i hi ui
   have hki : sl[i].key ≠ sl[j].key := fun e => hne (h.uniq hj hi hu ui e.symm)
   exact ⟨u1, (t2 _ (h.slot hi ui).2.2.2 hki _).2 u2⟩
theorem InT.clean {sl : List Sl} {fr : Int} {ce X O : List Ce} {M : Int} {K : List ByteArray} (h : InT sl fr ce K) (e : qbQ ce [] = some (X, O, M)) : InT sl fr X K := by
 obtain ⟨_, _, c3, _, _, c6⟩ := qvB h.tb e
 refine ⟨h.ar, c3, h.ent, fun z x hz hx => h.back z x hz ((c6 z hz x).1 hx), fun j hj u => ⟨(h.used j hj u).1, (c6 _ (h.slot hj u).2.2.2 _).2 (h.used j hj u).2⟩⟩
def qnM (sl : List Sl) : List ByteArray := (sl.filter (·.used)).map (·.key)
theorem qpD {sl : List Sl} {k : ByteArray} : k ∈ qnM sl ↔ ∃ (j : Nat) (hj : j < sl.length), sl[j].used = true /\ sl[j].key = k := by
 unfold qnM
 rw [List.mem_map]
 constructor
 ·rintro ⟨s, hs, rfl⟩
  rw [List.mem_filter] at hs
  obtain ⟨j, hj, rfl⟩ := List.getElem_of_mem hs.1
  exact ⟨j, hj, hs.2, rfl⟩
 ·rintro ⟨j, hj, hu, rfl⟩
  exact ⟨sl[j], List.mem_filter.2 ⟨List.getElem_mem hj, hu⟩, rfl⟩
theorem InT.usedK_iff {sl : List Sl} {fr : Int} {ce : List Ce} {K : List ByteArray} (h : InT sl fr ce K) (k : ByteArray) : k ∈ qnM sl ↔ k ∈ K := by
 rw [qpD]
 constructor
 ·rintro ⟨j, hj, hu, rfl⟩; exact (h.used j hj hu).1
 ·exact h.ent k
theorem qqP : ∀ (sl : List Sl), (∀ (i j : Nat) (hi : i < sl.length) (hj : j < sl.length), sl[i].used = true -> sl[j].used = true -> sl[i].key = sl[j].key -> i = j) -> (qnM sl).Nodup
 | [], _ => List.nodup_nil
 | s :: sl, h => by
  have ih := qqP sl (fun i j hi hj ui uj e => by
   have := h (i + 1) (j + 1) (by simpa using hi) (by simpa using hj) ui uj e
   omega)
  unfold qnM at ih ⊢
  cases hs : s.used with
  | false => rw [List.filter_cons_of_neg (by rw [hs]; simp)]; exact ih
  | true =>
   rw [List.filter_cons_of_pos hs, List.map_cons, List.nodup_cons]
   refine ⟨fun hm => ?_, ih⟩
   obtain ⟨j, hj, uj, ej⟩ := qpD.1 hm
   have := h 0 (j + 1) (by simp) (by simpa using hj) hs uj ej.symm
   omega
theorem InT.usedK_nodup {sl : List Sl} {fr : Int} {ce : List Ce} {K : List ByteArray} (h : InT sl fr ce K) : (qnM sl).Nodup :=
 qqP sl (fun _ _ hi hj ui uj e => h.uniq hi hj ui uj e)
theorem qmN (sl : List Sl) : ∀ i, i <= sl.length -> qeN sl i = ((sl.take i).filter (·.used)).length
 | 0, _ => by simp [qeN]
 | i + 1, hi => by
  rw [qeN, qmN sl i (by omega), List.take_succ_eq_append_getElem (by omega), List.filter_append, List.length_append, List.getElem?_eq_getElem (by omega)]
  cases h : sl[i].used <;> simp [h]
theorem qwT (sl : List Sl) : qeN sl sl.length = (qnM sl).length := by
 rw [qmN sl _ (Nat.le_refl _), List.take_length]
 simp [qnM]
theorem InT.count {sl : List Sl} {fr : Int} {ce : List Ce} {K : List ByteArray} (h : InT sl fr ce K) (hn : K.Nodup) : qeN sl sl.length = K.length := by
 rw [qwT]
 exact qeD h.usedK_nodup hn h.usedK_iff
theorem InT.room {sl : List Sl} {fr : Int} {ce : List Ce} {K : List ByteArray} (h : InT sl fr ce K) (hn : K.Nodup) (hl : K.length < sl.length) : ∃ f : Nat, fr = (f : Int) /\ f < sl.length := by
 obtain ⟨V, hV, hu⟩ := h.ar.chain
 match V, hV, hu with
 | p :: V, hV, _ => exact ⟨p, hV.1, hV.2.1⟩
 | [], _, hu =>
  exfalso
  have hall : sl.filter (·.used) = sl := by
   rw [List.filter_eq_self]
   intro s hs
   obtain ⟨j, hj, rfl⟩ := List.getElem_of_mem hs
   cases hx : sl[j].used with
   | true => rfl
   | false => have := (hu j hj).1 hx; simp at this
  have h1 := qeD h.usedK_nodup hn h.usedK_iff
  unfold qnM at h1
  rw [hall, List.length_map] at h1
  omega
theorem zcO {sl : List Sl} {fr : Int} {ce : List Ce} {K : List ByteArray} (h : InT sl fr ce K) (hn : K.Nodup) : (qaY (qdL ce [])).length = K.length := by
 have hT := qcG.2 h.tb
 have h1 : (qbX (qaY (qdL ce []))).Nodup := (qoH hT).imp (fun {a b} hab e => by subst e; rw [qiU] at hab; cases hab)
 have h2 := qeD h1 hn (fun x => by
  rw [qoG hT]
  constructor
  ·rintro ⟨hx, y, hy⟩; exact h.back x y hx hy
  ·intro hx
   obtain ⟨j, hj, hu, rfl⟩ := h.ent x hx
   exact ⟨(h.slot hj hu).2.2.2, _, (h.used j hj hu).2⟩)
 rw [qaT] at h2
 exact h2
theorem qlI : ∀ (E Y : List Ce), E.length + 1 <= qbJ Y Y.length -> ∃ X, qdN E Y = some X /\ qbJ Y Y.length <= qbJ X X.length + E.length
 | [], Y, _ => ⟨Y, rfl, by simp⟩
 | e :: E, Y, h => by
  simp only [List.length_cons] at h
  obtain ⟨Z, hZ, hz⟩ := qqM (l := Y) (by omega) e.key e.h
  obtain ⟨X, hX, hx⟩ := qlI E Z (by omega)
  refine ⟨X, ?_, by simp only [List.length_cons]; omega⟩
  rw [qdN, hZ]
  exact hX
theorem qwI {sl : List Sl} {fr : Int} {ce : List Ce} {K : List ByteArray} (h : InT sl fr ce K) (hn : K.Nodup) (hl : K.length + 2 <= ce.length) : ∃ X, qbQ ce [] = some (X, [], 0) /\ 2 <= qbJ X X.length := by
 have e := zcO h hn
 have hr := qqS ce.length ce.length (Nat.le_refl _)
 obtain ⟨X, hX, hx⟩ := qlI (qaY (qdL ce [])) (List.replicate ce.length nC) (by rw [List.length_replicate, hr]; omega)
 rw [List.length_replicate, hr] at hx
 exact ⟨X, by unfold qbQ; rw [hX]; rfl, by omega⟩
def layT (ce : List Ce) (k : ByteArray) (h : Int) : List Ce :=
 match qcJ ce [] 0 k h with
 | some (L, _, _) => L
 | none => match qbQ ce [] with
  | some (X, _, _) => match qcJ X [] 0 k h with
   | some (L, _, _) => L
   | none => []
  | none => []
theorem qkN {sl : List Sl} {fr : Int} {ce : List Ce} {K : List ByteArray} (h : InT sl fr ce K) (hn : K.Nodup) (hl : K.length + 2 <= ce.length) {k : ByteArray} (hk0 : k.toList ≠ []) (hk : ¬ k ∈ K) (x : Int) :
  qcJ ce [] 0 k x = some (layT ce k x, [], 0) ∨ (qcJ ce [] 0 k x = none /\ ∃ X, qbQ ce [] = some (X, [], 0) /\ qcJ X [] 0 k x = some (layT ce k x, [], 0)) := by
 cases e : qcJ ce [] 0 k x with
 | some R =>
  obtain ⟨L, O, M⟩ := R
  obtain ⟨rfl, rfl⟩ := qsU e
  exact .inl (by unfold layT; rw [e])
 | none =>
  obtain ⟨X, hX, h2⟩ := qwI h hn hl
  have hc := h.clean hX
  obtain ⟨L, hL, _⟩ := qqM h2 k x
  have hs : qaZ X k = none := by
   have := hc.none hk0 hk
   unfold qcP at this
   split at this
   ·rename_i i hi
    obtain ⟨c, hcc, _⟩ := qdK hi
    rw [hcc] at this
    cases this
   ·assumption
  have hp : qcJ X [] 0 k x = some (L, [], 0) := by unfold qcJ; rw [hs, hL]; rfl
  exact .inr ⟨rfl, X, hX, by unfold layT; rw [e, hX]; simp only; rw [hp]⟩
theorem InT.layT {sl : List Sl} {f : Nat} {ce : List Ce} {K K' : List ByteArray} {k v : ByteArray} (h : InT sl (f : Int) ce K) (hf : f < sl.length) (hn : K.Nodup) (hl : K.length + 2 <= ce.length) (hk : qcV k) (hk0 : k.toList ≠ []) (hv : v.size <= 20) (hin : ¬ k ∈ K) (hK : ∀ x, x ∈ K' ↔ x = k ∨ x ∈ K) :
  InT (sl.set f ⟨sl[f].gen, true, k, v, 0⟩) sl[f].next (layT ce k (24 * sl[f].gen + (f : Int))) K' := by
 rcases qkN h hn hl hk0 hin (24 * sl[f].gen + (f : Int)) with e | ⟨_, X, hX, e⟩
 ·exact h.lay hf hk hk0 hv hin e hK
 ·exact (h.clean hX).lay hf hk hk0 hv hin e hK
structure InN (N : Nr) : Prop where
 inT : InT N.sl N.fr N.ce (qaD N)
 two : 2 <= N.sl.length
 od : N.od = []
 mv : N.mv = 0
 len : N.ce.length = qaN N.sl.length
 qw : OkQ N.w N.wm
 qt : OkQ N.t N.tm
 qs : OkQ N.s N.sm
 wm : N.wm = (qdD N.sl.length : Int)
 tm : N.tm = (qeF N.sl.length : Int)
 sm : N.sm = (qdO N.sl.length : Int)
 sk : OkK N.sk N.ad
 dr : okD N.dr = true
 nd : (qaD N).Nodup
theorem InN.sum {N : Nr} (h : InN N) : N.wm + N.tm + N.sm = (N.sl.length : Int) /\ 1 <= N.wm /\ 1 <= N.tm /\ 0 <= N.sm := by
 have := qkM h.two
 rw [h.wm, h.tm, h.sm]
 omega
theorem qfB {l : List ByteArray} {k : ByteArray} (hn : l.Nodup) (hk : k ∈ l) : (k :: qaX l k).Perm l := by
 induction l with
 | nil => cases hk
 | cons x l ih =>
  rw [List.nodup_cons] at hn
  by_cases e : x = k
  ·subst e
   have : qaX (x :: l) x = l := by
    unfold qaX
    rw [List.filter_cons_of_neg (by simp)]
    exact qkR hn.1
   rw [this]
  ·have hk' : k ∈ l := by
    rcases List.mem_cons.1 hk with h | h
    ·exact absurd h.symm e
    ·exact h
   have : qaX (x :: l) k = x :: qaX l k := by
    unfold qaX
    rw [List.filter_cons_of_pos (by exact (qdX e).1)]
   rw [this]
   exact (List.Perm.swap x k _).trans ((ih hn.2 hk').cons x)
theorem qkJ {l : List ByteArray} {m : Nat} {k : ByteArray} (hl : l.length <= m) (hm : 1 <= m) :
  (l.length < m /\ (k :: l).take m = k :: l /\ (k :: l).getD m ⟨#[]⟩ = ⟨#[]⟩) ∨ (l.length = m /\ ∃ l0 x, l = l0 ++ [x] /\ (k :: l).take m = k :: l0 /\ (k :: l).getD m ⟨#[]⟩ = x) := by
 by_cases h : l.length < m
 ·refine .inl ⟨h, List.take_of_length_le (by simp only [List.length_cons]; omega), ?_⟩
  rw [List.getD_eq_getElem?_getD, List.getElem?_eq_none (by simp only [List.length_cons]; omega)]
  rfl
 ·have e : l.length = m := by omega
  have hne : l ≠ [] := fun h => by rw [h] at e; simp at e; omega
  refine .inr ⟨e, l.dropLast, l.getLast hne, (List.dropLast_concat_getLast hne).symm, ?_, ?_⟩
  ·obtain ⟨m', rfl⟩ : ∃ m', m = m' + 1 := ⟨m - 1, by omega⟩
   rw [List.take_succ_cons, List.dropLast_eq_take, e]
   rfl
  ·obtain ⟨m', rfl⟩ : ∃ m', m = m' + 1 := ⟨m - 1, by omega⟩
   rw [List.getD_eq_getElem?_getD, List.getElem?_cons_succ, List.getElem?_eq_getElem (by omega), List.getLast_eq_getElem]
   simp only [Option.getD_some]
   congr 1
   omega
noncomputable def cnN (N : Nr) (k : ByteArray) : Nr :=
 if qhD N.dr k = true then { N with sk := (cntR N.sk N.ad k).1, ad := (cntR N.sk N.ad k).2, dr := if (cntR N.sk N.ad k).2 = 0 then 0 else N.dr } else { N with dr := qeP N.dr k }
def qdR (N : Nr) (k : ByteArray) : Nr :=
 if qeG N.w k = true then { N with w := k :: qaX N.w k }
 else if qeG N.s k = true then { N with s := k :: qaX N.s k }
 else if N.sm = 0 then { N with t := k :: qaX N.t k }
 else { N with s := (k :: N.s).take N.sm.toNat, t := if (k :: N.s).getD N.sm.toNat ⟨#[]⟩ = ⟨#[]⟩ then qaX N.t k else (k :: N.s).getD N.sm.toNat ⟨#[]⟩ :: qaX N.t k }
theorem InN.queues {N : Nr} (h : InN N) {w t s : List ByteArray} (hw : OkQ w N.wm) (ht : OkQ t N.tm) (hs : OkQ s N.sm) (hp : (w ++ t ++ s).Perm (qaD N)) : InN { N with w := w, t := t, s := s } :=
 ⟨h.inT.congr (fun _ => hp.mem_iff), h.two, h.od, h.mv, h.len, hw, ht, hs, h.wm, h.tm, h.sm, h.sk, h.dr, hp.nodup_iff.2 h.nd⟩
theorem InN.mem {N : Nr} {k : ByteArray} : k ∈ qaD N ↔ k ∈ N.w ∨ k ∈ N.t ∨ k ∈ N.s := by
 unfold qaD
 rw [List.mem_append, List.mem_append, or_assoc]
theorem qcM {k : ByteArray} (h : qcV k) : k ≠ ⟨#[]⟩ := fun e => by subst e; exact absurd h.1 (by decide)
theorem qbD {k : ByteArray} (h : qcV k) : k.toList ≠ [] := fun e => by
 have h1 := h.1
 have : k.toList.length = k.size := by rw [ByteArray.toList_eq]; simp
 rw [e] at this
 simp at this
 omega
theorem InN.tch {N : Nr} (h : InN N) {k : ByteArray} (hk : k ∈ qaD N) : InN (qdR N k) /\ (qaD (qdR N k)).Perm (qaD N) := by
 have hnd := h.nd
 have hsum := h.sum
 unfold qaD at hnd
 rw [List.nodup_append, List.nodup_append] at hnd
 obtain ⟨⟨nw, nt, dwt⟩, ns, dws⟩ := hnd
 have key : ∀ w t s, OkQ w N.wm -> OkQ t N.tm -> OkQ s N.sm -> (w ++ t ++ s).Perm (qaD N) -> InN { N with w := w, t := t, s := s } /\ (qaD { N with w := w, t := t, s := s }).Perm (qaD N) := fun w t s a b c d => ⟨h.queues a b c d, d⟩
 unfold qdR
 split
 ·rename_i hw
  have hm := (qaF _ _).1 hw
  exact key _ _ _ (h.qw.touch hm) h.qt h.qs (((qfB nw hm).append_right _).append_right _)
 ·rename_i hw
  split
  ·rename_i hs
   have hm := (qaF _ _).1 hs
   exact key _ _ _ h.qw h.qt (h.qs.touch hm) ((qfB ns hm).append_left _)
  ·rename_i hs
   have ht : k ∈ N.t := by
    rcases InN.mem.1 hk with h1 | h1 | h1
    ·exact absurd ((qaF _ _).2 h1) hw
    ·exact h1
    ·exact absurd ((qaF _ _).2 h1) hs
   have hkq := h.qt.2.2.2.1 k ht
   split
   ·exact key _ _ _ h.qw (h.qt.touch ht) h.qs (((qfB nt ht).append_left _).append_right _)
   ·rename_i hm0
    obtain ⟨m, hm⟩ : ∃ m : Nat, N.sm = (m : Int) := ⟨N.sm.toNat, by omega⟩
    have hmt : N.sm.toNat = m := by omega
    have hsl : N.s.length <= m := by have := h.qs.2.2.1; omega
    have hkn : ¬ k ∈ N.s := fun e => hs ((qaF _ _).2 e)
    have hP : PshQ N.s N.sm k := ⟨h.qs, hkq, hkn, hm0⟩
    have hok := hP.ok
    rw [hmt] at hok ⊢
    have hlt := qiK ht
    have htl := h.qt.2.2.1
    rcases qkJ (k := k) hsl (by omega) with ⟨_, e1, e2⟩ | ⟨e0, s0, x, es, e1, e2⟩
    ·rw [e1] at hok
     rw [e1, e2, if_pos rfl]
     refine key _ _ _ h.qw h.qt.drop hok ?_
     show (N.w ++ qaX N.t k ++ (k :: N.s)).Perm (N.w ++ N.t ++ N.s)
     rw [List.append_assoc, List.append_assoc]
     refine List.Perm.append_left _ ?_
     exact (List.perm_middle).trans ((qfB nt ht).append_right _)
    ·have hx : x ∈ N.s := by rw [es]; simp
     have hxq := h.qs.2.2.2.1 x hx
     rw [e1] at hok
     rw [e1, e2, if_neg (qcM hxq)]
     have hxt : ¬ x ∈ N.t := fun e => dws x (List.mem_append_right _ e) x hx rfl
     have hokT : OkQ (x :: qaX N.t k) N.tm := by
      obtain ⟨a1, a2, a3, a4, a5⟩ := h.qt.drop (k := k)
      refine ⟨a1, a2, by simp only [List.length_cons]; omega, ?_, ?_⟩
      ·intro y hy
       rcases List.mem_cons.1 hy with rfl | hy
       ·exact hxq
       ·exact a4 y hy
      ·rw [List.nodup_cons]
       exact ⟨fun e => hxt ((qbN _ _ _).1 e).1, a5⟩
     refine key _ _ _ h.qw hokT hok ?_
     show (N.w ++ (x :: qaX N.t k) ++ (k :: s0)).Perm (N.w ++ N.t ++ N.s)
     rw [List.append_assoc, List.append_assoc, es]
     refine List.Perm.append_left _ ?_
     have p1 : ((x :: qaX N.t k) ++ (k :: s0)).Perm ((k :: qaX N.t k) ++ (x :: s0)) := by
      simp only [List.cons_append]
      refine ((List.perm_middle (a := k) (l₁ := qaX N.t k) (l₂ := s0)).cons x).trans ?_
      refine (List.Perm.swap k x _).trans ?_
      exact ((List.perm_middle (a := x) (l₁ := qaX N.t k) (l₂ := s0)).symm).cons k
     refine p1.trans ((qfB nt ht).append_right _ |>.trans ?_)
     exact (List.perm_append_comm (l₁ := [x]) (l₂ := s0)).append_left _
theorem qzK {d : Int} (s : ByteArray) (h : okD d = true) : okD (qeP d s) = true := by
 obtain ⟨n, rfl, hn⟩ := qlL h
 unfold qeP
 rw [if_pos h]
 have := qzQ n s hn
 unfold okD
 simp only [Bool.and_eq_true, decide_eq_true_eq, Int.toNat_natCast]
 omega
theorem InN.cn {N : Nr} (h : InN N) (k : ByteArray) : InN (cnN N k) := by
 unfold cnN
 split
 ·have hk := h.sk.cnt k
  rw [<- qoW h.sk] at hk
  refine ⟨h.inT, h.two, h.od, h.mv, h.len, h.qw, h.qt, h.qs, h.wm, h.tm, h.sm, hk, ?_, h.nd⟩
  dsimp only
  split
  ·rfl
  ·exact h.dr
 ·exact ⟨h.inT, h.two, h.od, h.mv, h.len, h.qw, h.qt, h.qs, h.wm, h.tm, h.sm, h.sk, qzK k h.dr, h.nd⟩
theorem qiG (N : Nr) (k : ByteArray) : (cnN N k).sl = N.sl /\ (cnN N k).fr = N.fr /\ (cnN N k).ce = N.ce /\ (cnN N k).od = N.od /\ (cnN N k).mv = N.mv /\ (cnN N k).w = N.w /\ (cnN N k).t = N.t /\ (cnN N k).s = N.s /\ (cnN N k).wm = N.wm /\ (cnN N k).tm = N.tm /\ (cnN N k).sm = N.sm := by
 unfold cnN
 split <;> simp
theorem qhK (N : Nr) (k : ByteArray) : (qdR N k).sl = N.sl /\ (qdR N k).fr = N.fr /\ (qdR N k).ce = N.ce := by
 unfold qdR
 split
 ·simp
 ·split
  ·simp
  ·split <;> simp
def zbD (sl : List Sl) (k : ByteArray) : Nat := sl.findIdx (fun s => s.used && s.key.toList == k.toList)
theorem qoN {sl : List Sl} {fr : Int} {ce : List Ce} {K : List ByteArray} (h : InT sl fr ce K) {j : Nat} (hj : j < sl.length) (hu : sl[j].used = true) : zbD sl sl[j].key = j := by
 have hp : ∀ i (hi : i < sl.length), (sl[i].used && sl[i].key.toList == sl[j].key.toList) = true -> i = j := fun i hi e => by
  rw [Bool.and_eq_true] at e
  exact h.uniq hi hj e.1 hu (qtW (beq_iff_eq.1 e.2))
 have hl : zbD sl sl[j].key < sl.length := List.findIdx_lt_length_of_exists ⟨sl[j], List.getElem_mem hj, by simp [hu]⟩
 exact hp _ hl (List.findIdx_getElem (w := hl))
def qdE (N : Nr) (k : ByteArray) : Nr :=
 match N.sl[zbD N.sl k]? with
 | some s => { N with sl := N.sl.set (zbD N.sl k) (qaS s N.fr), fr := (zbD N.sl k : Int), ce := match qbY N.ce [] 0 k with | some (L, _, _) => L | none => N.ce }
 | none => N
def qmK (N : Nr) (k v : ByteArray) : Nr :=
 match N.sl[N.fr.toNat]? with
 | some s => { N with sl := N.sl.set N.fr.toNat ⟨s.gen, true, k, v, 0⟩, fr := s.next, ce := layT N.ce k (24 * s.gen + N.fr) }
 | none => N
def qlF (N : Nr) (k v : ByteArray) : Nr :=
 match N.sl[zbD N.sl k]? with
 | some s => { N with sl := N.sl.set (zbD N.sl k) ⟨qbM s.gen, true, k, v, 0⟩, ce := match qcJ N.ce [] 0 k (24 * qbM s.gen + (zbD N.sl k : Int)) with | some (L, _, _) => L | none => N.ce }
 | none => N
def qkI (sl : List Sl) (k v : ByteArray) : Prop := ∃ (j : Nat) (hj : j < sl.length), sl[j].used = true /\ sl[j].key = k /\ sl[j].val = v
theorem InT.take {sl : List Sl} {fr : Int} {ce : List Ce} {K : List ByteArray} (h : InT sl fr ce K) {j : Nat} (hj : j < sl.length) (hu : sl[j].used = true) : ∃ L, qbY ce [] 0 sl[j].key = some (L, [], 0) /\ L.length = ce.length := by
 obtain ⟨⟨L, O, M⟩, e⟩ := qwU (mv := 0) (h.handle hj hu)
 obtain ⟨rfl, rfl⟩ := qtX e
 refine ⟨L, e, ?_⟩
 unfold qbY at e
 split at e
 ·injection e with e; injection e with e _; rw [<- e, List.length_set]
 ·rw [qlE] at e; cases e
theorem InT.put {sl : List Sl} {fr : Int} {ce : List Ce} {K : List ByteArray} (h : InT sl fr ce K) {j : Nat} (hj : j < sl.length) (hu : sl[j].used = true) (x : Int) : ∃ L, qcJ ce [] 0 sl[j].key x = some (L, [], 0) /\ L.length = ce.length := by
 have hs := h.handle hj hu
 unfold qcP at hs
 split at hs
 ·rename_i i hi
  exact ⟨ce.set i ⟨sl[j].key, x⟩, by unfold qcJ; rw [hi], List.length_set ..⟩
 ·rw [qlE] at hs; cases hs
theorem qzC {l l' : List Ce} {k : ByteArray} {x : Int} (e : putC l k x = some l') : l'.length = l.length := by
 obtain ⟨i, _, rfl⟩ := quD e
 exact List.length_set ..
theorem quC {l L O : List Ce} {k : ByteArray} {x mv M : Int} (e : qcJ l [] mv k x = some (L, O, M)) : L.length = l.length := by
 unfold qcJ at e
 split at e
 ·injection e with e; injection e with e _; rw [<- e, List.length_set]
 ·split at e
  ·rename_i l' hl'
   injection e with e; injection e with e _
   rw [<- e]; exact qzC hl'
  ·cases e
theorem InN.liftN_eq {N : Nr} {K : List ByteArray} (h : InT N.sl N.fr N.ce K) {j : Nat} (hj : j < N.sl.length) (hu : N.sl[j].used = true) : ∃ L, qbY N.ce [] 0 N.sl[j].key = some (L, [], 0) /\ L.length = N.ce.length /\ qdE N N.sl[j].key = { N with sl := N.sl.set j (qaS N.sl[j] N.fr), fr := (j : Int), ce := L } := by
 obtain ⟨L, e, hl⟩ := h.take hj hu
 refine ⟨L, e, hl, ?_⟩
 unfold qdE
 rw [qoN h hj hu, List.getElem?_eq_getElem hj, e]
theorem InN.rnwN_eq {N : Nr} {K : List ByteArray} (h : InT N.sl N.fr N.ce K) {j : Nat} (hj : j < N.sl.length) (hu : N.sl[j].used = true) (v : ByteArray) : ∃ L, qcJ N.ce [] 0 N.sl[j].key (24 * qbM N.sl[j].gen + (j : Int)) = some (L, [], 0) /\ L.length = N.ce.length /\ qlF N N.sl[j].key v = { N with sl := N.sl.set j ⟨qbM N.sl[j].gen, true, N.sl[j].key, v, 0⟩, ce := L } := by
 obtain ⟨L, e, hl⟩ := h.put hj hu (24 * qbM N.sl[j].gen + (j : Int))
 refine ⟨L, e, hl, ?_⟩
 unfold qlF
 rw [qoN h hj hu, List.getElem?_eq_getElem hj]
 dsimp only
 rw [e]
theorem qtB {N : Nr} {f : Nat} (hf : N.fr = (f : Int)) (hl : f < N.sl.length) (k v : ByteArray) : qmK N k v = { N with sl := N.sl.set f ⟨N.sl[f].gen, true, k, v, 0⟩, fr := N.sl[f].next, ce := layT N.ce k (24 * N.sl[f].gen + (f : Int)) } := by
 unfold qmK
 have e : N.fr.toNat = f := by omega
 rw [e, List.getElem?_eq_getElem hl, hf]
theorem qzT {sl : List Sl} {fr : Int} {ce : List Ce} {K : List ByteArray} (h : InT sl fr ce K) (hn : K.Nodup) (hl : K.length + 2 <= ce.length) {k : ByteArray} (hk0 : k.toList ≠ []) (hk : ¬ k ∈ K) (x : Int) : (layT ce k x).length = ce.length := by
 rcases qkN h hn hl hk0 hk x with e | ⟨_, X, hX, e⟩
 ·exact quC e
 ·rw [quC e, (qvB h.tb hX).2.2.2.2.1]
theorem InN.rnw {N : Nr} (h : InN N) {k v : ByteArray} (hk : k ∈ qaD N) (hv : v.size <= 20) : InN (qlF N k v) /\ qaD (qlF N k v) = qaD N /\ qkI (qlF N k v).sl k v /\ ∀ x y, x ≠ k -> (qkI (qlF N k v).sl x y ↔ qkI N.sl x y) := by
 obtain ⟨j, hj, hu, rfl⟩ := h.inT.ent k hk
 obtain ⟨L, e, hl, er⟩ := InN.rnwN_eq h.inT hj hu v
 rw [er]
 refine ⟨⟨h.inT.renew hj hu hv e, by dsimp only; rw [List.length_set]; exact h.two, h.od, h.mv, by dsimp only; rw [hl, List.length_set]; exact h.len, h.qw, h.qt, h.qs, by dsimp only; rw [List.length_set]; exact h.wm, by dsimp only; rw [List.length_set]; exact h.tm, by dsimp only; rw [List.length_set]; exact h.sm, h.sk, h.dr, h.nd⟩, rfl, ⟨j, by dsimp only; rw [List.length_set]; exact hj, ?_⟩, fun x y hx => ?_⟩
 ·dsimp only
  simp only [List.getElem_set_self]
  exact ⟨trivial, trivial, trivial⟩
 ·dsimp only
  constructor
  ·rintro ⟨i, hi, ui, ki, vi⟩
   rw [List.length_set] at hi
   by_cases hne : j = i
   ·subst hne
    simp only [List.getElem_set_self] at ki
    exact absurd ki.symm hx
   ·simp only [List.getElem_set_ne hne] at ui ki vi
    exact ⟨i, hi, ui, ki, vi⟩
  ·rintro ⟨i, hi, ui, ki, vi⟩
   have hne : j ≠ i := fun e => by subst e; exact hx ki.symm
   exact ⟨i, by rw [List.length_set]; exact hi, by simp only [List.getElem_set_ne hne]; exact ⟨ui, ki, vi⟩⟩
noncomputable def gueN (N : Nr) (k : ByteArray) : Int := gueR N.sk N.ad k + (if qhD N.dr k = true then 1 else 0)
noncomputable def tryN (N : Nr) (x : ByteArray) : Nr × ByteArray :=
 if N.tm = 0 then (N, x)
 else if (N.t.length : Int) < N.tm then ({ N with t := x :: N.t }, ⟨#[]⟩)
 else if gueN N x <= gueN N (N.t.getLastD ⟨#[]⟩) then (N, x)
 else ({ N with t := x :: qaX N.t (N.t.getLastD ⟨#[]⟩) }, N.t.getLastD ⟨#[]⟩)
noncomputable def kepQ (N : Nr) (k : ByteArray) : Nr × ByteArray :=
 if (k :: N.w).getD N.wm.toNat ⟨#[]⟩ = ⟨#[]⟩ then ({ N with w := (k :: N.w).take N.wm.toNat }, ⟨#[]⟩)
 else tryN { N with w := (k :: N.w).take N.wm.toNat } ((k :: N.w).getD N.wm.toNat ⟨#[]⟩)
structure KepQ (N N' : Nr) (k gone : ByteArray) : Prop where
 sl : N'.sl = N.sl
 fr : N'.fr = N.fr
 ce : N'.ce = N.ce
 od : N'.od = N.od
 mv : N'.mv = N.mv
 sk : N'.sk = N.sk
 ad : N'.ad = N.ad
 dr : N'.dr = N.dr
 wm : N'.wm = N.wm
 tm : N'.tm = N.tm
 sm : N'.sm = N.sm
 qw : OkQ N'.w N.wm
 qt : OkQ N'.t N.tm
 qs : OkQ N'.s N.sm
 nd : (qaD N').Nodup
 mem : ∀ x, x ∈ qaD N' ↔ (x = k ∨ x ∈ qaD N) /\ x ≠ gone
 ne : gone ≠ k
 was : gone = ⟨#[]⟩ ∨ gone ∈ qaD N
theorem qgI {l : List ByteArray} (h : l ≠ []) : ∃ l0 x, l = l0 ++ [x] /\ l.getLastD ⟨#[]⟩ = x := by
 refine ⟨l.dropLast, l.getLast h, (List.dropLast_concat_getLast h).symm, ?_⟩
 rw [List.getLastD_eq_getLast?, List.getLast?_eq_some_getLast h]
 rfl
theorem qjP {a b c : List ByteArray} : (a ++ b ++ c).Nodup ↔ a.Nodup /\ b.Nodup /\ c.Nodup /\ (∀ x ∈ a, ¬ x ∈ b) /\ (∀ x ∈ a, ¬ x ∈ c) /\ (∀ x ∈ b, ¬ x ∈ c) := by
 rw [List.nodup_append, List.nodup_append]
 constructor
 ·rintro ⟨⟨h1, h2, h3⟩, h4, h5⟩
  exact ⟨h1, h2, h4, fun x hx hb => h3 x hx x hb rfl, fun x hx hc => h5 x (List.mem_append_left _ hx) x hc rfl, fun x hx hc => h5 x (List.mem_append_right _ hx) x hc rfl⟩
 ·rintro ⟨h1, h2, h3, h4, h5, h6⟩
  refine ⟨⟨h1, h2, fun x hx y hy e => by subst e; exact h4 x hx hy⟩, h3, fun x hx y hy e => ?_⟩
  subst e
  rcases List.mem_append.1 hx with hx | hx
  ·exact h5 x hx hy
  ·exact h6 x hx hy
theorem InN.kep {N : Nr} (h : InN N) {k : ByteArray} (hk : qcV k) (hn : ¬ k ∈ qaD N) : KepQ N (kepQ N k).1 k (kepQ N k).2 := by
 obtain ⟨nw, nt, ns, d1, d2, d3⟩ := qjP.1 h.nd
 have hsum := h.sum
 rw [InN.mem] at hn
 have hn1 : ¬ k ∈ N.w := fun e => hn (.inl e)
 have hn2 : ¬ k ∈ N.t := fun e => hn (.inr (.inl e))
 have hn3 : ¬ k ∈ N.s := fun e => hn (.inr (.inr e))
 obtain ⟨m, hm⟩ : ∃ m : Nat, N.wm = (m : Int) := ⟨N.wm.toNat, by omega⟩
 have hmt : N.wm.toNat = m := by omega
 have hwl : N.w.length <= m := by have := h.qw.2.2.1; omega
 have hP : PshQ N.w N.wm k := ⟨h.qw, hk, hn1, by omega⟩
 have hok := hP.ok
 rw [hmt] at hok
 have hke := qcM hk
 unfold kepQ
 rw [hmt]
 rcases qkJ (k := k) hwl (by omega) with ⟨_, e1, e2⟩ | ⟨e0, w0, x, es, e1, e2⟩
 ·rw [e1] at hok
  rw [e1, e2, if_pos rfl]
  refine ⟨rfl, rfl, rfl, rfl, rfl, rfl, rfl, rfl, rfl, rfl, rfl, hok, h.qt, h.qs, ?_, fun y => ?_, fun e => hke e.symm, .inl rfl⟩
  ·refine qjP.2 ⟨List.nodup_cons.2 ⟨hn1, nw⟩, nt, ns, fun y hy => ?_, fun y hy => ?_, d3⟩
   ·rcases List.mem_cons.1 hy with rfl | hy
    ·exact hn2
    ·exact d1 y hy
   ·rcases List.mem_cons.1 hy with rfl | hy
    ·exact hn3
    ·exact d2 y hy
  ·rw [InN.mem, InN.mem]
   dsimp only
   rw [List.mem_cons]
   constructor
   ·intro hy
    refine ⟨by rcases hy with (h1 | h1) | h1 | h1 <;> simp [h1], fun e => ?_⟩
    subst e
    rcases hy with (h1 | h1) | h1 | h1
    ·exact hke h1.symm
    ·exact qcM (h.qw.2.2.2.1 _ h1) rfl
    ·exact qcM (h.qt.2.2.2.1 _ h1) rfl
    ·exact qcM (h.qs.2.2.2.1 _ h1) rfl
   ·rintro ⟨h1 | h1 | h1 | h1, _⟩ <;> simp [h1]
 ·have hx : x ∈ N.w := by rw [es]; simp
  have hxq := h.qw.2.2.2.1 x hx
  have hw0 : ∀ y, y ∈ w0 -> y ∈ N.w /\ y ≠ x := fun y hy => by
   rw [es] at nw ⊢
   rw [List.nodup_append] at nw
   exact ⟨by simp [hy], fun e => nw.2.2 y hy x (by simp) e⟩
  have hw1 : ∀ y, y ∈ N.w -> y ∈ w0 ∨ y = x := fun y hy => by rw [es] at hy; simpa using hy
  have hkx : k ≠ x := fun e => hn1 (by rw [e]; exact hx)
  have nw0 : w0.Nodup := by rw [es, List.nodup_append] at nw; exact nw.1
  rw [e1] at hok
  rw [e1, e2, if_neg (qcM hxq)]
  have hxt : ¬ x ∈ N.t := d1 x hx
  have hxs : ¬ x ∈ N.s := d2 x hx
  have self : KepQ N { N with w := k :: w0 } k x := by
   refine ⟨rfl, rfl, rfl, rfl, rfl, rfl, rfl, rfl, rfl, rfl, rfl, hok, h.qt, h.qs, ?_, fun y => ?_, fun e => hkx e.symm, .inr (InN.mem.2 (.inl hx))⟩
   ·refine qjP.2 ⟨List.nodup_cons.2 ⟨fun e => hn1 (hw0 k e).1, nw0⟩, nt, ns, fun y hy => ?_, fun y hy => ?_, d3⟩
    ·rcases List.mem_cons.1 hy with rfl | hy
     ·exact hn2
     ·exact d1 y (hw0 y hy).1
    ·rcases List.mem_cons.1 hy with rfl | hy
     ·exact hn3
     ·exact d2 y (hw0 y hy).1
   ·rw [InN.mem, InN.mem]
    dsimp only
    rw [List.mem_cons]
    constructor
    ·rintro ((rfl | h1) | h1 | h1)
     ·exact ⟨.inl rfl, hkx⟩
     ·exact ⟨.inr (.inl (hw0 y h1).1), (hw0 y h1).2⟩
     ·exact ⟨.inr (.inr (.inl h1)), fun e => hxt (by rw [<- e]; exact h1)⟩
     ·exact ⟨.inr (.inr (.inr h1)), fun e => hxs (by rw [<- e]; exact h1)⟩
    ·rintro ⟨rfl | h1 | h1 | h1, hne⟩
     ·exact .inl (.inl rfl)
     ·rcases hw1 y h1 with h2 | h2
      ·exact .inl (.inr h2)
      ·exact absurd h2 hne
     ·exact .inr (.inl h1)
     ·exact .inr (.inr h1)
  unfold tryN
  dsimp only
  rw [if_neg (by omega)]
  split
  ·
   rename_i hroom
   have hokT : OkQ (x :: N.t) N.tm := by
    obtain ⟨a1, a2, a3, a4, a5⟩ := h.qt
    refine ⟨a1, a2, by simp only [List.length_cons]; omega, fun y hy => ?_, List.nodup_cons.2 ⟨hxt, a5⟩⟩
    rcases List.mem_cons.1 hy with rfl | hy
    ·exact hxq
    ·exact a4 y hy
   refine ⟨rfl, rfl, rfl, rfl, rfl, rfl, rfl, rfl, rfl, rfl, rfl, hok, hokT, h.qs, ?_, fun y => ?_, fun e => hke e.symm, .inl rfl⟩
   ·refine qjP.2 ⟨List.nodup_cons.2 ⟨fun e => hn1 (hw0 k e).1, nw0⟩, List.nodup_cons.2 ⟨hxt, nt⟩, ns, fun y hy hz => ?_, fun y hy => ?_, fun y hy => ?_⟩
    ·rcases List.mem_cons.1 hy with rfl | hy
     ·rcases List.mem_cons.1 hz with e | hz
      ·exact hkx e
      ·exact hn2 hz
     ·rcases List.mem_cons.1 hz with e | hz
      ·exact (hw0 y hy).2 e
      ·exact d1 y (hw0 y hy).1 hz
    ·rcases List.mem_cons.1 hy with rfl | hy
     ·exact hn3
     ·exact d2 y (hw0 y hy).1
    ·rcases List.mem_cons.1 hy with rfl | hy
     ·exact hxs
     ·exact d3 y hy
   ·rw [InN.mem, InN.mem]
    dsimp only
    rw [List.mem_cons, List.mem_cons]
    constructor
    ·intro hy
     refine ⟨?_, fun e => ?_⟩
     ·rcases hy with (h1 | h1) | (h1 | h1) | h1
      ·exact .inl h1
      ·exact .inr (.inl (hw0 y h1).1)
      ·exact .inr (.inl (by rw [h1]; exact hx))
      ·exact .inr (.inr (.inl h1))
      ·exact .inr (.inr (.inr h1))
     ·subst e
      rcases hy with (h1 | h1) | (h1 | h1) | h1
      ·exact hke h1.symm
      ·exact qcM (h.qw.2.2.2.1 _ (hw0 _ h1).1) rfl
      ·exact qcM hxq h1.symm
      ·exact qcM (h.qt.2.2.2.1 _ h1) rfl
      ·exact qcM (h.qs.2.2.2.1 _ h1) rfl
    ·rintro ⟨rfl | h1 | h1 | h1, _⟩
     ·exact .inl (.inl rfl)
     ·rcases hw1 y h1 with h2 | h2
      ·exact .inl (.inr h2)
      ·exact .inr (.inl (.inl h2))
     ·exact .inr (.inl (.inr h1))
     ·exact .inr (.inr h1)
  ·rename_i hfull
   split
   ·exact self
   ·
    have hne : N.t ≠ [] := fun e => by rw [e] at hfull; simp at hfull; omega
    obtain ⟨t0, z, et, ez⟩ := qgI hne
    rw [ez]
    have hz : z ∈ N.t := by rw [et]; simp
    have hzq := h.qt.2.2.2.1 z hz
    have hzx : z ≠ x := fun e => hxt (by rw [<- e]; exact hz)
    have hkz : k ≠ z := fun e => hn2 (by rw [e]; exact hz)
    have hwt := qiK hz
    have htl := h.qt.2.2.1
    have hokT : OkQ (x :: qaX N.t z) N.tm := by
     obtain ⟨a1, a2, a3, a4, a5⟩ := h.qt.drop (k := z)
     refine ⟨a1, a2, by simp only [List.length_cons]; omega, fun y hy => ?_, List.nodup_cons.2 ⟨fun e => hxt ((qbN _ _ _).1 e).1, a5⟩⟩
     rcases List.mem_cons.1 hy with rfl | hy
     ·exact hxq
     ·exact a4 y hy
    refine ⟨rfl, rfl, rfl, rfl, rfl, rfl, rfl, rfl, rfl, rfl, rfl, hok, hokT, h.qs, ?_, fun y => ?_, fun e => hkz e.symm, .inr (InN.mem.2 (.inr (.inl hz)))⟩
    ·refine qjP.2 ⟨List.nodup_cons.2 ⟨fun e => hn1 (hw0 k e).1, nw0⟩, hokT.2.2.2.2, ns, fun y hy hw => ?_, fun y hy => ?_, fun y hy => ?_⟩
     ·rcases List.mem_cons.1 hy with rfl | hy
      ·rcases List.mem_cons.1 hw with e | hw
       ·exact hkx e
       ·exact hn2 ((qbN _ _ _).1 hw).1
      ·rcases List.mem_cons.1 hw with e | hw
       ·exact (hw0 y hy).2 e
       ·exact d1 y (hw0 y hy).1 ((qbN _ _ _).1 hw).1
     ·rcases List.mem_cons.1 hy with rfl | hy
      ·exact hn3
      ·exact d2 y (hw0 y hy).1
     ·rcases List.mem_cons.1 hy with rfl | hy
      ·exact hxs
      ·exact d3 y ((qbN _ _ _).1 hy).1
    ·rw [InN.mem, InN.mem]
     dsimp only
     rw [List.mem_cons, List.mem_cons, qbN]
     constructor
     ·rintro ((rfl | h1) | (rfl | ⟨h1, h2⟩) | h1)
      ·exact ⟨.inl rfl, hkz⟩
      ·exact ⟨.inr (.inl (hw0 y h1).1), fun e => d1 y (hw0 y h1).1 (by rw [e]; exact hz)⟩
      ·exact ⟨.inr (.inl hx), fun e => hzx e.symm⟩
      ·exact ⟨.inr (.inr (.inl h1)), h2⟩
      ·exact ⟨.inr (.inr (.inr h1)), fun e => d3 z hz (by rw [<- e]; exact h1)⟩
     ·rintro ⟨rfl | h1 | h1 | h1, hy⟩
      ·exact .inl (.inl rfl)
      ·rcases hw1 y h1 with h2 | h2
       ·exact .inl (.inr h2)
       ·exact .inr (.inl (.inl h2))
      ·exact .inr (.inl (.inr ⟨h1, hy⟩))
      ·exact .inr (.inr h1)
noncomputable def wantN (N : Nr) (k : ByteArray) : Nr := if qeG (qaD N) k = true then qdR (cnN N k) k else cnN N k
noncomputable def keepN (N : Nr) (k v : ByteArray) : Nr × ByteArray :=
 if qeG (qaD N) k = true then (qdR (qlF (cnN N k) k v) k, ⟨#[]⟩)
 else (qmK (if (kepQ (cnN N k) k).2 = ⟨#[]⟩ then (kepQ (cnN N k) k).1 else qdE (kepQ (cnN N k) k).1 (kepQ (cnN N k) k).2) k v, (kepQ (cnN N k) k).2)
theorem qcD (N : Nr) (k : ByteArray) : qaD (cnN N k) = qaD N := by
 obtain ⟨_, _, _, _, _, h1, h2, h3, _⟩ := qiG N k
 unfold qaD
 rw [h1, h2, h3]
theorem InN.hasV {N : Nr} (h : InN N) {x : ByteArray} : (∃ y, qkI N.sl x y) ↔ x ∈ qaD N := by
 constructor
 ·rintro ⟨y, j, hj, hu, rfl, _⟩; exact (h.inT.used j hj hu).1
 ·intro hx
  obtain ⟨j, hj, hu, e⟩ := h.inT.ent x hx
  exact ⟨_, j, hj, hu, e, rfl⟩
theorem InN.key {N : Nr} (h : InN N) {k : ByteArray} (hk : k ∈ qaD N) : qcV k := (h.inT.key hk).1
theorem InN.want {N : Nr} (h : InN N) (k : ByteArray) : InN (wantN N k) /\ (qaD (wantN N k)).Perm (qaD N) /\ (wantN N k).sl = N.sl := by
 have hc := h.cn k
 unfold wantN
 split
 ·rename_i hk
  have hm := (qaF _ _).1 hk
  rw [<- qcD N k] at hm
  obtain ⟨a, b⟩ := hc.tch hm
  exact ⟨a, by rw [qcD] at b; exact b, by rw [(qhK _ _).1, (qiG N k).1]⟩
 ·exact ⟨hc, by rw [qcD], (qiG N k).1⟩
structure KepN (N N' : Nr) (k v gone : ByteArray) : Prop where
 ok : InN N'
 mem : ∀ x, x ∈ qaD N' ↔ (x = k ∨ x ∈ qaD N) /\ x ≠ gone
 ne : gone ≠ k
 was : gone = ⟨#[]⟩ ∨ gone ∈ qaD N
 val : qkI N'.sl k v
 oth : ∀ x y, x ≠ k -> (qkI N'.sl x y ↔ qkI N.sl x y /\ x ≠ gone)
 len : N'.sl.length = N.sl.length
theorem InN.lay {N Q : Nr} {k v gone : ByteArray} (h : InN N) (hk : qcV k) (hv : v.size <= 20) (hn : ¬ k ∈ qaD N) (q : KepQ N Q k gone) :
  KepN N (qmK (if gone = ⟨#[]⟩ then Q else qdE Q gone) k v) k v gone := by
 have hk0 := qbD hk
 have step : ∃ (P : Nr) (K : List ByteArray), (if gone = ⟨#[]⟩ then Q else qdE Q gone) = P /\ InT P.sl P.fr P.ce K /\ K.Nodup /\ (∀ x, x ∈ K ↔ x ∈ qaD N /\ x ≠ gone) /\ P.w = Q.w /\ P.t = Q.t /\ P.s = Q.s /\ P.od = N.od /\ P.mv = N.mv /\ P.sk = N.sk /\ P.ad = N.ad /\ P.dr = N.dr /\ P.wm = N.wm /\ P.tm = N.tm /\ P.sm = N.sm /\ P.sl.length = N.sl.length /\ P.ce.length = N.ce.length /\ (∀ x y, qkI P.sl x y ↔ qkI N.sl x y /\ x ≠ gone) := by
  by_cases hg : gone = ⟨#[]⟩
  ·rw [if_pos hg]
   have hx : ∀ x, x ∈ qaD N -> x ≠ gone := fun x hx e => qcM (h.key hx) (by rw [e, hg])
   refine ⟨Q, qaD N, rfl, by rw [q.sl, q.fr, q.ce]; exact h.inT, h.nd, fun x => ⟨fun a => ⟨a, hx x a⟩, fun a => a.1⟩, rfl, rfl, rfl, q.od, q.mv, q.sk, q.ad, q.dr, q.wm, q.tm, q.sm, by rw [q.sl], by rw [q.ce], fun x y => ?_⟩
   rw [q.sl]
   exact ⟨fun a => ⟨a, hx x (h.hasV.1 ⟨y, a⟩)⟩, fun a => a.1⟩
  ·rw [if_neg hg]
   have hgk : gone ∈ qaD N := by
    rcases q.was with e | e
    ·exact absurd e hg
    ·exact e
   obtain ⟨j, hj, hu, ej⟩ := h.inT.ent gone hgk
   have hQ : InT Q.sl Q.fr Q.ce (qaD N) := by rw [q.sl, q.fr, q.ce]; exact h.inT
   have hjQ : j < Q.sl.length := by rw [q.sl]; exact hj
   have huQ : Q.sl[j].used = true := by simp only [q.sl]; exact hu
   have ejQ : Q.sl[j].key = gone := by simp only [q.sl]; exact ej
   obtain ⟨L, e, hl, el⟩ := InN.liftN_eq hQ hjQ huQ
   rw [ejQ] at e el
   have hmem : ∀ x, x ∈ qaX (qaD N) gone ↔ x ∈ qaD N /\ x ≠ Q.sl[j].key := fun x => by rw [qbN, ejQ]
   rw [el]
   refine ⟨_, qaX (qaD N) gone, rfl, hQ.lift hjQ huQ (by rw [ejQ]; exact e) hmem, qgA h.nd, fun x => qbN _ _ _, rfl, rfl, rfl, q.od, q.mv, q.sk, q.ad, q.dr, q.wm, q.tm, q.sm, by dsimp only; rw [List.length_set, q.sl], by dsimp only; rw [hl, q.ce], fun x y => ?_⟩
   dsimp only
   constructor
   ·rintro ⟨i, hi, ui, ki, vi⟩
    rw [List.length_set] at hi
    by_cases hne : j = i
    ·subst hne
     simp only [List.getElem_set_self] at ui
     cases ui
    ·simp only [List.getElem_set_ne hne] at ui ki vi
     refine ⟨⟨i, by rw [<- q.sl]; exact hi, by simp only [<- q.sl]; exact ⟨ui, ki, vi⟩⟩, fun ex => hne (hQ.uniq hjQ hi huQ ui (by rw [ki, ex, ejQ]))⟩
   ·rintro ⟨⟨i, hi, ui, ki, vi⟩, hx⟩
    have hne : j ≠ i := fun e => by subst e; exact hx (by rw [<- ki, ej])
    refine ⟨i, by rw [List.length_set, q.sl]; exact hi, ?_⟩
    simp only [List.getElem_set_ne hne, q.sl]
    exact ⟨ui, ki, vi⟩
 obtain ⟨P, K, eP, hT, hKn, hKm, p1, p2, p3, p4, p5, p6, p7, p8, p9, p10, p11, p12, p13, p14⟩ := step
 rw [eP]
 have hkK : ¬ k ∈ K := fun e => hn ((hKm k).1 e).1
 have hsum := h.sum
 have hmQ : ∀ x, x ∈ qaD Q ↔ x = k ∨ x ∈ K := fun x => by
  rw [q.mem, hKm]
  constructor
  ·rintro ⟨rfl | a, b⟩
   ·exact .inl rfl
   ·exact .inr ⟨a, b⟩
  ·rintro (rfl | ⟨a, b⟩)
   ·exact ⟨.inl rfl, fun e => q.ne e.symm⟩
   ·exact ⟨.inr a, b⟩
 have hlen : K.length + 1 = (qaD Q).length := by
  have := qeD (List.nodup_cons.2 ⟨hkK, hKn⟩) q.nd (fun x => by rw [List.mem_cons, hmQ])
  simpa using this
 have hful : (qaD Q).length <= N.sl.length := by
  have h1 := q.qw.2.2.1
  have h2 := q.qt.2.2.1
  have h3 := q.qs.2.2.1
  unfold qaD
  rw [List.length_append, List.length_append]
  omega
 have hmost := h.inT.ar.most
 have hcells := qjC hmost
 rw [<- h.len, <- p13] at hcells
 obtain ⟨f, hf, hfl⟩ := hT.room hKn (by omega)
 have htwo := h.two
 rw [hf] at hT
 have hlay := hT.layT (K' := qaD Q) (v := v) hfl hKn (by omega) hk hk0 hv hkK hmQ
 have hll := qzT hT hKn (by omega) hk0 hkK (24 * P.sl[f].gen + (f : Int))
 have hfree := hT.ar.head hfl
 rw [qtB hf hfl]
 have hkeys : qaD { P with sl := P.sl.set f ⟨P.sl[f].gen, true, k, v, 0⟩, fr := P.sl[f].next, ce := layT P.ce k (24 * P.sl[f].gen + (f : Int)) } = qaD Q := by
  unfold qaD
  dsimp only
  rw [p1, p2, p3]
 refine ⟨⟨by rw [hkeys]; exact hlay, by dsimp only; rw [List.length_set, p12]; exact h.two, by dsimp only; rw [p4]; exact h.od, by dsimp only; rw [p5]; exact h.mv, by dsimp only; rw [hll, List.length_set, p12, p13]; exact h.len, by dsimp only; rw [p1, p9]; exact q.qw, by dsimp only; rw [p2, p10]; exact q.qt, by dsimp only; rw [p3, p11]; exact q.qs, by dsimp only; rw [List.length_set, p12, p9]; exact h.wm, by dsimp only; rw [List.length_set, p12, p10]; exact h.tm, by dsimp only; rw [List.length_set, p12, p11]; exact h.sm, by dsimp only; rw [p6, p7]; exact h.sk, by dsimp only; rw [p8]; exact h.dr, by rw [hkeys]; exact q.nd⟩, ?_, q.ne, q.was, ?_, ?_, by dsimp only; rw [List.length_set, p12]⟩
 ·intro x
  rw [hkeys, q.mem]
 ·dsimp only
  refine ⟨f, by rw [List.length_set]; exact hfl, ?_⟩
  simp only [List.getElem_set_self]
  exact ⟨trivial, trivial, trivial⟩
 ·intro x y hx
  rw [<- p14]
  dsimp only
  constructor
  ·rintro ⟨i, hi, ui, ki, vi⟩
   rw [List.length_set] at hi
   by_cases hne : f = i
   ·subst hne
    simp only [List.getElem_set_self] at ki
    exact absurd ki.symm hx
   ·simp only [List.getElem_set_ne hne] at ui ki vi
    exact ⟨i, hi, ui, ki, vi⟩
  ·rintro ⟨i, hi, ui, ki, vi⟩
   have hne : f ≠ i := fun e => by subst e; rw [hfree] at ui; cases ui
   exact ⟨i, by rw [List.length_set]; exact hi, by simp only [List.getElem_set_ne hne]; exact ⟨ui, ki, vi⟩⟩
theorem InN.keep {N : Nr} (h : InN N) {k v : ByteArray} (hk : qcV k) (hv : v.size <= 20) : KepN N (keepN N k v).1 k v (keepN N k v).2 := by
 have hc := h.cn k
 have hck := qcD N k
 have hcs := (qiG N k).1
 unfold keepN
 split
 ·rename_i hin
  have hm := (qaF _ _).1 hin
  obtain ⟨r1, r2, r3, r4⟩ := hc.rnw (v := v) (by rw [hck]; exact hm) hv
  obtain ⟨t1, t2⟩ := r1.tch (k := k) (by rw [r2, hck]; exact hm)
  have ts := (qhK (qlF (cnN N k) k v) k).1
  refine ⟨t1, fun x => ?_, fun e => qcM hk e.symm, .inl rfl, by rw [ts]; exact r3, fun x y hx => ?_, ?_⟩
  ·rw [t2.mem_iff, r2, hck]
   constructor
   ·intro a; exact ⟨.inr a, fun e => qcM (h.key a) e⟩
   ·rintro ⟨rfl | a, _⟩
    ·exact hm
    ·exact a
  ·dsimp only
   rw [ts, r4 x y hx, hcs]
   exact ⟨fun a => ⟨a, fun e => qcM (h.key (h.hasV.1 ⟨y, a⟩)) e⟩, fun a => a.1⟩
  ·dsimp only
   rw [ts]
   obtain ⟨j, hj, hu, ek⟩ := hc.inT.ent k (by rw [hck]; exact hm)
   obtain ⟨L, _, _, er⟩ := InN.rnwN_eq hc.inT hj hu v
   rw [ek] at er
   rw [er]
   dsimp only
   rw [List.length_set, hcs]
 ·rename_i hin
  have hm : ¬ k ∈ qaD N := fun e => hin ((qaF _ _).2 e)
  have hm' : ¬ k ∈ qaD (cnN N k) := by rw [hck]; exact hm
  have r := hc.lay hk hv hm' (hc.kep hk hm')
  refine ⟨r.ok, fun x => by rw [r.mem, hck], r.ne, by rw [<- hck]; exact r.was, r.val, fun x y hx => by rw [r.oth x y hx, hcs], by rw [r.len, hcs]⟩
end Go.Proofs.YtigpjmmfelndkaaGreatDoor
