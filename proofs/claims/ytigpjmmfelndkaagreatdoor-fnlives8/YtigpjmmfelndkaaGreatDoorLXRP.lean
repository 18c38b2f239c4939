import Derived.Test.YtigpjmmfelndkaaGreatDoorLXBW
import Derived.Test.YtigpjmmfelndkaaGreatDoorLRoom
namespace Go.Proofs.YtigpjmmfelndkaaGreatDoor
def qaH (l : List Sl) : List Sl := l ++ List.replicate (24 - l.length) zS
theorem qaC {l : List Sl} (h : l.length <= 24) : (qaH l).length = 24 := by simp [qaH]; omega
theorem qdQ {l : List Sl} (i : Nat) (h : i < l.length) : (qaH l)[i]? = some l[i] := by
 rw [qaH, List.getElem?_append_left h, List.getElem?_eq_getElem h]
theorem qwA {l : List Sl} (i : Nat) (h : l.length <= i) (h2 : i < 24) : (qaH l)[i]? = some zS := by
 rw [qaH, List.getElem?_append_right h, List.getElem?_replicate, if_pos (by omega)]
theorem Chain.hd {l : List Sl} {V : List Nat} {a : Int} (h : Chain l a V) : a = hdI V := by
 match V, h with
 | [], h => exact h
 | k :: V, h => exact h.1
def qnI (s : Sl) : Sl := ⟨s.gen, true, s.key, s.val, 0⟩
def qtL (L : List Sl) (k : Nat) : Int := (L[k]?.map (·.gen)).getD 0
def qsL (L : List Sl) (n : Nat) : List Sl := (L.take n).map qnI ++ List.replicate (24 - n) zS
def frS (g : Int) (p : Int) : Sl := ⟨g, false, ⟨#[]⟩, ⟨#[]⟩, p⟩
def qwM (L : List Sl) : List Sl -> List Nat -> List Sl
 | out, [] => out
 | out, k :: V => qwM L (out.set k (frS (qtL L k) (hdI V))) V
def wrt (L : List Sl) (n : Nat) (V : List Nat) : List Sl := qwM L (qsL L n) V
theorem qbU {L : List Sl} {n : Nat} (hL : L.length = 24) (hn : n <= 24) : (qsL L n).length = 24 := by simp [qsL, hL]; omega
theorem qcW (L : List Sl) : ∀ (V : List Nat) (out : List Sl), (qwM L out V).length = out.length
 | [], _ => rfl
 | k :: V, out => by rw [qwM, qcW L V, List.length_set]
theorem qwS {L : List Sl} {n i : Nat} (hL : L.length = 24) (hn : n <= 24) (hi : i < n) : (qsL L n)[i]? = some (qnI (L[i]'(by omega))) := by
 rw [qsL, List.getElem?_append_left (by simp; omega), List.getElem?_map, List.getElem?_take, if_pos hi, List.getElem?_eq_getElem (by omega)]
 rfl
theorem qyV {L : List Sl} {n i : Nat} (hL : L.length = 24) (hi : n <= i) (hi2 : i < 24) : (qsL L n)[i]? = some zS := by
 rw [qsL, List.getElem?_append_right (by simp; omega), List.getElem?_replicate, if_pos (by simp; omega)]
theorem qiL {m : List Sl} (L : List Sl) : ∀ (V : List Nat) (a : Int) (out : List Sl), Chain m a V -> m.length <= out.length -> ∀ i (hi : i < m.length), (qwM L out V)[i]? = if i ∈ V then some (frS (qtL L i) m[i].next) else out[i]?
 | [], _, out, _, _, i, _ => by simp [qwM]
 | k :: V, a, out, hc, ho, i, hi => by
  have hnd := hc.nodup
  obtain ⟨_, hk, hc'⟩ := hc
  rw [qwM, qiL L V _ _ hc' (by rw [List.length_set]; exact ho) i hi]
  have hkV : k ∉ V := (List.nodup_cons.1 hnd).1
  by_cases e : k = i
  ·subst e
   rw [if_neg hkV, if_pos (by simp), List.getElem?_set_self (by omega), <- hc'.hd]
  ·have e2 : i ≠ k := fun h => e h.symm
   rw [List.getElem?_set_ne e]
   simp [e2]
theorem qtV {m : List Sl} (L : List Sl) : ∀ (V : List Nat) (a : Int) (out : List Sl), Chain m a V -> ∀ i, m.length <= i -> (qwM L out V)[i]? = out[i]?
 | [], _, _, _, _, _ => rfl
 | k :: V, a, out, hc, i, hi => by
  obtain ⟨_, hk, hc'⟩ := hc
  rw [qwM, qtV L V _ _ hc' i hi, List.getElem?_set_ne (by omega)]
theorem qnF {z : ByteArray} (h : z.size = 0) : z = ⟨#[]⟩ := by
 cases z with
 | mk d => have : d.size = 0 := h; simp at this; subst this; rfl
theorem qtU {m L : List Sl} {f : Int} {V : List Nat} (hok : OkA m f) (hc : Chain m f V) (hL : L.length = 24)
  (hg : ∀ i (h : i < m.length), ∃ s, L[i]? = some s /\ s.gen = m[i].gen /\ (i ∉ V -> s.key = m[i].key /\ s.val = m[i].val)) : wrt L m.length V = qaH m := by
 have hm := hok.most
 refine List.ext_getElem? fun i => ?_
 by_cases hi : i < m.length
 ·rw [wrt, qiL L V f _ hc (by rw [qbU hL hm]; exact hm) i hi, qdQ i hi]
  obtain ⟨s, hs, hsg, hskv⟩ := hg i hi
  have hmet := hok.met hc i hi
  have hsl := hok.slots i hi
  by_cases hv : i ∈ V
  ·rw [if_pos hv]
   have hu := hmet.2 hv
   obtain ⟨k0, v0⟩ := hsl.2.2.2 hu
   have e1 : qtL L i = m[i].gen := by rw [qtL, hs]; exact hsg
   rw [e1]
   generalize m[i] = t at *
   cases t
   simp only at hu k0 v0
   subst hu
   rw [qnF k0, qnF v0]
   rfl
  ·rw [if_neg hv, qwS hL hm hi]
   have hu : m[i].used = true := by
    rcases h : m[i].used with _ | _
    ·exact absurd (hmet.1 h) hv
    ·rfl
   obtain ⟨_, _, _, n0⟩ := hsl.2.2.1 hu
   obtain ⟨k0, v0⟩ := hskv hv
   have hs' : L[i]'(by omega) = s := by
    rw [List.getElem?_eq_getElem (by omega)] at hs
    exact Option.some.inj hs
   rw [hs', qnI, hsg, k0, v0]
   generalize m[i] = t at *
   cases t
   simp only at hu n0
   subst hu n0
   rfl
 ·by_cases h24 : i < 24
  ·rw [wrt, qtV L V f _ hc i (by omega), qyV hL (by omega) h24, qwA i (by omega) h24]
  ·rw [List.getElem?_eq_none (by rw [wrt, qcW, qbU hL hm]; omega), List.getElem?_eq_none (by rw [qaC hm]; omega)]
theorem zcW {l : List Sl} {f : Int} {V : List Nat} (hc : Chain l f V) (h1 : 1 <= l.length) (h2 : l.length <= 24)
  (hs : ∀ i (h : i < l.length), 0 <= l[i].gen /\ l[i].gen <= 41666665 /\ (l[i].used = true -> 1 <= l[i].key.size /\ l[i].key.size <= 12 /\ l[i].val.size <= 20)) (he : wrt (qaH l) l.length V = qaH l) : OkA l f := by
 have hL := qaC h2
 have key : ∀ i (hi : i < l.length), (i ∈ V -> l[i].used = false /\ l[i].key.size = 0 /\ l[i].val.size = 0) /\ (i ∉ V -> l[i].used = true /\ l[i].next = 0) := by
  intro i hi
  have h : (wrt (qaH l) l.length V)[i]? = (qaH l)[i]? := by rw [he]
  rw [wrt, qiL _ V f _ hc (by rw [qbU hL h2]; exact h2) i hi, qdQ i hi] at h
  constructor
  ·intro hv
   rw [if_pos hv] at h
   have := Option.some.inj h
   rw [<- this]
   exact ⟨rfl, rfl, rfl⟩
  ·intro hv
   rw [if_neg hv, qwS hL h2 hi] at h
   have := Option.some.inj h
   rw [<- this]
   exact ⟨rfl, rfl⟩
 refine ⟨h1, h2, ⟨V, hc, fun i hi => ⟨fun hu => ?_, fun hv => ((key i hi).1 hv).1⟩⟩, fun i hi => ?_⟩
 ·by_cases hv : i ∈ V
  ·exact hv
  ·have := ((key i hi).2 hv).1
   rw [hu] at this
   cases this
 ·obtain ⟨g1, g2, g3⟩ := hs i hi
  refine ⟨g1, g2, fun hu => ?_, fun hu => ?_⟩
  ·by_cases hv : i ∈ V
   ·have := ((key i hi).1 hv).1
    rw [hu] at this
    cases this
   ·exact ⟨(g3 hu).1, (g3 hu).2.1, (g3 hu).2.2, ((key i hi).2 hv).2⟩
  ·by_cases hv : i ∈ V
   ·exact ((key i hi).1 hv).2
   ·have := ((key i hi).2 hv).1
    rw [hu] at this
    cases this
theorem qnE (i : Nat) : ∀ V : List Nat, V.countP (fun x => decide (x < i + 1)) = V.countP (fun x => decide (x < i)) + V.count i
 | [] => rfl
 | k :: V => by
  have ih := qnE i V
  simp only [List.countP_cons, List.count_cons]
  by_cases h1 : k < i
  ·have h2 : k < i + 1 := by omega
   have h3 : ¬ k = i := by omega
   simp [h1, h2, h3, ih]; omega
  ·by_cases h4 : k = i
   ·subst h4; simp [ih]; omega
   ·have h2 : ¬ k < i + 1 := by omega
    simp [h1, h2, h4, ih]
theorem qlY (i : Nat) : ∀ V : List Nat, V.Nodup -> V.count i = if i ∈ V then 1 else 0
 | [], _ => by simp
 | k :: V, h => by
  have hk := List.nodup_cons.1 h
  rw [List.count_cons, qlY i V hk.2]
  by_cases e : k = i
  ·subst e; simp [hk.1]
  ·have e2 : ¬ i = k := fun h => e h.symm
   simp [e, e2]
theorem qvG {l : List Sl} {f : Int} {V : List Nat} (hok : OkA l f) (hc : Chain l f V) : qeN l l.length + V.length = l.length := by
 have key : ∀ i, i <= l.length -> qeN l i + V.countP (fun x => decide (x < i)) = i := by
  intro i
  induction i with
  | zero => intro _; simp [qeN]
  | succ i ih =>
   intro hi
   have ih := ih (by omega)
   have hlt : i < l.length := by omega
   rw [qeN, qnE, qlY i V hc.nodup, List.getElem?_eq_getElem hlt]
   have hmet := hok.met hc i hlt
   rcases hu : l[i].used with _ | _
   ·simp [hu, hmet.1 hu]; omega
   ·have : i ∉ V := fun h => by rw [hmet.2 h] at hu; cases hu
    simp [hu, this]; omega
 have h := key l.length (Nat.le_refl _)
 rw [List.countP_eq_length.2 (fun x hx => by simpa using hc.lt x hx)] at h
 exact h
end Go.Proofs.YtigpjmmfelndkaaGreatDoor
namespace Go.Proofs.YtigpjmmfelndkaaGreatDoor
open Go.RowKit
set_option maxRecDepth 100000
set_option maxHeartbeats 1000000
def Seg (w : World) : Addr -> List Nat -> Addr -> Prop
 | a, [], e => a = e
 | a, k :: V, e => ∃ b, w.cell? a = some (.pointer (some ⟨b, 0, none⟩)) /\ a.block < b /\ b < w.heap.size /\ w.cell? ⟨b, 0, none⟩ = some (.int .i64 (k : Int)) /\ Seg w ⟨b, 1, none⟩ V e
theorem Seg.le {w : World} : ∀ {V : List Nat} {a e : Addr}, Seg w a V e -> a.block <= e.block
 | [], a, e, h => by have h' : a = e := h; rw [h']; exact Nat.le_refl _
 | k :: V, a, e, h => by
  obtain ⟨b, _, h2, _, _, h5⟩ := h
  have := Seg.le h5
  simp only at this
  omega
theorem Seg.snoc {w : World} {eb eo k : Nat} {t : TypeId} (he : eb < w.heap.size) (ho : eo ≠ 0) (hc : ∃ u, w.cell? ⟨eb, eo, none⟩ = some u) : ∀ {V : List Nat} {a : Addr}, Seg w a V ⟨eb, eo, none⟩ ->
  Seg ((w.alloc (.cells #[.int .i64 (k : Int), .pointer none] t)).setCell ⟨eb, eo, none⟩ (.pointer (some ⟨w.heap.size, 0, none⟩))) a (V ++ [k]) ⟨w.heap.size, 1, none⟩
 | [], a, h => by
  have h' : a = ⟨eb, eo, none⟩ := h
  subst h'
  refine ⟨w.heap.size, ?_, he, by simp [World.setCell], ?_, rfl⟩
  ·obtain ⟨u, hu⟩ := hc
   exact World.cell?_setCell_same _ _ _ ((World.cell?_alloc_lt w _ ⟨eb, eo, none⟩ he).trans hu)
  ·rw [World.cell?_setCell_other _ _ _ _ (by intro e; injection e with e1 e2; omega)]
   exact World.cell?_alloc_at _ _ _ _ rfl
 | k' :: V, a, h => by
  obtain ⟨b, h1, h2, h3, h4, h5⟩ := h
  have hle := h5.le
  simp only at hle
  refine ⟨b, ?_, h2, by simp [World.setCell]; omega, ?_, Seg.snoc he ho hc h5⟩
  ·rw [World.cell?_setCell_other _ _ _ _ (by rintro rfl; simp only at h2; omega), World.cell?_alloc_lt w _ a (by omega)]
   exact h1
  ·rw [World.cell?_setCell_other _ _ _ _ (by intro e; injection e with e1 e2; omega), World.cell?_alloc_lt w _ ⟨b, 0, none⟩ h3]
   exact h4
theorem Seg.lnk {w : World} {r : Nat} {e : Addr} (he : w.cell? e = some (.pointer none)) : ∀ {V : List Nat} {a : Addr} {p : Option Addr}, r <= a.block -> w.cell? a = some (.pointer p) -> Seg w a V e -> Lnk w r p V
 | [], a, p, _, hp, h => by
  have h' : a = e := h
  subst h'
  rw [he] at hp
  injection hp with hp
  injection hp with hp
  exact hp.symm
 | k :: V, a, p, hr, hp, h => by
  obtain ⟨b, h1, h2, h3, h4, h5⟩ := h
  rw [h1] at hp
  injection hp with hp
  injection hp with hp
  subst hp
  have hq : ∃ q, w.cell? ⟨b, 1, none⟩ = some (.pointer q) := by
   match V, h5 with
   | [], h5 => have e' : (⟨b, 1, none⟩ : Addr) = e := h5; exact ⟨none, by rw [e']; exact he⟩
   | _ :: _, h5 => obtain ⟨b', g1, _⟩ := h5; exact ⟨_, g1⟩
  obtain ⟨q, hq⟩ := hq
  exact ⟨b, q, rfl, by omega, h3, h4, hq, Seg.lnk he (by simp only; omega) hq h5⟩
theorem qjQ {l : List Sl} {f a : Int} {vis : List Nat} (h : Path l f vis a) (ha : a ≠ -1) (ho : ¬ (0 <= a /\ a < (l.length : Int))) : ∀ V, ¬ Chain l f V := by
 intro V hV
 obtain ⟨V', rfl, hc⟩ := h.chain.1 hV
 match V', hc with
 | [], hc => exact ha hc
 | p :: V', hc =>
  have e : a = (p : Int) := hc.1
  have hp := hc.2.1
  omega
theorem qoE {l : List Sl} {f a : Int} {vis : List Nat} (h : Path l f vis a) (ha : a ≠ -1) (ho : l.length <= vis.length) : ∀ V, ¬ Chain l f V := by
 intro V hV
 have hp := quE l.length V hV.nodup hV.lt
 obtain ⟨V', rfl, hc⟩ := h.chain.1 hV
 match V', hc with
 | [], hc => exact ha hc
 | p :: V', hc => simp at hp; omega
theorem qzS {w : World} {r : Nat} {l : List Sl} (f : Int) (h : RoomAt w r l.length (qaH l) none) (h2 : l.length <= 24) :
  Calls Tryz.prog 160 #[.pointer (some ⟨r, 0, none⟩), .int .i64 f] w fun e w' =>
   ((∃ (V : List Nat) (p : Option Addr), e = .returned (.bool true) /\ Chain l f V /\ RoomAt w' r l.length (qaH l) p /\ Lnk w' r p V) ∨ (e = .returned (.bool false) /\ ∀ V, ¬ Chain l f V)) /\ Below r w w' := by
 have HL := hI (qaC h2)
 have HR := hI h
 clear h
 go_enter Tryz.func160, Tryz.ntmps160
 go_wp2
 go_loopw [1, 5, 6] (fun av ev iv wr => ∃ (i : Nat) (a : Int) (eb eo : Nat) (p : Option Addr) (vis : List Nat), i <= l.length /\ iv = .int .i64 (i : Int) /\ av = .int .i64 a /\ ev = .pointer (some ⟨eb, eo, none⟩) /\ Hid (vis.length = i) /\ Hid (Path l f vis a) /\ Hid (RoomAt wr r l.length (qaH l) p) /\ wr.cell? ⟨eb, eo, none⟩ = some (.pointer none) /\ wr.frozen? ⟨eb, eo, none⟩ = false /\ Hid ((eb = r /\ eo = 121) ∨ (r < eb /\ eo = 1)) /\ Hid (Seg wr ⟨r, 121, none⟩ vis ⟨eb, eo, none⟩) /\ Hid (Below r w wr)) (fun _ _ iv _ => l.length - (intOf iv).toNat)
 case atStart => exact ⟨0, f, r, 121, none, [], by omega, rfl, rfl, rfl, rfl, rfl, HR.out, HR.out.free HL.out, Blk.froz HR.out 121, .inl ⟨rfl, rfl⟩, rfl, Below.refl _ _⟩
 case round =>
  obtain ⟨i, a, eb, eo, p, vis, hi, rfl, rfl, rfl, hvl, hpath, hroom, hce, hfe, hee, hseg, hbel⟩ := hrel
  have x0 := hroom.out.size
  have hend : Hid (Hid (a = -1) -> (∃ (V : List Nat) (p : Option Addr), Chain l f V /\ RoomAt wr r l.length (qaH l) p /\ Lnk wr r p V)) := by
   intro ha
   refine ⟨vis, p, hpath.out.chain.2 ⟨[], by simp, ha⟩, hroom.out, Seg.lnk hce (a := ⟨r, 121, none⟩) (Nat.le_refl _) (hroom.out.free HL.out) hseg.out⟩
  by_cases c1 : i < l.length
  ·have q1 : (i : Int) < (l.length : Int) := by omega
   by_cases c2 : 0 <= a
   ·by_cases c3 : a < (l.length : Int)
    ·obtain ⟨k, rfl⟩ := Int.eq_ofNat_of_zero_le c2
     have hk : k < l.length := by omega
     have q4 : (k : Int) < 24 := by omega
     have hkL : k < (qaH l).length := by rw [HL.out]; omega
     have hnx : Hid ((qaH l)[k].next = l[k].next) := by
      show _ = _
      have e := qdQ k hk
      rw [List.getElem?_eq_getElem hkL] at e
      rw [Option.some.inj e]
     obtain ⟨_, _, _, _, y4⟩ := hroom.out.slot k hkL
     rw [hnx.out] at y4
     have hlt : eb < wr.heap.size := by
      rcases hee.out with ⟨e, _⟩ | _
      ·rw [e]; exact hroom.out.lt
      ·exact World.block_lt_of_cell? wr _ hce
     have m1 : (wr.alloc (.cells #[.int .i64 (k : Int), .pointer none] 157)).cell? ⟨eb, eo, none⟩ = some (.pointer none) := (World.cell?_alloc_lt wr _ ⟨eb, eo, none⟩ hlt).trans hce
     have m2 : (wr.alloc (.cells #[.int .i64 (k : Int), .pointer none] 157)).frozen? ⟨eb, eo, none⟩ = false := by
      rw [World.frozen?_of_block (w := wr) (Below.heap_alloc wr _ eb hlt)]; exact hfe
     have hW : ∃ W, W = (wr.alloc (.cells #[.int .i64 (k : Int), .pointer none] 157)).setCell ⟨eb, eo, none⟩ (.pointer (some ⟨wr.heap.size, 0, none⟩)) := ⟨_, rfl⟩
     obtain ⟨W, hW⟩ := hW
     have n1 : W.cell? ⟨eb, eo, none⟩ = some (.pointer (some ⟨wr.heap.size, 0, none⟩)) := by rw [hW]; exact World.cell?_setCell_same _ _ _ m1
     have n2 : W.cell? ⟨r, 1 + k * 5 + 4, none⟩ = some (.int .i64 l[k].next) := by
      rw [hW, World.cell?_setCell_other _ _ _ _ (by
       intro e
       injection e with e1 e2
       rcases hee.out with ⟨_, h⟩ | ⟨h, _⟩ <;> omega), World.cell?_alloc_lt wr _ ⟨r, 1 + k * 5 + 4, none⟩ hroom.out.lt]
      exact y4
     have n3 : W.cell? ⟨wr.heap.size, 1, none⟩ = some (.pointer none) := by
      rw [hW, World.cell?_setCell_other _ _ _ _ (by intro e; injection e with e1 e2; omega)]
      exact World.cell?_alloc_at _ _ _ _ rfl
     have n4 : W.frozen? ⟨wr.heap.size, 1, none⟩ = false := by
      rw [hW, World.frozen?_setCell]; exact World.frozen?_alloc_at (w := wr) _ _ _ _ rfl
     have N5 : Hid (Seg W ⟨r, 121, none⟩ (vis ++ [k]) ⟨wr.heap.size, 1, none⟩) := by
      have := Seg.snoc (k := k) (t := 157) hlt (by rcases hee.out with ⟨_, h⟩ | ⟨_, h⟩ <;> omega) ⟨_, hce⟩ hseg.out
      rw [<- hW] at this
      exact this
     have N6 : Hid (∃ p, RoomAt W r l.length (qaH l) p) := by
      show ∃ p, RoomAt W r l.length (qaH l) p
      rw [hW]
      have h0 : RoomAt (wr.alloc (.cells #[.int .i64 (k : Int), .pointer none] 157)) r l.length (qaH l) p := Blk.more hroom.out _
      rcases hee.out with ⟨e1, e2⟩ | ⟨e1, _⟩
      ·subst e1 e2
       exact ⟨_, h0.setFree HL.out _⟩
      ·exact ⟨p, Blk.far h0 _ _ (by simp only; omega)⟩
     have N7 : Hid (Below r w W) := by
      show Below r w W
      rw [hW]
      exact (hbel.out.alloc (by have := hroom.out.lt; omega) _).setCell (by rcases hee.out with ⟨h, _⟩ | ⟨h, _⟩ <;> (dsimp only; omega)) _
     have N8 := hI (hpath.out.snoc hk)
     have N9 : Hid (r < wr.heap.size) := hroom.out.lt
     have hvl' : Hid ((vis ++ [k]).length = i + 1) := by show _ = _; rw [List.length_append, hvl.out]; rfl
     clear hend hseg hbel hpath hroom y4 hnx
     go_upto_region 6 with fail
     rw [World.setCell_alloc_past (hn := hlt)] at hW
     rw [<- hW]
     clear hW m1 m2
     go_wp2
     go_roundw
     case rel =>
      obtain ⟨p', hp'⟩ := N6.out
      exact ⟨i + 1, _, wr.heap.size, 1, p', vis ++ [k], by omega, by go_num, rfl, rfl, hvl', N8, hp', n3, n4, .inr ⟨N9.out, rfl⟩, N5, N7⟩
     case measure => simp [intOf]; omega
    ·have q3 : decide (a < (l.length : Int)) = false := decide_eq_false c3
     have qa : (a == (-1 : Int)) = false := by simp; omega
     have HN := hI (qjQ hpath.out (by omega) (by omega))
     clear hend hseg hpath hroom
     go_wp2
     go_ret
     exact ⟨.inr ⟨rfl, HN.out⟩, hbel.out⟩
   ·have q2 : decide (0 <= a) = false := decide_eq_false c2
    by_cases ca : a = -1
    ·have qa : (a == (-1 : Int)) = true := by simp [ca]
     have HE := hI (hend.out ca)
     have HB := hI hbel
     clear hend hseg hpath hroom ca hbel
     go_wp2
     go_ret
     obtain ⟨V, p, a1, a2, a3⟩ := HE.out
     first | exact ⟨.inl ⟨rfl, V, a1, p, a2, a3⟩, HB.out⟩ | exact ⟨.inl ⟨V, p, rfl, a1, a2, a3⟩, HB.out⟩ | exact ⟨.inl ⟨V, a1, p, a2, a3⟩, HB.out⟩
    ·have qa : (a == (-1 : Int)) = false := by simp [ca]
     have HN := hI (qjQ hpath.out ca (by omega))
     clear hend hseg hpath hroom
     go_wp2
     go_ret
     exact ⟨.inr ⟨rfl, HN.out⟩, hbel.out⟩
  ·have q1 : decide ((i : Int) < (l.length : Int)) = false := decide_eq_false (by omega)
   by_cases ca : a = -1
   ·have qa : (a == (-1 : Int)) = true := by simp [ca]
    have HE := hI (hend.out ca)
    clear hend hseg hpath hroom ca
    go_wp2
    go_ret
    obtain ⟨V, p, a1, a2, a3⟩ := HE.out
    first | exact ⟨.inl ⟨rfl, V, a1, p, a2, a3⟩, hbel.out⟩ | exact ⟨.inl ⟨V, p, rfl, a1, a2, a3⟩, hbel.out⟩ | exact ⟨.inl ⟨V, a1, p, a2, a3⟩, hbel.out⟩
   ·have qa : (a == (-1 : Int)) = false := by simp [ca]
    have HN := hI (qoE hpath.out ca (by rw [hvl.out]; omega))
    clear hend hseg hpath hroom
    go_wp2
    go_ret
    exact ⟨.inr ⟨rfl, HN.out⟩, hbel.out⟩
theorem Tryz.infoArr : (Tryz.prog.info? 152).map (fun i => (i.zero, i.size)) = some (some (.agg (sls (List.replicate 24 zS)).toArray), 120) := by kernel_rfl
theorem qwQ (L : List Sl) : qsL L 0 = List.replicate 24 zS := by simp [qsL]
theorem qwR {L : List Sl} {i : Nat} (hL : L.length = 24) (hi : i < 24) : (qsL L i).set i (qnI (L[i]'(by omega))) = qsL L (i + 1) := by
 have hl : ((L.take i).map qnI).length = i := by simp; omega
 rw [qsL, List.set_append_right _ _ (by omega), hl, Nat.sub_self, show 24 - i = (24 - (i + 1)) + 1 by omega, List.replicate_succ, List.set_cons_zero, qsL, List.take_succ_eq_append_getElem (by omega), List.map_append, List.append_assoc]
 rfl
theorem Blk.set5 {w : World} {g : Nat} {t : TypeId} {L : List Sl} (h : Blk w g t (sls L)) (i : Nat) (hi : i < L.length) (s : Sl) :
  Blk (((((w.setCell ⟨g, i * 5, none⟩ (.int .i64 s.gen)).setCell ⟨g, i * 5 + 1, none⟩ (.bool s.used)).setCell ⟨g, i * 5 + 2, none⟩ (.string s.key)).setCell ⟨g, i * 5 + 3, none⟩ (.string s.val)).setCell ⟨g, i * 5 + 4, none⟩ (.int .i64 s.next)) g t (sls (L.set i s)) := by
 have st := Blk.set (Blk.set (Blk.set (Blk.set (Blk.set h (i * 5) (.int .i64 s.gen)) (i * 5 + 1) (.bool s.used)) (i * 5 + 2) (.string s.key)) (i * 5 + 3) (.string s.val)) (i * 5 + 4) (.int .i64 s.next)
 have hl : (sls L).length = L.length * 5 := qaL L
 rw [Go.Proofs.YtigpjmmfelndkaaGreatDoor.set5 _ _ _ _ _ _ _ (by omega)] at st
 rw [qnX L i s hi]
 exact st
theorem Blk.at5 {w : World} {g : Nat} {t : TypeId} {L : List Sl} (h : Blk w g t (sls L)) (i : Nat) (hi : i < L.length) : slotAt w g i L[i] := by
 have k : ∀ j, j < 5 -> w.cell? ⟨g, i * 5 + j, none⟩ = (slC L[i])[j]? := fun j hj => by rw [Blk.cell h, qjN L i j hi hj]
 exact ⟨k 0 (by decide), k 1 (by decide), k 2 (by decide), k 3 (by decide), k 4 (by decide)⟩
theorem qgU {w : World} {r n : Nat} {L : List Sl} {p : Option Addr} {V : List Nat} (h : RoomAt w r n L p) (hL : L.length = 24) (hn : n <= 24) (hl : Lnk w r p V) (hV : ∀ k ∈ V, k < 24) :
  Calls Tryz.prog 161 #[.pointer (some ⟨r, 0, none⟩)] w fun e w' => e = .returned (.agg (sls (wrt L n V)).toArray) /\ Below w.heap.size w w' := by
 obtain ⟨hz, hzs⟩ := zero_of_info Tryz.infoArr
 obtain ⟨Z, hZ⟩ : ∃ Z, Z = (sls (List.replicate 24 zS)).toArray := ⟨_, rfl⟩
 rw [<- hZ] at hz
 have HZ := hI hZ
 have HR := hI h
 have HL := hI hL
 have HK := hI hl
 have HV := hI hV
 have hr := h.lt
 have n1 : (n : Int) <= 24 := by omega
 have F0 : Hid (RoomAt ((w.alloc (.cells Z 152)).alloc (.cells Z 152)) r n L p /\ Lnk ((w.alloc (.cells Z 152)).alloc (.cells Z 152)) r p V /\ Blk ((w.alloc (.cells Z 152)).alloc (.cells Z 152)) w.heap.size 152 Z.toList /\ Blk ((w.alloc (.cells Z 152)).alloc (.cells Z 152)) (w.heap.size + 1) 152 Z.toList /\ Below w.heap.size w ((w.alloc (.cells Z 152)).alloc (.cells Z 152))) := by
  refine ⟨Blk.more (Blk.more h _) _, hl.below (qcF w _ _), Blk.more (Blk.new w _ Z) _, ?_, qcF w _ _⟩
  have := Blk.new (w.alloc (.cells Z 152)) 152 Z
  rw [World.size_alloc] at this
  exact this
 clear h hL hl hV hZ
 go_enter Tryz.func161, Tryz.ntmps161
 go_wp2
 generalize ((w.alloc (.cells Z 152)).alloc (.cells Z 152)) = w0 at F0 ⊢
 obtain ⟨R0, _, Z0, Z1, B0⟩ := F0.out
 have hs0 : Hid (w.heap.size + 1 < w0.heap.size) := Z1.lt
 rw [HZ.out, List.toList_toArray] at Z0 Z1
 have R0 := hI R0
 have Z0 := hI Z0
 have Z1 := hI Z1
 have B0 := hI B0
 have x0 := R0.out.size
 clear F0 HR HZ hz
 go_quiet (fail)
 go_wp2
 go_loopw [16] (fun iv wr => ∃ i : Nat, i <= n /\ iv = .int .i64 (i : Int) /\ Hid (Blk wr (w.heap.size + 1) 152 (sls (qsL L i))) /\ Hid (Below (w.heap.size + 1) w0 wr)) (fun iv _ => n - (intOf iv).toNat)
 case atStart => exact ⟨0, by omega, rfl, by rw [qwQ]; first | exact Z1 | exact Blk.below Z1.out (Below.refl _ _).drew Z1.out.lt, by first | exact Below.refl _ _ | exact (Below.refl _ _).drew | exact below_drewN (Below.refl _ _) _⟩
 case round =>
  obtain ⟨i, hi, rfl, hout, hbel⟩ := hrel
  by_cases hlt : i < n
  ·have k1 : (i : Int) < (n : Int) := by omega
   have k2 : (i : Int) < 24 := by omega
   have hiL : i < L.length := by rw [HL.out]; omega
   obtain ⟨y0, y1, y2, y3, y4⟩ := (R0.out.below hbel.out (by omega)).slot i hiL
   have hup := hI (qwR (L := L) HL.out (show i < 24 by omega))
   have hul := hI (qbU (L := L) (n := i) HL.out (by omega))
   generalize hs : L[i] = s at *
   clear hs
   obtain ⟨gn, us, ky, vl, nx⟩ := s
   simp only [qnI] at y0 y1 y2 y3 y4 hup
   have hbz : w.heap.size + 1 < wr.heap.size := by have := hbel.out.size; have := hs0.out; omega
   have NN : Hid ((wr.alloc (.cells #[.int .i64 gn, .bool us, .string ky, .string vl, .int .i64 nx] 99)).cell? ⟨wr.heap.size, 0, none⟩ = some (.int .i64 gn) /\ (wr.alloc (.cells #[.int .i64 gn, .bool us, .string ky, .string vl, .int .i64 nx] 99)).cell? ⟨wr.heap.size, 2, none⟩ = some (.string ky) /\ (wr.alloc (.cells #[.int .i64 gn, .bool us, .string ky, .string vl, .int .i64 nx] 99)).cell? ⟨wr.heap.size, 3, none⟩ = some (.string vl) /\ Blk (wr.alloc (.cells #[.int .i64 gn, .bool us, .string ky, .string vl, .int .i64 nx] 99)) (w.heap.size + 1) 152 (sls (qsL L i)) /\ Below (w.heap.size + 1) w0 (wr.alloc (.cells #[.int .i64 gn, .bool us, .string ky, .string vl, .int .i64 nx] 99))) :=
    ⟨World.cell?_alloc_at _ _ _ _ rfl, World.cell?_alloc_at _ _ _ _ rfl, World.cell?_alloc_at _ _ _ _ rfl, Blk.more hout.out _, hbel.out.alloc (by omega) _⟩
   go_upto_region 5 with fail
   generalize (wr.alloc (.cells #[.int .i64 gn, .bool us, .string ky, .string vl, .int .i64 nx] 99)) = wn at NN ⊢
   clear y0 y1 y2 y3 y4
   obtain ⟨n0, n2, n3, NB, NL⟩ := NN.out
   obtain ⟨u0, u1, u2, u3, u4⟩ := Blk.at5 NB i (by rw [hul.out]; omega)
   have fz : ∀ j, wn.frozen? ⟨w.heap.size + 1, j, none⟩ = false := fun j => Blk.froz NB j
   have NB2 := hI (Blk.set5 NB i (by rw [hul.out]; omega) ⟨gn, true, ky, vl, 0⟩)
   rw [hup.out] at NB2
   have NL2 := hI (qdW NL (Nat.le_refl _) i ⟨gn, true, ky, vl, 0⟩)
   clear NB NL NN hout hbel
   go_wp2
   go_roundw
   case rel => exact ⟨i + 1, by omega, by go_num, NB2, NL2⟩
   case measure => simp [intOf]; omega
  ·obtain rfl : i = n := by omega
   have k1 : decide ((i : Int) < (i : Int)) = false := by simp
   have RR := hI (R0.out.below hbel.out (by omega))
   have ZZ := hI (Z0.out.below hbel.out (by omega))
   have BB : Hid (Below w.heap.size w wr) := B0.out.trans (hbel.out.mono (by omega))
   have hwr : Hid (w.heap.size + 1 < wr.heap.size) := hout.out.lt
   have hout2 := hI hout.out
   have xf := RR.out.free HL.out
   clear hbel R0 Z0 Z1 B0 hs0 hout
   generalize wr = wa at *
   go_upto_region 8 with fail
   have hbf := hI (And.intro HV.out (qbU (L := L) (n := i) HL.out (by omega)))
   go_loopg [6] V.length (fun k fv wq => ∃ (V2 : List Nat) (p2 : Option Addr) (out : List Sl), fv = .pointer p2 /\ Hid (k = V2.length) /\ Hid (Lnk w r p2 V2) /\ Hid (∀ k ∈ V2, k < 24) /\ Hid (qwM L out V2 = wrt L i V) /\ Hid (out.length = 24) /\ Hid (Blk wq (w.heap.size + 1) 152 (sls out)) /\ Hid (Below (w.heap.size + 1) wa wq))
   case atStart => exact ⟨V, p, qsL L i, rfl, rfl, HK, hbf.out.1, rfl, hbf.out.2, hout2, Below.refl _ _⟩
   case round =>
    obtain ⟨V2, p2, out, rfl, hk, hlk, hv2, hwv, hol, hblk, hbel⟩ := hrel
    match V2, hlk, hv2, hwv, hk with
    | [], hlk, hv2, hwv, hk =>
     have hp : p2 = none := hlk.out
     subst hp
     have hwv' : Hid (out = wrt L i V) := hwv.out
     have hsz : (Tryz.prog.info? 152).map (·.size) = some (sls out).toArray.size := by rw [hzs]; simp [qaL, hol.out]
     have hr2 : wr.heap[w.heap.size]? = some (.cells (sls (List.replicate 24 zS)).toArray 152 (0, 0)) := Blk.below ZZ.out hbel.out (by omega)
     have hr3 : wr.heap[w.heap.size + 1]? = some (.cells (sls out).toArray 152 (0, 0)) := hblk.out
     have hone : (sls out).toArray.all (·.oneCell') = true := by
      rw [List.all_toArray, List.all_eq_true]
      intro v hv
      obtain ⟨s, _, hs⟩ := List.mem_flatMap.1 hv
      simp only [slC, List.mem_cons, List.not_mem_nil, or_false] at hs
      rcases hs with rfl | rfl | rfl | rfl | rfl <;> rfl
     have H2 := hI (And.intro hr2 (And.intro hr3 (And.intro hsz hone)))
     have hos : Hid ((sls (List.replicate 24 zS)).toArray.size = (sls out).toArray.size) := by show _ = _; simp [qaL, hol.out]
     have BW : Hid (Below w.heap.size w (wr.setRow w.heap.size (sls out).toArray)) :=
      BB.out.trans ((hbel.out.mono (by omega)).trans ⟨rfl, rfl, rfl, by simp, fun k hk => setRow_other _ _ _ _ (by omega)⟩)
     clear hr2 hr3 hone hsz
     go_wp2_with (first | (refine wpList_load_row rfl 152 _ rfl (w.heap.size + 1) rfl 152 (sls out).toArray (0, 0) _ H2.out.2.1 Tryz.underlying152 rfl H2.out.2.2.1 ?_) | (refine wpList_plain rfl fun _ hK => wp_store_row 152 _ _ rfl w.heap.size (sls out).toArray rfl rfl 152 _ H2.out.1 H2.out.2.2.1 hos.out H2.out.2.2.2 (hK _ _ ?_)))
     refine bodyPost_ret (results_cell_row Tryz.results161 _ _ w.heap.size 152 (sls out).toArray (0, 0) _ rfl (setRow_heap _ _ _ _ _ _ H2.out.1) Tryz.underlying152 rfl H2.out.2.2.1) rfl ?_
     exact ⟨by rw [<- hwv'.out], BW.out⟩
    | k :: V2, hlk, hv2, hwv, hk =>
     obtain ⟨b, q, rfl, hb1, hb2, z0', z1', hq⟩ := hlk.out
     have BQ : Hid (Below w.heap.size w wr) := BB.out.trans (hbel.out.mono (by omega))
     have z0 := (BQ.out.cell (p := ⟨b, 0, none⟩) hb2).trans z0'
     have z1 := (BQ.out.cell (p := ⟨b, 1, none⟩) hb2).trans z1'
     have hne1 : b ≠ w.heap.size + 1 := by omega
     have hne2 : r ≠ w.heap.size + 1 := by omega
     have hk24 : k < 24 := hv2.out k (by simp)
     have k2 : (k : Int) < 24 := by omega
     have hkL : k < L.length := by rw [HL.out]; omega
     obtain ⟨y0, _, _, _, _⟩ := (RR.out.below hbel.out (by omega)).slot k hkL
     have hgn : Hid (qtL L k = L[k].gen) := by show qtL L k = _; rw [qtL, List.getElem?_eq_getElem hkL]; rfl
     obtain ⟨u0, u1, u2, u3, u4⟩ := Blk.at5 hblk.out k (by rw [hol.out]; omega)
     have fz : ∀ j, wr.frozen? ⟨w.heap.size + 1, j, none⟩ = false := fun j => Blk.froz hblk.out j
     have NB2 := hI (fun w' (hw : w'.heap = wr.heap) => Blk.set5 (show Blk w' (w.heap.size + 1) 152 (sls out) from by unfold Blk; rw [hw]; exact hblk.out) k (by rw [hol.out]; omega) ⟨L[k].gen, false, ⟨#[]⟩, ⟨#[]⟩, hdI V2⟩)
     have NL2 := hI (fun w' (hw : Below (w.heap.size + 1) wr w') => qdW (hbel.out.trans hw) (Nat.le_refl _) k ⟨L[k].gen, false, ⟨#[]⟩, ⟨#[]⟩, hdI V2⟩)
     have NS2 : Hid (qwM L (out.set k ⟨L[k].gen, false, ⟨#[]⟩, ⟨#[]⟩, hdI V2⟩) V2 = wrt L i V) := by
      have := hwv.out
      rw [qwM, hgn.out] at this
      exact this
     have HV2 : Hid (∀ k ∈ V2, k < 24) := fun j hj => hv2.out j (by simp [hj])
     have HO2 : Hid ((out.set k ⟨L[k].gen, false, ⟨#[]⟩, ⟨#[]⟩, hdI V2⟩).length = 24) := by show _ = _; rw [List.length_set, hol.out]
     have CC := hI (fun w' (hw : w'.heap = wr.heap) => qyP ((hq.below BQ.out).keep (w' := w') (fun k _ _ => by rw [hw]) (by rw [hw]; exact Nat.le_refl _)))
     have HQ := hI hq
     generalize L[k].gen = gn at *
     have B5 := qdW (B := w.heap.size + 1) (Below.refl _ wr) (Nat.le_refl _) k ⟨gn, false, ⟨#[]⟩, ⟨#[]⟩, hdI V2⟩
     have SK := hI (And.intro ((B5.cell (p := ⟨b, 0, none⟩) (by dsimp only; omega)).trans z0) (And.intro ((B5.cell (p := ⟨b, 1, none⟩) (by dsimp only; omega)).trans z1) ((B5.cell (p := ⟨r, 1 + k * 5, none⟩) (by dsimp only; omega)).trans y0)))
     clear hgn hwv hv2 hlk z0' z1' hq B5
     go_upto_region 10 with fail
     go_region_held3 (fun w' => w'.cell? ⟨b, 0, none⟩ = some (.int .i64 (k : Int)) /\ w'.cell? ⟨b, 1, none⟩ = some (.pointer q) /\ w'.cell? ⟨r, 1 + k * 5, none⟩ = some (.int .i64 gn)) (first | (simp only [World.cell?_drew, z0, z1, y0, and_self]; done) | (simp only [World.cell?_drew, SK.out.1, SK.out.2.1, SK.out.2.2, and_self]; done)) ((go_at_call 162; refine (CC.out wr.drew rfl).mono ?_; rintro e w2 ⟨rfl, rfl⟩))
     have s1 := SK.out.2.1
     have NB3 := hI (NB2.out wr rfl)
     have NL3 := hI (NL2.out wr (Below.refl _ _))
     clear NB2 NL2 CC SK
     go_wp2
     go_roundg V2.length
     case rel => exact ⟨V2, q, _, rfl, rfl, HQ, HV2, NS2, HO2, Blk.below NB3.out (Below.refl _ _).drew NB3.out.lt, NL3.out.drew⟩
     case measure => have := hk.out; rw [List.length_cons] at this; omega
end Go.Proofs.YtigpjmmfelndkaaGreatDoor
