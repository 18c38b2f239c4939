import Derived.Test.YtigpjmmfelndkaaGreatDoorLXHH
namespace Go.Proofs.YtigpjmmfelndkaaGreatDoor
open Go.RowKit
def iz (l : List Int) : List Value := l.map fun n => Value.int .i64 n
theorem qaR (l : List Int) : (iz l).length = l.length := by simp [iz]
theorem qxT (l m : List Int) : iz (l ++ m) = iz l ++ iz m := by simp [iz]
theorem qjU (l : List Int) (i : Nat) (h : i < l.length) : (iz l)[i]? = some (.int .i64 l[i]) := by simp [iz, h]
theorem zbB (l : List Int) (i : Nat) (n : Int) : iz (l.set i n) = (iz l).set i (.int .i64 n) := by simp [iz, List.map_set]
theorem zbC (l : List Int) : ∀ u ∈ iz l, u.oneCell' = true := by
 intro u hu; obtain ⟨_, _, rfl⟩ := List.mem_map.1 hu; rfl
def RdZ (w : World) (a : Option Addr) (l : List Int) : Prop := ∀ i (h : i < l.length), ∃ b o, a = some ⟨b, o, none⟩ /\ b < w.heap.size /\ w.cell? ⟨b, o + i, none⟩ = some (.int .i64 l[i])
theorem RdZ.later {w w' : World} {a : Option Addr} {l : List Int} (h : RdZ w a l) (hb : Below w.heap.size w w') : RdZ w' a l := by
 intro i hi
 obtain ⟨b, o, ha, hg, hc⟩ := h i hi
 exact ⟨b, o, ha, Nat.lt_of_lt_of_le hg hb.size, (hb.cell (p := ⟨b, o + i, none⟩) hg).trans hc⟩
theorem qvQ {w : World} {base n c : Nat} {e : TypeId} {ao : Option Addr} {l : List Int} (h : w.ownsRow base e 1 (.slice ao n c) n (iz l)) : RdZ w ao l := by
 intro i hi
 have hl : l.length = n := by have := h.1; rw [qaR] at this; omega
 rcases h.2 with ⟨hv, h0⟩ | ⟨g, cap, cur, hv, _, hh, _⟩
 ·omega
 ·have hg : (Value.slice ao n c).ownBlock = some g := by rw [hv]; rfl
  simp only [Value.slice.injEq] at hv
  refine ⟨g, 0, hv.1, (Array.getElem?_eq_some_iff.1 hh).1, ?_⟩
  have := h.cells hg i _ (qjU l i hi)
  rw [Addr.add_lit] at this
  exact this
theorem Tryz.infoZ : (Tryz.prog.info? 3).map (fun i => (i.zero, i.size, i.bytes)) = some (some (.int .i64 0), 1, 8) := by kernel_rfl
theorem zdY : ∀ n : Nat, (madeCells (Value.int .i64 0).cells (n * 1)).toList = iz (List.replicate n 0) := by
 intro n
 refine List.ext_getElem? fun j => ?_
 by_cases hj : j < n
 ·rw [qjU _ j (by simpa using hj)]
  simp only [madeCells, Array.getElem?_toList]
  rw [Array.getElem?_map, Array.getElem?_range, if_pos (by omega)]
  simp only [Option.map_some, List.getElem_replicate]
  have : j % 1 = 0 := by omega
  show some ((#[Value.int .i64 0] : Array Value)[j % 1]!) = _
  rw [this]; rfl
 ·rw [List.getElem?_eq_none (by simp [madeCells]; omega), List.getElem?_eq_none (by rw [qaR]; simp; omega)]
theorem qyD (l : List Int) (z s : Int) (i : Nat) (hi : i < l.length) (hs : l[i] = s) : (l.take i ++ List.replicate (l.length - i) z).set i s = l.take (i + 1) ++ List.replicate (l.length - (i + 1)) z := by
 have hl : (l.take i).length = i := by simp; omega
 rw [List.set_append_right _ _ (by omega), hl, Nat.sub_self, show l.length - i = (l.length - (i + 1)) + 1 by omega, List.replicate_succ, List.set_cons_zero, List.take_succ_eq_append_getElem hi, hs, List.append_assoc]
 rfl
def skV (a : Option Addr) (n c : Nat) (ad : Int) : Value := .agg #[.slice a n c, .int .i64 ad]
end Go.Proofs.YtigpjmmfelndkaaGreatDoor
namespace Go.Proofs.YtigpjmmfelndkaaGreatDoor
def OkK (l : List Int) (ad : Int) : Prop := l.length = 48 /\ 0 <= ad /\ ad <= 99 /\ ∀ i (h : i < l.length), 0 <= l[i] /\ l[i] <= 15
def atK (key : ByteArray) (row : Nat) : Nat := row * 16 + qcK key (row : Int) % 16
theorem qvD (key : ByteArray) (row : Nat) (h : row < 3) : atK key row < 48 := by unfold atK; omega
def gK (l : List Int) (k : Nat) : Int := l.getD k 0
theorem qfL (l : List Int) (k : Nat) (h : k < l.length) : l[k] = gK l k := by simp [gK, h]
def bump (l : List Int) (k : Nat) : List Int := l.set k (min (gK l k + 1) 15)
theorem qmE (l : List Int) (k : Nat) : (bump l k).length = l.length := by simp [bump]
def qkE (l : List Int) (key : ByteArray) : Nat -> List Int
 | 0 => l
 | r + 1 => bump (qkE l key r) (atK key r)
theorem qcN (l : List Int) (key : ByteArray) : ∀ r, (qkE l key r).length = l.length
 | 0 => rfl
 | r + 1 => by rw [qkE, qmE, qcN l key r]
def qeR (l : List Int) : List Int := l.map fun n => n / 2
theorem qbS (l : List Int) : (qeR l).length = l.length := by simp [qeR]
def qeL (l : List Int) (key : ByteArray) : Nat -> Int
 | 0 => 15
 | r + 1 => min (qeL l key r) (gK l (atK key r))
def qyK (l : List Int) (ad : Int) (key : ByteArray) : List Int × Int := if ad + 1 = 100 then (qeR (qkE l key 3), 0) else (qkE l key 3, ad + 1)
def InK15 (l : List Int) : Prop := ∀ i (h : i < l.length), 0 <= l[i] /\ l[i] <= 15
theorem InK15.g {l : List Int} (h : InK15 l) (k : Nat) : 0 <= gK l k /\ gK l k <= 15 := by
 by_cases hk : k < l.length
 ·rw [<- qfL l k hk]; exact h k hk
 ·simp [gK, Nat.le_of_not_lt hk]
theorem InK15.bump {l : List Int} (h : InK15 l) (k : Nat) : InK15 (bump l k) := by
 intro i hi
 have hi' : i < l.length := by rwa [qmE] at hi
 have := h.g k
 simp only [Go.Proofs.YtigpjmmfelndkaaGreatDoor.bump, List.getElem_set]
 split
 ·omega
 ·exact h i hi'
theorem InK15.add {l : List Int} (h : InK15 l) (key : ByteArray) : ∀ r, InK15 (qkE l key r)
 | 0 => h
 | r + 1 => (h.add key r).bump _
theorem InK15.half {l : List Int} (h : InK15 l) : InK15 (qeR l) := by
 intro i hi
 have hi' : i < l.length := by rwa [qbS] at hi
 have := h i hi'
 simp only [qeR, List.getElem_map]
 omega
theorem OkK.in15 {l : List Int} {ad : Int} (h : OkK l ad) : InK15 l := h.2.2.2
theorem OkK.cnt {l : List Int} {ad : Int} (h : OkK l ad) (key : ByteArray) : OkK (qyK l ad key).1 (qyK l ad key).2 := by
 obtain ⟨h1, h2, h3, h4⟩ := h
 unfold qyK
 split
 ·exact ⟨by rw [qbS, qcN, h1], by omega, by omega, (InK15.add h4 key 3).half⟩
 ·exact ⟨by rw [qcN, h1], by dsimp only; omega, by dsimp only; omega, InK15.add h4 key 3⟩
open Classical in
noncomputable def cntR (l : List Int) (ad : Int) (key : ByteArray) : List Int × Int := if OkK l ad then qyK l ad key else (l, ad)
open Classical in
noncomputable def gueR (l : List Int) (ad : Int) (key : ByteArray) : Int := if OkK l ad then qeL l key 3 else 0
theorem qoW {l : List Int} {ad : Int} {key : ByteArray} (h : OkK l ad) : cntR l ad key = qyK l ad key := if_pos h
theorem qyJ {l : List Int} {ad : Int} {key : ByteArray} (h : ¬ OkK l ad) : cntR l ad key = (l, ad) := if_neg h
theorem quR {l : List Int} {ad : Int} {key : ByteArray} (h : OkK l ad) : gueR l ad key = qeL l key 3 := if_pos h
theorem qxY {l : List Int} {ad : Int} {key : ByteArray} (h : ¬ OkK l ad) : gueR l ad key = 0 := if_neg h
end Go.Proofs.YtigpjmmfelndkaaGreatDoor
