import Derived.Test.YtigpjmmfelndkaaGreatDoorKXHH
namespace Go.Proofs.YtigpjmmfelndkaaGreatDoor
open Go.RowKit
def iz (l : List Int) : List Value := l.map fun n => Value.int .i64 n
theorem qaT (l : List Int) : (iz l).length = l.length := by simp [iz]
theorem iz_append (l m : List Int) : iz (l ++ m) = iz l ++ iz m := by simp [iz]
theorem iz_get (l : List Int) (i : Nat) (h : i < l.length) : (iz l)[i]? = some (.int .i64 l[i]) := by simp [iz, h]
theorem iz_set (l : List Int) (i : Nat) (n : Int) : iz (l.set i n) = (iz l).set i (.int .i64 n) := by simp [iz, List.map_set]
theorem iz_one (l : List Int) : ∀ u ∈ iz l, u.oneCell' = true := by
 intro u hu; obtain ⟨_, _, rfl⟩ := List.mem_map.1 hu; rfl
def RdZ (w : World) (a : Option Addr) (l : List Int) : Prop := ∀ i (h : i < l.length), ∃ b o, a = some ⟨b, o, none⟩ /\ b < w.heap.size /\ w.cell? ⟨b, o + i, none⟩ = some (.int .i64 l[i])
theorem RdZ.later {w w' : World} {a : Option Addr} {l : List Int} (h : RdZ w a l) (hb : Below w.heap.size w w') : RdZ w' a l := by
 intro i hi
 obtain ⟨b, o, ha, hg, hc⟩ := h i hi
 exact ⟨b, o, ha, Nat.lt_of_lt_of_le hg hb.size, (hb.cell (p := ⟨b, o + i, none⟩) hg).trans hc⟩
theorem RdZ.below {w w' : World} {a : Option Addr} {l : List Int} {B : Nat} (h : RdZ w a l) (hb : Below B w w') (hB : ∀ b f, a = some ⟨b, f, none⟩ -> l ≠ [] -> b < B) : RdZ w' a l := by
 intro i hi
 obtain ⟨b, o, ha, hg, hc⟩ := h i hi
 exact ⟨b, o, ha, Nat.lt_of_lt_of_le hg hb.size, (hb.cell (p := ⟨b, o + i, none⟩) (hB b o ha (fun e => by subst e; simp at hi))).trans hc⟩
theorem rdZ_of_own {w : World} {base n c : Nat} {e : TypeId} {ao : Option Addr} {l : List Int} (h : w.ownsRow base e 1 (.slice ao n c) n (iz l)) : RdZ w ao l := by
 intro i hi
 have hl : l.length = n := by have := h.1; rw [qaT] at this; omega
 rcases h.2 with ⟨hv, h0⟩ | ⟨g, cap, cur, hv, _, hh, _⟩
 ·omega
 ·have hg : (Value.slice ao n c).ownBlock = some g := by rw [hv]; rfl
  simp only [Value.slice.injEq] at hv
  refine ⟨g, 0, hv.1, (Array.getElem?_eq_some_iff.1 hh).1, ?_⟩
  have := h.cells hg i _ (iz_get l i hi)
  rw [Addr.add_lit] at this
  exact this
theorem Tryz.infoZ : (Tryz.prog.info? 3).map (fun i => (i.zero, i.size, i.bytes)) = some (some (.int .i64 0), 1, 8) := by kernel_rfl
theorem madeZ : ∀ n : Nat, (madeCells (Value.int .i64 0).cells (n * 1)).toList = iz (List.replicate n 0) := by
 intro n
 refine List.ext_getElem? fun j => ?_
 by_cases hj : j < n
 ·rw [iz_get _ j (by simpa using hj)]
  simp only [madeCells, Array.getElem?_toList]
  rw [Array.getElem?_map, Array.getElem?_range, if_pos (by omega)]
  simp only [Option.map_some, List.getElem_replicate]
  have : j % 1 = 0 := by omega
  show some ((#[Value.int .i64 0] : Array Value)[j % 1]!) = _
  rw [this]; rfl
 ·rw [List.getElem?_eq_none (by simp [madeCells]; omega), List.getElem?_eq_none (by rw [qaT]; simp; omega)]
theorem fill_setZ (l : List Int) (z s : Int) (i : Nat) (hi : i < l.length) (hs : l[i] = s) : (l.take i ++ List.replicate (l.length - i) z).set i s = l.take (i + 1) ++ List.replicate (l.length - (i + 1)) z := by
 have hl : (l.take i).length = i := by simp; omega
 rw [List.set_append_right _ _ (by omega), hl, Nat.sub_self, show l.length - i = (l.length - (i + 1)) + 1 by omega, List.replicate_succ, List.set_cons_zero, List.take_succ_eq_append_getElem hi, hs, List.append_assoc]
 rfl
def skV (a : Option Addr) (n c : Nat) (ad : Int) : Value := .agg #[.slice a n c, .int .i64 ad]
end Go.Proofs.YtigpjmmfelndkaaGreatDoor
namespace Go.Proofs.YtigpjmmfelndkaaGreatDoor
def OkK (l : List Int) (ad : Int) : Prop := l.length = 48 /\ 0 <= ad /\ ad <= 99 /\ ∀ i (h : i < l.length), 0 <= l[i] /\ l[i] <= 15
def atK (key : ByteArray) (row : Nat) : Nat := row * 16 + qcN key (row : Int) % 16
theorem atK_lt (key : ByteArray) (row : Nat) (h : row < 3) : atK key row < 48 := by unfold atK; omega
def gK (l : List Int) (k : Nat) : Int := l.getD k 0
theorem gK_get (l : List Int) (k : Nat) (h : k < l.length) : l[k] = gK l k := by simp [gK, h]
def bump (l : List Int) (k : Nat) : List Int := l.set k (min (gK l k + 1) 15)
theorem bump_length (l : List Int) (k : Nat) : (bump l k).length = l.length := by simp [bump]
def addK (l : List Int) (key : ByteArray) : Nat -> List Int
 | 0 => l
 | r + 1 => bump (addK l key r) (atK key r)
theorem qcS (l : List Int) (key : ByteArray) : ∀ r, (addK l key r).length = l.length
 | 0 => rfl
 | r + 1 => by rw [addK, bump_length, qcS l key r]
def qeK (l : List Int) : List Int := l.map fun n => n / 2
theorem qbJ (l : List Int) : (qeK l).length = l.length := by simp [qeK]
def qeP (l : List Int) (key : ByteArray) : Nat -> Int
 | 0 => 15
 | r + 1 => min (qeP l key r) (gK l (atK key r))
def cntK (l : List Int) (ad : Int) (key : ByteArray) : List Int × Int := if ad + 1 = 100 then (qeK (addK l key 3), 0) else (addK l key 3, ad + 1)
def InK15 (l : List Int) : Prop := ∀ i (h : i < l.length), 0 <= l[i] /\ l[i] <= 15
theorem InK15.g {l : List Int} (h : InK15 l) (k : Nat) : 0 <= gK l k /\ gK l k <= 15 := by
 by_cases hk : k < l.length
 ·rw [<- gK_get l k hk]; exact h k hk
 ·simp [gK, Nat.le_of_not_lt hk]
theorem InK15.bump {l : List Int} (h : InK15 l) (k : Nat) : InK15 (bump l k) := by
 intro i hi
 have hi' : i < l.length := by rwa [bump_length] at hi
 have := h.g k
 simp only [Go.Proofs.YtigpjmmfelndkaaGreatDoor.bump, List.getElem_set]
 split
 ·omega
 ·exact h i hi'
theorem InK15.add {l : List Int} (h : InK15 l) (key : ByteArray) : ∀ r, InK15 (addK l key r)
 | 0 => h
 | r + 1 => (h.add key r).bump _
theorem InK15.half {l : List Int} (h : InK15 l) : InK15 (qeK l) := by
 intro i hi
 have hi' : i < l.length := by rwa [qbJ] at hi
 have := h i hi'
 simp only [qeK, List.getElem_map]
 omega
theorem OkK.in15 {l : List Int} {ad : Int} (h : OkK l ad) : InK15 l := h.2.2.2
theorem OkK.cnt {l : List Int} {ad : Int} (h : OkK l ad) (key : ByteArray) : OkK (cntK l ad key).1 (cntK l ad key).2 := by
 obtain ⟨h1, h2, h3, h4⟩ := h
 unfold cntK
 split
 ·exact ⟨by rw [qbJ, qcS, h1], by omega, by omega, (InK15.add h4 key 3).half⟩
 ·exact ⟨by rw [qcS, h1], by dsimp only; omega, by dsimp only; omega, InK15.add h4 key 3⟩
theorem OkK.half {l : List Int} {ad : Int} (h : OkK l ad) : OkK (qeK l) ad := ⟨by rw [qbJ, h.1], h.2.1, h.2.2.1, h.in15.half⟩
open Classical in
noncomputable def cntR (l : List Int) (ad : Int) (key : ByteArray) : List Int × Int := if OkK l ad then cntK l ad key else (l, ad)
open Classical in
noncomputable def gueR (l : List Int) (ad : Int) (key : ByteArray) : Int := if OkK l ad then qeP l key 3 else 0
theorem cntR_yes {l : List Int} {ad : Int} {key : ByteArray} (h : OkK l ad) : cntR l ad key = cntK l ad key := if_pos h
theorem cntR_no {l : List Int} {ad : Int} {key : ByteArray} (h : ¬ OkK l ad) : cntR l ad key = (l, ad) := if_neg h
theorem gueR_yes {l : List Int} {ad : Int} {key : ByteArray} (h : OkK l ad) : gueR l ad key = qeP l key 3 := if_pos h
theorem gueR_no {l : List Int} {ad : Int} {key : ByteArray} (h : ¬ OkK l ad) : gueR l ad key = 0 := if_neg h
end Go.Proofs.YtigpjmmfelndkaaGreatDoor
