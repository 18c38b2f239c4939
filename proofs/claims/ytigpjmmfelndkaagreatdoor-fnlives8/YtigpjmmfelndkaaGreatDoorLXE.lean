import Derived.Test.YtigpjmmfelndkaaGreatDoorLXD
namespace Go.Proofs.YtigpjmmfelndkaaGreatDoor
open Go.RowKit
set_option maxRecDepth 100000
set_option maxHeartbeats 1000000
theorem qfN {P : Program} {w : World} {ops : Array Oper} {rest : List Oper} {o : Oper} {a : Act} {Q : Exit -> Act -> World -> Prop} (hgd : o.guard = none) (s x : Operand) (t : TypeId)
  (ho : o.op = .call { callee := .builtin .append, args := #[s, x], argTypes := #[t, t] })
  (base : Nat) (e : TypeId) (i : TypeInfo) (ht : P.underlying t = some (.slice e)) (hi : P.info? e = some i) (hz : i.zero = some (ceV zC)) (hsize : i.size = 2) (hby : i.bytes = 24)
  (v : Value) (acc : List Ce) (n : Nat) (hs : a.eval s = v) (hown : w.ownsRow base e 2 v n (ces acc)) (u : Ce)
  (hx : a.eval x = .slice (some ⟨w.heap.size, 0, none⟩) 1 1) (hlen : n <= 1048576) (hbase : base <= w.heap.size)
  (h : ∀ v' w', w'.ownsRow base e 2 v' (n + 1) (ces (acc ++ [u])) -> Below base w w' -> wpList P ops Q rest (a.put o.dst v') w') :
  wpList P ops Q (o :: rest) a (w.alloc (.cells #[.string u.key, .int .i64 u.h] e)) := by
 refine wpList_append_own _ hgd s x t ho base e i (ceV zC) 2 24 ht hi hz hsize hby rfl (by decide) v n (ces acc) hs (hown.alloc _) ⟨w.heap.size, 0, none⟩ 1 1 (ceC u) hx rfl ?_ ?_ ?_ ?_ ?_ ?_
 ·intro j y hj
  rw [Addr.add_lit, Nat.zero_add, World.cell?_alloc_at _ _ _ _ rfl, <- Array.getElem?_toList]
  exact hj
 ·intro y hy
  simp [ceC] at hy
  rcases hy with rfl | rfl <;> rfl
 ·unfold maxLen; omega
 ·omega
 ·rw [World.size_alloc]; omega
 ·intro v' w' h1 h2 _
  refine h v' w' ?_ ?_
  ·rw [qfA]; simpa [ces] using h1
  ·refine Below.grown ((Below.refl _ _).alloc hbase _) h2 (by rw [World.size_alloc]; omega) ?_
   intro k hk
   exact (hown.lt k hk).1
def nC : Ce := ⟨⟨#[]⟩, -1⟩
theorem qiN {w : World} {base n size : Nat} {e : TypeId} {v : Value} {xs : List Value} (h : w.ownsRow base e size v n xs) : ∃ ao cap, v = .slice ao n cap := by
 rcases h.2 with ⟨hv, h0⟩ | ⟨g, cap, cur, hv, _⟩
 ·exact ⟨none, 0, by rw [h0]; exact hv⟩
 ·exact ⟨_, cap, hv⟩
theorem qsW (w : World) (e : TypeId) : (w.alloc (.cells #[] e)).ownsRow w.heap.size e 2 (.slice (some ⟨w.heap.size, 0, none⟩) 0 0) 0 [] :=
 ⟨rfl, .inr ⟨w.heap.size, 0, #[], rfl, Nat.le_refl _, heap_alloc_new w _, Nat.le_refl _, Nat.zero_le _, rfl, rfl⟩⟩
theorem qhQ (n : Nat) (w : World) (hn : n <= 1048576) :
  Calls Tryz.prog 122 #[.int .i64 (n : Int)] w fun e w' => ∃ b c, e = .returned (.slice b n c) /\ w'.ownsRow w.heap.size 132 2 (.slice b n c) n (ces (List.replicate n nC)) /\ Below w.heap.size w w' := by
 obtain ⟨i0, hi0, hz0, hz1, hz2⟩ := info_parts Tryz.infoCell
 go_enter Tryz.func122, Tryz.ntmps122
 go_wp2
 go_loopw [3, 4] (fun lv iv wr => ∃ (i : Nat) (lo : Option Addr) (lc : Nat), i <= n /\ iv = .int .i64 (i : Int) /\ lv = .slice lo i lc /\ Hid (wr.ownsRow w.heap.size 132 2 (.slice lo i lc) i (ces (List.replicate i nC))) /\ Hid (Below w.heap.size w wr)) (fun _ iv _ => n - (intOf iv).toNat)
 case atStart => exact ⟨0, _, _, by omega, rfl, rfl, qsW w 132, bAl _ _⟩
 case round =>
  obtain ⟨i, lo, lc, hi, rfl, rfl, hown, hbel⟩ := hrel
  by_cases hlt : i < n
  ·have k1 : (i : Int) < (n : Int) := by omega
   have hbs := hbel.out.size
   go_wp2_with (at_builtin; (refine qfN rfl _ _ 27 rfl w.heap.size 132 i0 Tryz.underlying27 hi0 hz0 hz1 hz2 _ (List.replicate i nC) i rfl hown.out nC rfl (by omega) hbs ?_; intro v' w6 hown6 hb6))
   have O6 : Hid (w6.ownsRow w.heap.size 132 2 v' (i + 1) (ces (List.replicate (i + 1) nC))) := by
    show w6.ownsRow w.heap.size 132 2 v' (i + 1) (ces (List.replicate (i + 1) nC))
    rw [List.replicate_succ']
    exact hown6
   obtain ⟨lo', lc', rfl⟩ := qiN O6.out
   have B6 := hI (hbel.out.trans hb6)
   clear hown6 hb6
   go_wp2
   go_roundw
   case rel => exact ⟨i + 1, lo', lc', by omega, by go_num, by first | rfl | (congr 1; omega), O6, B6⟩
   case measure => simp [intOf]; omega
  ·obtain rfl : i = n := by omega
   go_wp2
   go_ret
   exact ⟨lo, lc, rfl, hown.out, hbel.out⟩
def qhI (l : List Ce) (p : Nat) : Nat -> Nat -> Option Nat
 | _, 0 => none
 | i, d + 1 => match l[(p + i) % l.length]? with
  | some x => if x.key.toList = [] then some ((p + i) % l.length) else qhI l p (i + 1) d
  | none => none
def qiY (l : List Ce) (key : ByteArray) : Option Nat := qhI l (qcK key 0 % l.length) 0 l.length
def qbJ (l : List Ce) : Nat -> Nat
 | 0 => 0
 | i + 1 => qbJ l i + (match l[i]? with | some x => if x.key.toList = [] /\ x.h = -1 then 1 else 0 | none => 0)
theorem quF (l : List Ce) : ∀ i, qbJ l i <= i
 | 0 => Nat.le_refl _
 | i + 1 => by
  have := quF l i
  rw [qbJ]
  split
  ·split <;> omega
  ·omega
theorem qoS {l : List Ce} {p : Nat} : ∀ (d i k : Nat), qhI l p i d = some k -> k < l.length
 | 0, _, _, h => by cases h
 | d + 1, i, k, h => by
  rw [qhI] at h
  split at h
  ·rename_i x hx
   split at h
   ·injection h with h; rw [<- h]; exact (List.getElem?_eq_some_iff.1 hx).1
   ·exact qoS d (i + 1) k h
  ·cases h
theorem qqC (ao : Option Addr) (l : List Ce) (ca : Nat) (key : ByteArray) (w : World) (hl : l.length <= 1048576) (h1 : 1 <= l.length) (hk : key.size <= 1048576) (hA : RdC w ao l) :
  Calls Tryz.prog 153 #[.slice ao l.length ca, .string key] w fun e w' => e = .returned (.tuple #[.int .i64 (qdC (qiY l key)), .int .i64 (qbJ l l.length : Int)]) /\ w' = w := by
 have CH := hI (qeJ key 0 w hk (by omega) (by omega))
 obtain ⟨hn, hhn⟩ : ∃ hn, qcK key 0 = hn := ⟨_, rfl⟩
 have hh4 : hn < 4294967296 := by rw [<- hhn]; exact qfK key 0
 obtain ⟨p, hp⟩ : ∃ p, hn % l.length = p := ⟨_, rfl⟩
 have hpl : p < l.length := by rw [<- hp]; exact Nat.mod_lt _ (by omega)
 have EP : Hid ((hn : Int) % (l.length : Int) = (p : Int)) := by
  show _ = _
  rw [<- hp]
  exact (Int.natCast_emod hn l.length).symm
 have HS := hI (show qiY l key = qhI l p 0 l.length by rw [qiY, hhn, hp])
 rw [hhn] at CH
 have HA := hI hA
 have q0 : ((l.length : Int) == 0) = false := by simp; intro h; rw [h] at h1; simp at h1
 have q1 : ¬ (l.length : Int) = 0 := by omega
 clear hA hhn hp
 go_enter Tryz.func153, Tryz.ntmps153
 go_wp2
 go_loop [6, 7] (fun nv iv => ∃ (i n : Nat), i <= l.length /\ iv = .int .i64 (i : Int) /\ nv = .int .i64 (n : Int) /\ n <= i /\ Hid (n = qbJ l i)) (fun _ iv => l.length - (intOf iv).toNat)
 case atStart => exact ⟨0, 0, by omega, rfl, rfl, Nat.le_refl _, rfl⟩
 case round =>
  obtain ⟨i, n, hi, rfl, rfl, hni, hnn⟩ := hrel
  by_cases hlt : i < l.length
  ·have k1 : (i : Int) < (l.length : Int) := by omega
   obtain ⟨g, hao, hg, hc⟩ := HA.out.at i hlt
   obtain ⟨x0, x1⟩ := hc
   have hnx : Hid (qbJ l (i + 1) = n + (if l[i].key.toList = [] /\ l[i].h = -1 then 1 else 0)) := by
    show qbJ l (i + 1) = _
    rw [qbJ, List.getElem?_eq_getElem hlt, hnn.out]
   rw [hao]
   generalize l[i] = s at *
   obtain ⟨ky, hh⟩ := s
   simp only at x0 x1 hnx
   by_cases d1 : ky.toList = []
   ·have b1 : ky.toList.isEmpty = true := by rw [d1]; rfl
    by_cases d2 : hh = -1
    ·have b2 : (hh == (-1 : Int)) = true := by simp [d2]
     have HY : Hid (n + 1 = qbJ l (i + 1)) := by show n + 1 = _; rw [hnx.out, if_pos ⟨d1, d2⟩]
     clear d2 hnx
     go_wp2
     go_round
     case rel => exact ⟨i + 1, n + 1, by omega, by go_num, by go_num, by omega, HY⟩
     case measure => simp [intOf]; omega
    ·have b2 : (hh == (-1 : Int)) = false := by simp [d2]
     have HY : Hid (n = qbJ l (i + 1)) := by show n = _; rw [hnx.out, if_neg (fun h => d2 h.2)]; rfl
     clear d2 hnx
     go_wp2
     go_round
     case rel => exact ⟨i + 1, n, by omega, by go_num, rfl, by omega, HY⟩
     case measure => simp [intOf]; omega
   ·have b1 : ky.toList.isEmpty = false := by cases h : ky.toList with | nil => exact absurd h d1 | cons a b => rfl
    have HY : Hid (n = qbJ l (i + 1)) := by show n = _; rw [hnx.out, if_neg (fun h => d1 h.1)]; rfl
    clear hnx
    go_wp2
    go_round
    case rel => exact ⟨i + 1, n, by omega, by go_num, rfl, by omega, HY⟩
    case measure => simp [intOf]; omega
  ·obtain rfl : i = l.length := by omega
   have k1 : decide ((l.length : Int) < (l.length : Int)) = false := by simp
   have HNN := hI hnn.out
   clear hnn
   go_wp2_with fail
   refine CH.out.mono ?_
   rintro e w1 ⟨rfl, rfl⟩
   go_upto_region 9 with fail
   rw [EP.out]
   go_wp2
   go_loop [10] (fun iv => ∃ i : Nat, i <= l.length /\ iv = .int .i64 (i : Int) /\ Hid (qiY l key = qhI l p i (l.length - i))) (fun iv => l.length - (intOf iv).toNat)
   case atStart => exact ⟨0, by omega, rfl, HS.out⟩
   case round =>
    obtain ⟨i, hi2, rfl, hS⟩ := hrel
    by_cases hlt2 : i < l.length
    ·have k2 : (i : Int) < (l.length : Int) := by omega
     obtain ⟨q, hq⟩ : ∃ q, (p + i) % l.length = q := ⟨_, rfl⟩
     have hql : q < l.length := by rw [<- hq]; exact Nat.mod_lt _ (by omega)
     have eq : ((p : Int) + (i : Int)) % (l.length : Int) = (q : Int) := by
      rw [<- hq, show (p : Int) + (i : Int) = ((p + i : Nat) : Int) by omega]
      exact (Int.natCast_emod (p + i) l.length).symm
     have kq : (q : Int) < (l.length : Int) := by omega
     obtain ⟨g, hao, hg, hc⟩ := HA.out.at q hql
     have x0 := hc.1
     have hsd : Hid (qiY l key = if l[q].key.toList = [] then some q else qhI l p (i + 1) (l.length - (i + 1))) := by
      show qiY l key = _
      rw [hS.out, show l.length - i = (l.length - (i + 1)) + 1 by omega, qhI, hq, List.getElem?_eq_getElem hql]
     rw [hao]
     generalize l[q].key = ky at *
     clear hq hc hS
     by_cases d1 : ky.toList = []
     ·have b1 : ky.toList.isEmpty = true := by rw [d1]; rfl
      have HR := hI (show qiY l key = some q by rw [hsd.out, if_pos d1])
      clear hsd
      go_wp2
      go_ret2
      exact ⟨by rw [HR.out, <- HNN.out]; first | rfl | (show Ending.returned (.tuple #[.int .i64 _, _]) = _; rw [eq]; rfl), rfl⟩
     ·have b1 : ky.toList.isEmpty = false := by cases h : ky.toList with | nil => exact absurd h d1 | cons a b => rfl
      have HR := hI (show qiY l key = qhI l p (i + 1) (l.length - (i + 1)) by rw [hsd.out, if_neg d1])
      clear hsd
      go_wp2
      go_round
      case rel => exact ⟨i + 1, by omega, by go_num, HR⟩
      case measure => simp [intOf]; omega
    ·obtain rfl : i = l.length := by omega
     have HR := hI (show qiY l key = none by rw [hS.out, Nat.sub_self]; rfl)
     go_wp2
     go_ret2
     exact ⟨by rw [HR.out, <- HNN.out]; rfl, rfl⟩
def putC (l : List Ce) (key : ByteArray) (h : Int) : Option (List Ce) :=
 match qiY l key with
 | some k => match l[k]? with
  | some x => if qbJ l l.length <= 1 /\ x.h = -1 then none else some (l.set k ⟨key, h⟩)
  | none => none
 | none => none
theorem qgY (g c base : Nat) (l : List Ce) (key : ByteArray) (h : Int) (w : World) (hl : l.length <= 1048576) (h1 : 1 <= l.length) (hk : key.size <= 1048576) (hown : w.ownsRow base 132 2 (.slice (some ⟨g, 0, none⟩) l.length c) l.length (ces l)) :
  Calls Tryz.prog 94 #[.slice (some ⟨g, 0, none⟩) l.length c, .string key, .int .i64 h] w fun e w' => ((∃ l', putC l key h = some l' /\ e = .returned (.bool true) /\ w'.ownsRow base 132 2 (.slice (some ⟨g, 0, none⟩) l.length c) l.length (ces l')) ∨ (putC l key h = none /\ e = .returned (.bool false) /\ w' = w)) /\ w.grownBy w' (some g) := by
 have CF := hI (qqC (some ⟨g, 0, none⟩) l c key w hl h1 hk (qcZ hown))
 have HO := hI hown
 clear hown
 have n4 := quF l l.length
 rcases hf : qiY l key with _ | k
 ·have HP := hI (show putC l key h = none by rw [putC, hf])
  rw [hf] at CF
  unfold qdC at CF
  clear hf
  go_enter Tryz.func94, Tryz.ntmps94
  go_wp2_with fail
  refine CF.out.mono ?_
  rintro e w1 ⟨rfl, rfl⟩
  go_wp2
  go_ret
  exact ⟨.inr ⟨HP.out, rfl, rfl⟩, World.grownBy.refl _ _⟩
 ·have hkl : k < l.length := qoS _ _ _ hf
  have k1 : (k : Int) < (l.length : Int) := by omega
  have q0 : decide ((k : Int) < 0) = false := by simp
  have hpc : Hid (putC l key h = if qbJ l l.length <= 1 /\ l[k].h = -1 then none else some (l.set k ⟨key, h⟩)) := by
   show putC l key h = _
   rw [putC, hf]
   simp only []
   rw [List.getElem?_eq_getElem hkl]
  have x0 : w.cell? ⟨g, k * 2, none⟩ = some (.string l[k].key) := (HO.out.cellAt (k * 2) (by omega)).trans (qiH l k 0 hkl (by omega))
  have x1 : w.cell? ⟨g, k * 2 + 1, none⟩ = some (.int .i64 l[k].h) := (HO.out.cellAt (k * 2 + 1) (by omega)).trans (qiH l k 1 hkl (by omega))
  have f0 := HO.out.frozenAt (k * 2)
  have f1 := HO.out.frozenAt (k * 2 + 1)
  have OS := hI (qkK HO.out rfl k hkl ⟨key, h⟩)
  rw [hf] at CF
  unfold qdC at CF
  generalize l[k].h = xh at *
  generalize qbJ l l.length = nn at *
  have GS : Hid (w.grownBy ((w.setCell ⟨g, k * 2, none⟩ (.string key)).setCell ⟨g, k * 2 + 1, none⟩ (.int .i64 h)) (some g)) := qbF (qbF (World.grownBy.refl _ _) (k * 2) (.string key)) (k * 2 + 1) (.int .i64 h)
  clear hf
  by_cases e1 : nn <= 1
  ·have q1 : (nn : Int) <= 1 := by omega
   by_cases e2 : xh = -1
   ·have q2 : (xh == (-1 : Int)) = true := by simp [e2]
    have HP := hI (show putC l key h = none by rw [hpc.out, if_pos ⟨e1, e2⟩])
    clear e2 hpc
    go_enter Tryz.func94, Tryz.ntmps94
    go_wp2_with fail
    refine CF.out.mono ?_
    rintro e w1 ⟨rfl, rfl⟩
    go_wp2
    go_ret
    exact ⟨.inr ⟨HP.out, rfl, rfl⟩, World.grownBy.refl _ _⟩
   ·have q2 : (xh == (-1 : Int)) = false := by simp [e2]
    have HP := hI (show putC l key h = some (l.set k ⟨key, h⟩) by rw [hpc.out, if_neg (fun h => e2 h.2)])
    clear e2 hpc
    go_enter Tryz.func94, Tryz.ntmps94
    go_wp2_with fail
    refine CF.out.mono ?_
    rintro e w1 ⟨rfl, rfl⟩
    go_wp2
    go_ret
    exact ⟨.inl ⟨_, HP.out, rfl, OS.out⟩, GS.out⟩
  ·have q1 : decide ((nn : Int) <= 1) = false := decide_eq_false (by omega)
   have HP := hI (show putC l key h = some (l.set k ⟨key, h⟩) by rw [hpc.out, if_neg (fun h => e1 h.1)])
   clear hpc
   go_enter Tryz.func94, Tryz.ntmps94
   go_wp2_with fail
   refine CF.out.mono ?_
   rintro e w1 ⟨rfl, rfl⟩
   go_wp2
   go_ret
   exact ⟨.inl ⟨_, HP.out, rfl, OS.out⟩, GS.out⟩
def qwO (x : Ce) : Prop := (x.key.toList = [] /\ (x.h = -1 ∨ x.h = -2)) ∨ (x.key.toList ≠ [] /\ x.key.size <= 12 /\ 0 <= x.h)
def qfM (l : List Ce) : Prop := ∀ i (h : i < l.length), qwO l[i]
def qdS (l : List Ce) (key : ByteArray) (p : Nat) : Nat -> Nat -> Option Nat -> Option Nat × Option Nat
 | _, 0, f => (none, f)
 | i, d + 1, f => match l[(p + i) % l.length]? with
  | none => (none, f)
  | some x => if x.key.toList ≠ [] /\ x.key.toList = key.toList then (some ((p + i) % l.length), f)
   else if x.h = -1 then (none, if x.key.toList = [] /\ f = none then some ((p + i) % l.length) else f)
   else qdS l key p (i + 1) d (if x.key.toList = [] /\ f = none then some ((p + i) % l.length) else f)
def qaP (l : List Ce) (key : ByteArray) : Option Nat × Option Nat := qdS l key (qcK key 0 % l.length) 0 l.length none
theorem quA {l : List Ce} {key : ByteArray} {p : Nat} : ∀ (d i : Nat) (f : Option Nat) (k : Nat), (qdS l key p i d f).1 = some k -> k < l.length
 | 0, _, _, _, h => by cases h
 | d + 1, i, f, k, h => by
  rw [qdS] at h
  split at h
  ·cases h
  ·rename_i x hx
   split at h
   ·injection h with h; rw [<- h]; exact (List.getElem?_eq_some_iff.1 hx).1
   ·split at h
    ·cases h
    ·exact quA d (i + 1) _ k h
theorem qhL {l : List Ce} {key : ByteArray} {p : Nat} (hl : 0 < l.length) : ∀ (d i : Nat) (f : Option Nat) (k : Nat), (∀ j, f = some j -> j < l.length) -> (qdS l key p i d f).2 = some k -> k < l.length
 | 0, _, _, _, hf, h => hf _ h
 | d + 1, i, f, k, hf, h => by
  have hf' : ∀ (x : Ce) j, (if x.key.toList = [] /\ f = none then some ((p + i) % l.length) else f) = some j -> j < l.length := by
   intro x j hj
   split at hj
   ·injection hj with hj; rw [<- hj]; exact Nat.mod_lt _ hl
   ·exact hf j hj
  rw [qdS] at h
  split at h
  ·exact hf _ h
  ·rename_i x hx
   split at h
   ·exact hf _ h
   ·split at h
    ·exact hf' x _ h
    ·exact qhL hl d (i + 1) _ k (hf' x) h
theorem qmR {l : List Ce} {key : ByteArray} {p : Nat} (hF : qfM l) (hk : key.toList ≠ []) : ∀ (d i : Nat) (f : Option Nat), (qdS l key p i d f).1 = qeU l key p i d
 | 0, _, _ => rfl
 | d + 1, i, f => by
  rw [qdS, qeU, qkG]
  cases hx : l[(p + i) % l.length]? with
  | none => rfl
  | some x =>
   have hfx : qwO x := by
    obtain ⟨h1, h2⟩ := List.getElem?_eq_some_iff.1 hx
    rw [<- h2]; exact hF _ h1
   simp only []
   by_cases e1 : x.key.toList = key.toList
   ·have hne : x.key.toList ≠ [] := by rw [e1]; exact hk
    rcases hfx with ⟨h, _⟩ | ⟨_, _, h⟩
    ·exact absurd h hne
    ·rw [if_pos ⟨hne, e1⟩, if_pos ⟨e1, h⟩]
   ·rw [if_neg (show ¬ (x.key.toList ≠ [] /\ x.key.toList = key.toList) from fun h => e1 h.2), if_neg (show ¬ (x.key.toList = key.toList /\ 0 <= x.h) from fun h => e1 h.1)]
    by_cases e2 : x.h = -1
    ·have hem : x.key.toList = [] := by
      rcases hfx with ⟨h, _⟩ | ⟨_, _, h⟩
      ·exact h
      ·omega
     rw [if_pos e2, if_pos (show x.key.toList = [] /\ x.h = -1 from ⟨hem, e2⟩)]
    ·rw [if_neg e2, if_neg (show ¬ (x.key.toList = [] /\ x.h = -1) from fun h => e2 h.2)]
     exact qmR hF hk d (i + 1) _
theorem qmQ {l : List Ce} {key : ByteArray} {p : Nat} (k : Nat) : ∀ (d i : Nat), (qdS l key p i d (some k)).2 = some k
 | 0, _ => rfl
 | d + 1, i => by
  rw [qdS]
  have e : ∀ x : Ce, (if x.key.toList = [] /\ some k = none then some ((p + i) % l.length) else some k) = some k := fun x => if_neg (fun h => by cases h.2)
  split
  ·rfl
  ·rename_i x hx
   split
   ·rfl
   ·rw [e]
    split
    ·rfl
    ·exact qmQ k d (i + 1)
theorem qmT {l : List Ce} {key : ByteArray} {p : Nat} (hF : qfM l) : ∀ (d i : Nat), (qdS l key p i d none).1 = none -> (qdS l key p i d none).2 = qhI l p i d
 | 0, _, _ => rfl
 | d + 1, i, h => by
  rw [qdS] at h ⊢
  rw [qhI]
  cases hx : l[(p + i) % l.length]? with
  | none => rfl
  | some x =>
   rw [hx] at h
   have hfx : qwO x := by
    obtain ⟨h1, h2⟩ := List.getElem?_eq_some_iff.1 hx
    rw [<- h2]; exact hF _ h1
   simp only [] at h ⊢
   by_cases e1 : x.key.toList ≠ [] /\ x.key.toList = key.toList
   ·rw [if_pos e1] at h; cases h
   ·rw [if_neg e1] at h ⊢
    by_cases e0 : x.key.toList = []
    ·rw [if_pos e0, if_pos (show x.key.toList = [] /\ True from ⟨e0, trivial⟩)]
     by_cases e2 : x.h = -1
     ·rw [if_pos e2]
     ·rw [if_neg e2]; exact qmQ _ d (i + 1)
    ·have e2 : ¬ x.h = -1 := by
      rcases hfx with ⟨h, _⟩ | ⟨_, _, h⟩
      ·exact absurd h e0
      ·omega
     rw [if_neg e2, if_neg (show ¬ (x.key.toList = [] /\ True) from fun h => e0 h.1)] at h ⊢
     rw [if_neg e0]
     exact qmT hF d (i + 1) h
theorem qmS {l : List Ce} {key : ByteArray} {p : Nat} (hk : key.toList = []) : ∀ (d i : Nat) (f : Option Nat), (qdS l key p i d f).1 = none
 | 0, _, _ => rfl
 | d + 1, i, f => by
  rw [qdS]
  split
  ·rfl
  ·rw [if_neg (fun h => h.1 (by rw [h.2]; exact hk))]
   split
   ·rfl
   ·exact qmS hk d (i + 1) _
theorem qaJ {l : List Ce} {key : ByteArray} (hF : qfM l) (hk : key.toList ≠ []) : (qaP l key).1 = qaZ l key := qmR hF hk _ _ _
theorem qvK {l : List Ce} {key : ByteArray} (hF : qfM l) (h : (qaP l key).1 = none) : (qaP l key).2 = qiY l key := qmT hF _ _ h
theorem qeT {l : List Ce} {key : ByteArray} (hk : key.toList = []) : (qaP l key).1 = none := qmS hk _ _ _
theorem qfD {l : List Ce} {key : ByteArray} {k : Nat} (h : (qaP l key).1 = some k) : k < l.length := quA _ _ _ _ h
def qkH (l : List Ce) : Nat -> Nat
 | 0 => 0
 | i + 1 => qkH l i + (match l[i]? with | some x => if x.h = -1 then 1 else 0 | none => 0)
theorem qgM {l : List Ce} (hF : qfM l) : ∀ i, qkH l i = qbJ l i
 | 0 => rfl
 | i + 1 => by
  rw [qkH, qbJ, qgM hF i]
  congr 1
  cases hx : l[i]? with
  | none => rfl
  | some x =>
   have hfx : qwO x := by
    obtain ⟨h1, h2⟩ := List.getElem?_eq_some_iff.1 hx
    rw [<- h2]; exact hF _ h1
   simp only []
   by_cases e : x.h = -1
   ·rw [if_pos e, if_pos]
    refine ⟨?_, e⟩
    rcases hfx with ⟨h, _⟩ | ⟨_, _, h⟩
    ·exact h
    ·omega
   ·rw [if_neg e, if_neg (fun h => e h.2)]
theorem qlM {l : List Ce} : ∀ (n i : Nat) (h : i < l.length), i < n -> qbL l[i] -> 0 < qbJ l n
 | 0, _, _, hn, _ => by omega
 | n + 1, i, h, hn, hx => by
  rw [qbJ]
  by_cases e : i = n
  ·subst e
   rw [List.getElem?_eq_getElem h]
   simp only []
   rw [if_pos (show l[i].key.toList = [] /\ l[i].h = -1 from hx)]
   omega
  ·have := qlM n i h (by omega) hx
   omega
theorem qqU {l : List Ce} : ∀ (n : Nat), 0 < qbJ l n -> ∃ i, ∃ h : i < l.length, qbL l[i]
 | 0, h => by cases h
 | n + 1, h => by
  rw [qbJ] at h
  by_cases e : 0 < qbJ l n
  ·exact qqU n e
  ·cases hx : l[n]? with
   | none => rw [hx] at h; simp only [] at h; omega
   | some x =>
    rw [hx] at h
    simp only [] at h
    obtain ⟨h1, h2⟩ := List.getElem?_eq_some_iff.1 hx
    by_cases e2 : x.key.toList = [] /\ x.h = -1
    ·exact ⟨n, h1, by rw [h2]; exact e2⟩
    ·rw [if_neg e2] at h; omega
theorem qmZ {l : List Ce} : 0 < qbJ l l.length ↔ ∃ i, ∃ h : i < l.length, qbL l[i] :=
 ⟨qqU _, fun ⟨i, h, hx⟩ => qlM _ i h h hx⟩
def qtT (l : List Ce) : Prop := ∀ i (h : i < l.length), l[i].key.toList ≠ [] -> (qaP l l[i].key).1 = some i
theorem qeX {l : List Ce} : (∀ i (h : i < l.length), okC l i l[i]) ↔ qfM l /\ qtT l := by
 constructor
 ·intro h
  have hF : qfM l := fun i hi => by
   obtain ⟨h1, h2⟩ := h i hi
   by_cases e : l[i].key.toList = []
   ·exact .inl ⟨e, h1 e⟩
   ·exact .inr ⟨e, (h2 e).1, (h2 e).2.1⟩
  exact ⟨hF, fun i hi e => by rw [qaJ hF e]; exact ((h i hi).2 e).2.2⟩
 ·rintro ⟨hF, hO⟩ i hi
  refine ⟨fun e => ?_, fun e => ?_⟩
  ·rcases hF i hi with ⟨_, h⟩ | ⟨h, _⟩
   ·exact h
   ·exact absurd e h
  ·rcases hF i hi with ⟨h, _⟩ | ⟨_, h1, h2⟩
   ·exact absurd h e
   ·exact ⟨h1, h2, by rw [<- qaJ hF e]; exact hO i hi e⟩
structure OkI (l o : List Ce) (mv : Nat) : Prop where
 f1 : qfM l
 f2 : qfM o
 none : 0 < qkH l l.length
 gone : ∀ i (h : i < o.length), i < mv -> o[i].h = -2
 s1 : qtT l
 s2 : qtT o
 apart : ∀ i (h : i < o.length), (qaP l o[i].key).1 = Option.none
theorem zbX {l o : List Ce} {mv : Nat} (hs : l.length = 4 ∨ l.length = 8 ∨ l.length = 16 ∨ l.length = 32 ∨ l.length = 64) (hh : o.length = 0 ∨ 2 * o.length = l.length) (hm : mv <= o.length) : OkT l o (mv : Int) ↔ OkI l o mv := by
 constructor
 ·intro h
  obtain ⟨f1, s1⟩ := qeX.1 h.cells.1
  obtain ⟨f2, s2⟩ := qeX.1 h.olds.1
  refine ⟨f1, f2, by rw [qgM f1]; exact qmZ.2 (h.cells.2 rfl), fun i hi hlt => ((h.old i hi).1 (by omega)).2, s1, s2, fun i hi => ?_⟩
  by_cases e : o[i].key.toList = []
  ·exact qeT e
  ·rw [qaJ f1 e]; exact (h.old i hi).2 e
 ·intro h
  refine ⟨hs, hh, ⟨by omega, by omega⟩, ⟨qeX.2 ⟨h.f1, h.s1⟩, fun _ => qmZ.1 (by rw [<- qgM h.f1]; exact h.none)⟩, ⟨qeX.2 ⟨h.f2, h.s2⟩, fun e => by cases e⟩, fun i hi => ⟨fun hlt => ?_, fun e => ?_⟩⟩
  ·have hg := h.gone i hi (by omega)
   refine ⟨?_, hg⟩
   rcases h.f2 i hi with ⟨h1, _⟩ | ⟨_, _, h1⟩
   ·exact h1
   ·omega
  ·rw [<- qaJ h.f1 e]; exact h.apart i hi
theorem qxO {l : List Ce} {key : ByteArray} (hF : qfM l) (h0 : (qaP l key).1 = none) (h : Int) :
  putC l key h = match (qaP l key).2 with
   | none => none
   | some k => match l[k]? with
    | some x => if x.h = -1 /\ qkH l l.length = 1 then none else some (l.set k ⟨key, h⟩)
    | none => none := by
 rw [putC, <- qvK hF h0]
 cases (qaP l key).2 with
 | none => rfl
 | some k =>
  simp only []
  cases hx : l[k]? with
  | none => rfl
  | some x =>
   simp only []
   rw [qgM hF]
   by_cases e : x.h = -1
   ·obtain ⟨h1, h2⟩ := List.getElem?_eq_some_iff.1 hx
    have hem : qbL l[k] := by
     rcases hF k h1 with ⟨h, _⟩ | ⟨_, _, h⟩
     ·exact ⟨h, by rw [h2]; exact e⟩
     ·rw [h2] at h; omega
    have hp := qlM _ k h1 h1 hem
    by_cases e2 : qbJ l l.length = 1
    ·rw [if_pos ⟨by omega, e⟩, if_pos ⟨e, e2⟩]
    ·rw [if_neg (fun h => by omega), if_neg (fun h => e2 h.2)]
   ·rw [if_neg (fun h => e h.2), if_neg (fun h => e h.1)]
end Go.Proofs.YtigpjmmfelndkaaGreatDoor
