import Derived.Test.YtigpjmmfelndkaaGreatDoorKXD
namespace Go.Proofs.YtigpjmmfelndkaaGreatDoor
open Go.RowKit
set_option maxRecDepth 100000
set_option maxHeartbeats 1000000
theorem wpList_push2 {P : Program} {w : World} {ops : Array Oper} {rest : List Oper} {o : Oper} {a : Act} {Q : Exit -> Act -> World -> Prop} (hgd : o.guard = none) (s x : Operand) (t : TypeId)
  (ho : o.op = .call { callee := .builtin .append, args := #[s, x], argTypes := #[t, t] })
  (base : Nat) (e : TypeId) (i : TypeInfo) (ht : P.underlying t = some (.slice e)) (hi : P.info? e = some i) (hz : i.zero = some (ceV zC)) (hsize : i.size = 2) (hby : i.bytes = 24)
  (v : Value) (acc : List Ce) (n : Nat) (hs : a.eval s = v) (hown : w.ownsRow base e 2 v n (ces acc)) (u : Ce)
  (hx : a.eval x = .slice (some ⟨w.heap.size, 0, none⟩) 1 1) (hlen : n <= 1048576) (hbase : base <= w.heap.size)
  (h : ∀ v' w', w'.ownsRow base e 2 v' (n + 1) (ces (acc ++ [u])) -> Below base w w' -> wpList P ops Q rest (a.put o.dst v') w') :
  wpList P ops Q (o :: rest) a (w.alloc (.cells #[.string u.key, .int .i64 u.h] e)) := by
 refine wpList_append_own _ hgd s x t ho base e i (ceV zC) 2 24 ht hi hz hsize hby rfl (by decide) v n (ces acc) hs (hown.alloc _) ⟨w.heap.size, 0, none⟩ 1 1 (ceC u) hx rfl ?_ ?_ ?_ ?_ ?_ ?_
 ·intro j y hj
  rw [Addr.add_lit, Nat.zero_add, World.cell?_alloc_at _ _ _ _ rfl, <- Array.getElem?_toList]
  exact hj
 ·intro y hy
  simp [ceC] at hy
  rcases hy with rfl | rfl <;> rfl
 ·unfold maxLen; omega
 ·omega
 ·rw [World.size_alloc]; omega
 ·intro v' w' h1 h2 _
  refine h v' w' ?_ ?_
  ·rw [qfD]; simpa [ces] using h1
  ·refine Below.grown ((Below.refl _ _).alloc hbase _) h2 (by rw [World.size_alloc]; omega) ?_
   intro k hk
   exact (hown.lt k hk).1
def nC : Ce := ⟨⟨#[]⟩, -1⟩
theorem own_slice2 {w : World} {base n size : Nat} {e : TypeId} {v : Value} {xs : List Value} (h : w.ownsRow base e size v n xs) : ∃ ao cap, v = .slice ao n cap := by
 rcases h.2 with ⟨hv, h0⟩ | ⟨g, cap, cur, hv, _⟩
 ·exact ⟨none, 0, by rw [h0]; exact hv⟩
 ·exact ⟨_, cap, hv⟩
theorem owns_empty2 (w : World) (e : TypeId) : (w.alloc (.cells #[] e)).ownsRow w.heap.size e 2 (.slice (some ⟨w.heap.size, 0, none⟩) 0 0) 0 [] :=
 ⟨rfl, .inr ⟨w.heap.size, 0, #[], rfl, Nat.le_refl _, heap_alloc_new w _, Nat.le_refl _, Nat.zero_le _, rfl, rfl⟩⟩
theorem specCells_any (n : Nat) (w : World) (hn : n <= 1048576) :
  Calls Tryz.prog 122 #[.int .i64 (n : Int)] w fun e w' => ∃ b c, e = .returned (.slice b n c) /\ w'.ownsRow w.heap.size 132 2 (.slice b n c) n (ces (List.replicate n nC)) /\ Below w.heap.size w w' := by
 obtain ⟨i0, hi0, hz0, hz1, hz2⟩ := info_parts Tryz.infoCell
 go_enter Tryz.func122, Tryz.ntmps122
 go_wp2
 go_loopw [3, 4] (fun lv iv wr => ∃ (i : Nat) (lo : Option Addr) (lc : Nat), i <= n /\ iv = .int .i64 (i : Int) /\ lv = .slice lo i lc /\ Hid (wr.ownsRow w.heap.size 132 2 (.slice lo i lc) i (ces (List.replicate i nC))) /\ Hid (Below w.heap.size w wr)) (fun _ iv _ => n - (intOf iv).toNat)
 case atStart => exact ⟨0, _, _, by omega, rfl, rfl, owns_empty2 w 132, (Below.refl _ _).alloc (Nat.le_refl _) _⟩
 case round =>
  obtain ⟨i, lo, lc, hi, rfl, rfl, hown, hbel⟩ := hrel
  by_cases hlt : i < n
  ·have k1 : (i : Int) < (n : Int) := by omega
   have hbs := hbel.out.size
   go_wp2_with (at_builtin; (refine wpList_push2 rfl _ _ 27 rfl w.heap.size 132 i0 Tryz.underlying27 hi0 hz0 hz1 hz2 _ (List.replicate i nC) i rfl hown.out nC rfl (by omega) hbs ?_; intro v' w6 hown6 hb6))
   have O6 : Hid (w6.ownsRow w.heap.size 132 2 v' (i + 1) (ces (List.replicate (i + 1) nC))) := by
    show w6.ownsRow w.heap.size 132 2 v' (i + 1) (ces (List.replicate (i + 1) nC))
    rw [List.replicate_succ']
    exact hown6
   obtain ⟨lo', lc', rfl⟩ := own_slice2 O6.out
   have B6 := hI (hbel.out.trans hb6)
   clear hown6 hb6
   go_wp2
   go_roundw
   case rel => exact ⟨i + 1, lo', lc', by omega, by go_num, by first | rfl | (congr 1; omega), O6, B6⟩
   case measure => simp [intOf]; omega
  ·obtain rfl : i = n := by omega
   go_wp2
   go_ret
   exact ⟨lo, lc, rfl, hown.out, hbel.out⟩
def freeD (l : List Ce) (p : Nat) : Nat -> Nat -> Option Nat
 | _, 0 => none
 | i, d + 1 => match l[(p + i) % l.length]? with
  | some x => if x.key.toList = [] then some ((p + i) % l.length) else freeD l p (i + 1) d
  | none => none
def freeC (l : List Ce) (key : ByteArray) : Option Nat := freeD l (qcN key 0 % l.length) 0 l.length
def qbI (l : List Ce) : Nat -> Nat
 | 0 => 0
 | i + 1 => qbI l i + (match l[i]? with | some x => if x.key.toList = [] /\ x.h = -1 then 1 else 0 | none => 0)
theorem noneN_le (l : List Ce) : ∀ i, qbI l i <= i
 | 0 => Nat.le_refl _
 | i + 1 => by
  have := noneN_le l i
  rw [qbI]
  split
  ·split <;> omega
  ·omega
theorem freeD_lt {l : List Ce} {p : Nat} : ∀ (d i k : Nat), freeD l p i d = some k -> k < l.length
 | 0, _, _, h => by cases h
 | d + 1, i, k, h => by
  rw [freeD] at h
  split at h
  ·rename_i x hx
   split at h
   ·injection h with h; rw [<- h]; exact (List.getElem?_eq_some_iff.1 hx).1
   ·exact freeD_lt d (i + 1) k h
  ·cases h
theorem specFree_any (ao : Option Addr) (l : List Ce) (ca : Nat) (key : ByteArray) (w : World) (hl : l.length <= 1048576) (h1 : 1 <= l.length) (hk : key.size <= 1048576) (hA : RdC w ao l) :
  Calls Tryz.prog 153 #[.slice ao l.length ca, .string key] w fun e w' => e = .returned (.tuple #[.int .i64 (qdH (freeC l key)), .int .i64 (qbI l l.length : Int)]) /\ w' = w := by
 have CH := hI (qeM key 0 w hk (by omega) (by omega))
 obtain ⟨hn, hhn⟩ : ∃ hn, qcN key 0 = hn := ⟨_, rfl⟩
 have hh4 : hn < 4294967296 := by rw [<- hhn]; exact qfP key 0
 obtain ⟨p, hp⟩ : ∃ p, hn % l.length = p := ⟨_, rfl⟩
 have hpl : p < l.length := by rw [<- hp]; exact Nat.mod_lt _ (by omega)
 have EP : Hid ((hn : Int) % (l.length : Int) = (p : Int)) := by
  show _ = _
  rw [<- hp]
  exact (Int.natCast_emod hn l.length).symm
 have HS := hI (show freeC l key = freeD l p 0 l.length by rw [freeC, hhn, hp])
 rw [hhn] at CH
 have HA := hI hA
 have q0 : ((l.length : Int) == 0) = false := by simp; intro h; rw [h] at h1; simp at h1
 have q1 : ¬ (l.length : Int) = 0 := by omega
 clear hA hhn hp
 go_enter Tryz.func153, Tryz.ntmps153
 go_wp2
 go_loop [6, 7] (fun nv iv => ∃ (i n : Nat), i <= l.length /\ iv = .int .i64 (i : Int) /\ nv = .int .i64 (n : Int) /\ n <= i /\ Hid (n = qbI l i)) (fun _ iv => l.length - (intOf iv).toNat)
 case atStart => exact ⟨0, 0, by omega, rfl, rfl, Nat.le_refl _, rfl⟩
 case round =>
  obtain ⟨i, n, hi, rfl, rfl, hni, hnn⟩ := hrel
  by_cases hlt : i < l.length
  ·have k1 : (i : Int) < (l.length : Int) := by omega
   obtain ⟨g, hao, hg, hc⟩ := HA.out.at i hlt
   obtain ⟨x0, x1⟩ := hc
   have hnx : Hid (qbI l (i + 1) = n + (if l[i].key.toList = [] /\ l[i].h = -1 then 1 else 0)) := by
    show qbI l (i + 1) = _
    rw [qbI, List.getElem?_eq_getElem hlt, hnn.out]
   rw [hao]
   generalize l[i] = s at *
   obtain ⟨ky, hh⟩ := s
   simp only at x0 x1 hnx
   by_cases d1 : ky.toList = []
   ·have b1 : ky.toList.isEmpty = true := by rw [d1]; rfl
    by_cases d2 : hh = -1
    ·have b2 : (hh == (-1 : Int)) = true := by simp [d2]
     have HY : Hid (n + 1 = qbI l (i + 1)) := by show n + 1 = _; rw [hnx.out, if_pos ⟨d1, d2⟩]
     clear d2 hnx
     go_wp2
     go_round
     case rel => exact ⟨i + 1, n + 1, by omega, by go_num, by go_num, by omega, HY⟩
     case measure => simp [intOf]; omega
    ·have b2 : (hh == (-1 : Int)) = false := by simp [d2]
     have HY : Hid (n = qbI l (i + 1)) := by show n = _; rw [hnx.out, if_neg (fun h => d2 h.2)]; rfl
     clear d2 hnx
     go_wp2
     go_round
     case rel => exact ⟨i + 1, n, by omega, by go_num, rfl, by omega, HY⟩
     case measure => simp [intOf]; omega
   ·have b1 : ky.toList.isEmpty = false := by cases h : ky.toList with | nil => exact absurd h d1 | cons a b => rfl
    have HY : Hid (n = qbI l (i + 1)) := by show n = _; rw [hnx.out, if_neg (fun h => d1 h.1)]; rfl
    clear hnx
    go_wp2
    go_round
    case rel => exact ⟨i + 1, n, by omega, by go_num, rfl, by omega, HY⟩
    case measure => simp [intOf]; omega
  ·obtain rfl : i = l.length := by omega
   have k1 : decide ((l.length : Int) < (l.length : Int)) = false := by simp
   have HNN := hI hnn.out
   clear hnn
   go_wp2_with fail
   refine CH.out.mono ?_
   rintro e w1 ⟨rfl, rfl⟩
   go_upto_region 9 with fail
   rw [EP.out]
   go_wp2
   go_loop [10] (fun iv => ∃ i : Nat, i <= l.length /\ iv = .int .i64 (i : Int) /\ Hid (freeC l key = freeD l p i (l.length - i))) (fun iv => l.length - (intOf iv).toNat)
   case atStart => exact ⟨0, by omega, rfl, HS.out⟩
   case round =>
    obtain ⟨i, hi2, rfl, hS⟩ := hrel
    by_cases hlt2 : i < l.length
    ·have k2 : (i : Int) < (l.length : Int) := by omega
     obtain ⟨q, hq⟩ : ∃ q, (p + i) % l.length = q := ⟨_, rfl⟩
     have hql : q < l.length := by rw [<- hq]; exact Nat.mod_lt _ (by omega)
     have eq : ((p : Int) + (i : Int)) % (l.length : Int) = (q : Int) := by
      rw [<- hq, show (p : Int) + (i : Int) = ((p + i : Nat) : Int) by omega]
      exact (Int.natCast_emod (p + i) l.length).symm
     have kq : (q : Int) < (l.length : Int) := by omega
     obtain ⟨g, hao, hg, hc⟩ := HA.out.at q hql
     have x0 := hc.1
     have hsd : Hid (freeC l key = if l[q].key.toList = [] then some q else freeD l p (i + 1) (l.length - (i + 1))) := by
      show freeC l key = _
      rw [hS.out, show l.length - i = (l.length - (i + 1)) + 1 by omega, freeD, hq, List.getElem?_eq_getElem hql]
     rw [hao]
     generalize l[q].key = ky at *
     clear hq hc hS
     by_cases d1 : ky.toList = []
     ·have b1 : ky.toList.isEmpty = true := by rw [d1]; rfl
      have HR := hI (show freeC l key = some q by rw [hsd.out, if_pos d1])
      clear hsd
      go_wp2
      go_ret2
      exact ⟨by rw [HR.out, <- HNN.out]; first | rfl | (show Ending.returned (.tuple #[.int .i64 _, _]) = _; rw [eq]; rfl), rfl⟩
     ·have b1 : ky.toList.isEmpty = false := by cases h : ky.toList with | nil => exact absurd h d1 | cons a b => rfl
      have HR := hI (show freeC l key = freeD l p (i + 1) (l.length - (i + 1)) by rw [hsd.out, if_neg d1])
      clear hsd
      go_wp2
      go_round
      case rel => exact ⟨i + 1, by omega, by go_num, HR⟩
      case measure => simp [intOf]; omega
    ·obtain rfl : i = l.length := by omega
     have HR := hI (show freeC l key = none by rw [hS.out, Nat.sub_self]; rfl)
     go_wp2
     go_ret2
     exact ⟨by rw [HR.out, <- HNN.out]; rfl, rfl⟩
def putC (l : List Ce) (key : ByteArray) (h : Int) : Option (List Ce) :=
 match freeC l key with
 | some k => match l[k]? with
  | some x => if qbI l l.length <= 1 /\ x.h = -1 then none else some (l.set k ⟨key, h⟩)
  | none => none
 | none => none
theorem specPut_any (g c base : Nat) (l : List Ce) (key : ByteArray) (h : Int) (w : World) (hl : l.length <= 1048576) (h1 : 1 <= l.length) (hk : key.size <= 1048576) (hown : w.ownsRow base 132 2 (.slice (some ⟨g, 0, none⟩) l.length c) l.length (ces l)) :
  Calls Tryz.prog 94 #[.slice (some ⟨g, 0, none⟩) l.length c, .string key, .int .i64 h] w fun e w' => ((∃ l', putC l key h = some l' /\ e = .returned (.bool true) /\ w'.ownsRow base 132 2 (.slice (some ⟨g, 0, none⟩) l.length c) l.length (ces l')) ∨ (putC l key h = none /\ e = .returned (.bool false) /\ w' = w)) /\ w.grownBy w' (some g) := by
 have CF := hI (specFree_any (some ⟨g, 0, none⟩) l c key w hl h1 hk (qdE hown))
 have HO := hI hown
 clear hown
 have n4 := noneN_le l l.length
 rcases hf : freeC l key with _ | k
 ·have HP := hI (show putC l key h = none by rw [putC, hf])
  rw [hf] at CF
  unfold qdH at CF
  clear hf
  go_enter Tryz.func94, Tryz.ntmps94
  go_wp2_with fail
  refine CF.out.mono ?_
  rintro e w1 ⟨rfl, rfl⟩
  go_wp2
  go_ret
  exact ⟨.inr ⟨HP.out, rfl, rfl⟩, World.grownBy.refl _ _⟩
 ·have hkl : k < l.length := freeD_lt _ _ _ hf
  have k1 : (k : Int) < (l.length : Int) := by omega
  have q0 : decide ((k : Int) < 0) = false := by simp
  have hpc : Hid (putC l key h = if qbI l l.length <= 1 /\ l[k].h = -1 then none else some (l.set k ⟨key, h⟩)) := by
   show putC l key h = _
   rw [putC, hf]
   simp only []
   rw [List.getElem?_eq_getElem hkl]
  have x0 : w.cell? ⟨g, k * 2, none⟩ = some (.string l[k].key) := (HO.out.cellAt (k * 2) (by omega)).trans (ces_at l k 0 hkl (by omega))
  have x1 : w.cell? ⟨g, k * 2 + 1, none⟩ = some (.int .i64 l[k].h) := (HO.out.cellAt (k * 2 + 1) (by omega)).trans (ces_at l k 1 hkl (by omega))
  have f0 := HO.out.frozenAt (k * 2)
  have f1 := HO.out.frozenAt (k * 2 + 1)
  have OS := hI (own_set2 HO.out rfl k hkl ⟨key, h⟩)
  rw [hf] at CF
  unfold qdH at CF
  generalize l[k].h = xh at *
  generalize qbI l l.length = nn at *
  have GS : Hid (w.grownBy ((w.setCell ⟨g, k * 2, none⟩ (.string key)).setCell ⟨g, k * 2 + 1, none⟩ (.int .i64 h)) (some g)) := qbF (qbF (World.grownBy.refl _ _) (k * 2) (.string key)) (k * 2 + 1) (.int .i64 h)
  clear hf
  by_cases e1 : nn <= 1
  ·have q1 : (nn : Int) <= 1 := by omega
   by_cases e2 : xh = -1
   ·have q2 : (xh == (-1 : Int)) = true := by simp [e2]
    have HP := hI (show putC l key h = none by rw [hpc.out, if_pos ⟨e1, e2⟩])
    clear e2 hpc
    go_enter Tryz.func94, Tryz.ntmps94
    go_wp2_with fail
    refine CF.out.mono ?_
    rintro e w1 ⟨rfl, rfl⟩
    go_wp2
    go_ret
    exact ⟨.inr ⟨HP.out, rfl, rfl⟩, World.grownBy.refl _ _⟩
   ·have q2 : (xh == (-1 : Int)) = false := by simp [e2]
    have HP := hI (show putC l key h = some (l.set k ⟨key, h⟩) by rw [hpc.out, if_neg (fun h => e2 h.2)])
    clear e2 hpc
    go_enter Tryz.func94, Tryz.ntmps94
    go_wp2_with fail
    refine CF.out.mono ?_
    rintro e w1 ⟨rfl, rfl⟩
    go_wp2
    go_ret
    exact ⟨.inl ⟨_, HP.out, rfl, OS.out⟩, GS.out⟩
  ·have q1 : decide ((nn : Int) <= 1) = false := decide_eq_false (by omega)
   have HP := hI (show putC l key h = some (l.set k ⟨key, h⟩) by rw [hpc.out, if_neg (fun h => e1 h.1)])
   clear hpc
   go_enter Tryz.func94, Tryz.ntmps94
   go_wp2_with fail
   refine CF.out.mono ?_
   rintro e w1 ⟨rfl, rfl⟩
   go_wp2
   go_ret
   exact ⟨.inl ⟨_, HP.out, rfl, OS.out⟩, GS.out⟩
def fitC (x : Ce) : Prop := (x.key.toList = [] /\ (x.h = -1 ∨ x.h = -2)) ∨ (x.key.toList ≠ [] /\ x.key.size <= 12 /\ 0 <= x.h)
def FitC (l : List Ce) : Prop := ∀ i (h : i < l.length), fitC l[i]
def qdV (l : List Ce) (key : ByteArray) (p : Nat) : Nat -> Nat -> Option Nat -> Option Nat × Option Nat
 | _, 0, f => (none, f)
 | i, d + 1, f => match l[(p + i) % l.length]? with
  | none => (none, f)
  | some x => if x.key.toList ≠ [] /\ x.key.toList = key.toList then (some ((p + i) % l.length), f)
   else if x.h = -1 then (none, if x.key.toList = [] /\ f = none then some ((p + i) % l.length) else f)
   else qdV l key p (i + 1) d (if x.key.toList = [] /\ f = none then some ((p + i) % l.length) else f)
def qaR (l : List Ce) (key : ByteArray) : Option Nat × Option Nat := qdV l key (qcN key 0 % l.length) 0 l.length none
theorem srchD_lt {l : List Ce} {key : ByteArray} {p : Nat} : ∀ (d i : Nat) (f : Option Nat) (k : Nat), (qdV l key p i d f).1 = some k -> k < l.length
 | 0, _, _, _, h => by cases h
 | d + 1, i, f, k, h => by
  rw [qdV] at h
  split at h
  ·cases h
  ·rename_i x hx
   split at h
   ·injection h with h; rw [<- h]; exact (List.getElem?_eq_some_iff.1 hx).1
   ·split at h
    ·cases h
    ·exact srchD_lt d (i + 1) _ k h
theorem srchD_free_lt {l : List Ce} {key : ByteArray} {p : Nat} (hl : 0 < l.length) : ∀ (d i : Nat) (f : Option Nat) (k : Nat), (∀ j, f = some j -> j < l.length) -> (qdV l key p i d f).2 = some k -> k < l.length
 | 0, _, _, _, hf, h => hf _ h
 | d + 1, i, f, k, hf, h => by
  have hf' : ∀ (x : Ce) j, (if x.key.toList = [] /\ f = none then some ((p + i) % l.length) else f) = some j -> j < l.length := by
   intro x j hj
   split at hj
   ·injection hj with hj; rw [<- hj]; exact Nat.mod_lt _ hl
   ·exact hf j hj
  rw [qdV] at h
  split at h
  ·exact hf _ h
  ·rename_i x hx
   split at h
   ·exact hf _ h
   ·split at h
    ·exact hf' x _ h
    ·exact srchD_free_lt hl d (i + 1) _ k (hf' x) h
theorem srchD_seek {l : List Ce} {key : ByteArray} {p : Nat} (hF : FitC l) (hk : key.toList ≠ []) : ∀ (d i : Nat) (f : Option Nat), (qdV l key p i d f).1 = qeW l key p i d
 | 0, _, _ => rfl
 | d + 1, i, f => by
  rw [qdV, qeW, stepS]
  cases hx : l[(p + i) % l.length]? with
  | none => rfl
  | some x =>
   have hfx : fitC x := by
    obtain ⟨h1, h2⟩ := List.getElem?_eq_some_iff.1 hx
    rw [<- h2]; exact hF _ h1
   simp only []
   by_cases e1 : x.key.toList = key.toList
   ·have hne : x.key.toList ≠ [] := by rw [e1]; exact hk
    rcases hfx with ⟨h, _⟩ | ⟨_, _, h⟩
    ·exact absurd h hne
    ·rw [if_pos ⟨hne, e1⟩, if_pos ⟨e1, h⟩]
   ·rw [if_neg (show ¬ (x.key.toList ≠ [] /\ x.key.toList = key.toList) from fun h => e1 h.2), if_neg (show ¬ (x.key.toList = key.toList /\ 0 <= x.h) from fun h => e1 h.1)]
    by_cases e2 : x.h = -1
    ·have hem : x.key.toList = [] := by
      rcases hfx with ⟨h, _⟩ | ⟨_, _, h⟩
      ·exact h
      ·omega
     rw [if_pos e2, if_pos (show x.key.toList = [] /\ x.h = -1 from ⟨hem, e2⟩)]
    ·rw [if_neg e2, if_neg (show ¬ (x.key.toList = [] /\ x.h = -1) from fun h => e2 h.2)]
     exact srchD_seek hF hk d (i + 1) _
theorem srchD_some {l : List Ce} {key : ByteArray} {p : Nat} (k : Nat) : ∀ (d i : Nat), (qdV l key p i d (some k)).2 = some k
 | 0, _ => rfl
 | d + 1, i => by
  rw [qdV]
  have e : ∀ x : Ce, (if x.key.toList = [] /\ some k = none then some ((p + i) % l.length) else some k) = some k := fun x => if_neg (fun h => by cases h.2)
  split
  ·rfl
  ·rename_i x hx
   split
   ·rfl
   ·rw [e]
    split
    ·rfl
    ·exact srchD_some k d (i + 1)
theorem srchD_free {l : List Ce} {key : ByteArray} {p : Nat} (hF : FitC l) : ∀ (d i : Nat), (qdV l key p i d none).1 = none -> (qdV l key p i d none).2 = freeD l p i d
 | 0, _, _ => rfl
 | d + 1, i, h => by
  rw [qdV] at h ⊢
  rw [freeD]
  cases hx : l[(p + i) % l.length]? with
  | none => rfl
  | some x =>
   rw [hx] at h
   have hfx : fitC x := by
    obtain ⟨h1, h2⟩ := List.getElem?_eq_some_iff.1 hx
    rw [<- h2]; exact hF _ h1
   simp only [] at h ⊢
   by_cases e1 : x.key.toList ≠ [] /\ x.key.toList = key.toList
   ·rw [if_pos e1] at h; cases h
   ·rw [if_neg e1] at h ⊢
    by_cases e0 : x.key.toList = []
    ·rw [if_pos e0, if_pos (show x.key.toList = [] /\ True from ⟨e0, trivial⟩)]
     by_cases e2 : x.h = -1
     ·rw [if_pos e2]
     ·rw [if_neg e2]; exact srchD_some _ d (i + 1)
    ·have e2 : ¬ x.h = -1 := by
      rcases hfx with ⟨h, _⟩ | ⟨_, _, h⟩
      ·exact absurd h e0
      ·omega
     rw [if_neg e2, if_neg (show ¬ (x.key.toList = [] /\ True) from fun h => e0 h.1)] at h ⊢
     rw [if_neg e0]
     exact srchD_free hF d (i + 1) h
theorem srchD_none {l : List Ce} {key : ByteArray} {p : Nat} (hk : key.toList = []) : ∀ (d i : Nat) (f : Option Nat), (qdV l key p i d f).1 = none
 | 0, _, _ => rfl
 | d + 1, i, f => by
  rw [qdV]
  split
  ·rfl
  ·rw [if_neg (fun h => h.1 (by rw [h.2]; exact hk))]
   split
   ·rfl
   ·exact srchD_none hk d (i + 1) _
theorem qaI {l : List Ce} {key : ByteArray} (hF : FitC l) (hk : key.toList ≠ []) : (qaR l key).1 = qbB l key := srchD_seek hF hk _ _ _
theorem srchC_free {l : List Ce} {key : ByteArray} (hF : FitC l) (h : (qaR l key).1 = none) : (qaR l key).2 = freeC l key := srchD_free hF _ _ h
theorem qeV {l : List Ce} {key : ByteArray} (hk : key.toList = []) : (qaR l key).1 = none := srchD_none hk _ _ _
theorem qfI {l : List Ce} {key : ByteArray} {k : Nat} (h : (qaR l key).1 = some k) : k < l.length := srchD_lt _ _ _ _ h
def cntN (l : List Ce) : Nat -> Nat
 | 0 => 0
 | i + 1 => cntN l i + (match l[i]? with | some x => if x.h = -1 then 1 else 0 | none => 0)
theorem cntN_noneN {l : List Ce} (hF : FitC l) : ∀ i, cntN l i = qbI l i
 | 0 => rfl
 | i + 1 => by
  rw [cntN, qbI, cntN_noneN hF i]
  congr 1
  cases hx : l[i]? with
  | none => rfl
  | some x =>
   have hfx : fitC x := by
    obtain ⟨h1, h2⟩ := List.getElem?_eq_some_iff.1 hx
    rw [<- h2]; exact hF _ h1
   simp only []
   by_cases e : x.h = -1
   ·rw [if_pos e, if_pos]
    refine ⟨?_, e⟩
    rcases hfx with ⟨h, _⟩ | ⟨_, _, h⟩
    ·exact h
    ·omega
   ·rw [if_neg e, if_neg (fun h => e h.2)]
theorem noneN_pos {l : List Ce} : ∀ (n i : Nat) (h : i < l.length), i < n -> qbM l[i] -> 0 < qbI l n
 | 0, _, _, hn, _ => by omega
 | n + 1, i, h, hn, hx => by
  rw [qbI]
  by_cases e : i = n
  ·subst e
   rw [List.getElem?_eq_getElem h]
   simp only []
   rw [if_pos (show l[i].key.toList = [] /\ l[i].h = -1 from hx)]
   omega
  ·have := noneN_pos n i h (by omega) hx
   omega
theorem noneN_has {l : List Ce} : ∀ (n : Nat), 0 < qbI l n -> ∃ i, ∃ h : i < l.length, qbM l[i]
 | 0, h => by cases h
 | n + 1, h => by
  rw [qbI] at h
  by_cases e : 0 < qbI l n
  ·exact noneN_has n e
  ·cases hx : l[n]? with
   | none => rw [hx] at h; simp only [] at h; omega
   | some x =>
    rw [hx] at h
    simp only [] at h
    obtain ⟨h1, h2⟩ := List.getElem?_eq_some_iff.1 hx
    by_cases e2 : x.key.toList = [] /\ x.h = -1
    ·exact ⟨n, h1, by rw [h2]; exact e2⟩
    ·rw [if_neg e2] at h; omega
theorem noneN_need {l : List Ce} : 0 < qbI l l.length ↔ ∃ i, ∃ h : i < l.length, qbM l[i] :=
 ⟨noneN_has _, fun ⟨i, h, hx⟩ => noneN_pos _ i h h hx⟩
def Found (l : List Ce) : Prop := ∀ i (h : i < l.length), l[i].key.toList ≠ [] -> (qaR l l[i].key).1 = some i
theorem qeZ {l : List Ce} : (∀ i (h : i < l.length), okC l i l[i]) ↔ FitC l /\ Found l := by
 constructor
 ·intro h
  have hF : FitC l := fun i hi => by
   obtain ⟨h1, h2⟩ := h i hi
   by_cases e : l[i].key.toList = []
   ·exact .inl ⟨e, h1 e⟩
   ·exact .inr ⟨e, (h2 e).1, (h2 e).2.1⟩
  exact ⟨hF, fun i hi e => by rw [qaI hF e]; exact ((h i hi).2 e).2.2⟩
 ·rintro ⟨hF, hO⟩ i hi
  refine ⟨fun e => ?_, fun e => ?_⟩
  ·rcases hF i hi with ⟨_, h⟩ | ⟨h, _⟩
   ·exact h
   ·exact absurd e h
  ·rcases hF i hi with ⟨h, _⟩ | ⟨_, h1, h2⟩
   ·exact absurd h e
   ·exact ⟨h1, h2, by rw [<- qaI hF e]; exact hO i hi e⟩
structure OkI (l o : List Ce) (mv : Nat) : Prop where
 f1 : FitC l
 f2 : FitC o
 none : 0 < cntN l l.length
 gone : ∀ i (h : i < o.length), i < mv -> o[i].h = -2
 s1 : Found l
 s2 : Found o
 apart : ∀ i (h : i < o.length), (qaR l o[i].key).1 = Option.none
theorem okT_iff {l o : List Ce} {mv : Nat} (hs : l.length = 4 ∨ l.length = 8 ∨ l.length = 16 ∨ l.length = 32 ∨ l.length = 64) (hh : o.length = 0 ∨ 2 * o.length = l.length) (hm : mv <= o.length) : OkT l o (mv : Int) ↔ OkI l o mv := by
 constructor
 ·intro h
  obtain ⟨f1, s1⟩ := qeZ.1 h.cells.1
  obtain ⟨f2, s2⟩ := qeZ.1 h.olds.1
  refine ⟨f1, f2, by rw [cntN_noneN f1]; exact noneN_need.2 (h.cells.2 rfl), fun i hi hlt => ((h.old i hi).1 (by omega)).2, s1, s2, fun i hi => ?_⟩
  by_cases e : o[i].key.toList = []
  ·exact qeV e
  ·rw [qaI f1 e]; exact (h.old i hi).2 e
 ·intro h
  refine ⟨hs, hh, ⟨by omega, by omega⟩, ⟨qeZ.2 ⟨h.f1, h.s1⟩, fun _ => noneN_need.1 (by rw [<- cntN_noneN h.f1]; exact h.none)⟩, ⟨qeZ.2 ⟨h.f2, h.s2⟩, fun e => by cases e⟩, fun i hi => ⟨fun hlt => ?_, fun e => ?_⟩⟩
  ·have hg := h.gone i hi (by omega)
   refine ⟨?_, hg⟩
   rcases h.f2 i hi with ⟨h1, _⟩ | ⟨_, _, h1⟩
   ·exact h1
   ·omega
  ·rw [<- qaI h.f1 e]; exact h.apart i hi
theorem putC_srch {l : List Ce} {key : ByteArray} (hF : FitC l) (h0 : (qaR l key).1 = none) (h : Int) :
  putC l key h = match (qaR l key).2 with
   | none => none
   | some k => match l[k]? with
    | some x => if x.h = -1 /\ cntN l l.length = 1 then none else some (l.set k ⟨key, h⟩)
    | none => none := by
 rw [putC, <- srchC_free hF h0]
 cases (qaR l key).2 with
 | none => rfl
 | some k =>
  simp only []
  cases hx : l[k]? with
  | none => rfl
  | some x =>
   simp only []
   rw [cntN_noneN hF]
   by_cases e : x.h = -1
   ·obtain ⟨h1, h2⟩ := List.getElem?_eq_some_iff.1 hx
    have hem : qbM l[k] := by
     rcases hF k h1 with ⟨h, _⟩ | ⟨_, _, h⟩
     ·exact ⟨h, by rw [h2]; exact e⟩
     ·rw [h2] at h; omega
    have hp := noneN_pos _ k h1 h1 hem
    by_cases e2 : qbI l l.length = 1
    ·rw [if_pos ⟨by omega, e⟩, if_pos ⟨e, e2⟩]
    ·rw [if_neg (fun h => by omega), if_neg (fun h => e2 h.2)]
   ·rw [if_neg (fun h => e h.2), if_neg (fun h => e h.1)]
end Go.Proofs.YtigpjmmfelndkaaGreatDoor
