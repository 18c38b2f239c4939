import Derived.Deep.Cut
import Derived.Test.YtigpjmmfelndkaaGreatDoorLXHH
import Derived.Test.YtigpjmmfelndkaaGreatDoorLXC
namespace Go.Proofs.YtigpjmmfelndkaaGreatDoor
open Go.RowKit
set_option maxRecDepth 100000
set_option maxHeartbeats 2000000
def qkG (l : List Ce) (key : ByteArray) (p : Nat) : Option (Option Nat) :=
 match l[p]? with
 | some x => if x.key.toList = key.toList /\ 0 <= x.h then some (some p) else if x.key.toList = [] /\ x.h = -1 then some none else none
 | none => some none
def qeU (l : List Ce) (key : ByteArray) (p : Nat) : Nat -> Nat -> Option Nat
 | _, 0 => none
 | i, d + 1 => match qkG l key ((p + i) % l.length) with
  | some r => r
  | none => qeU l key p (i + 1) d
def qaZ (l : List Ce) (key : ByteArray) : Option Nat := qeU l key (qcK key 0 % l.length) 0 l.length
def qdC : Option Nat -> Int
 | none => -1
 | some k => (k : Int)
theorem qdT {l : List Ce} {key : ByteArray} {p : Nat} : ∀ (d i k : Nat), qeU l key p i d = some k -> k < l.length
 | 0, _, _, h => by cases h
 | d + 1, i, k, h => by
  rw [qeU] at h
  have hs : ∀ r, qkG l key ((p + i) % l.length) = some (some r) -> r < l.length := by
   intro r hr
   unfold qkG at hr
   split at hr
   ·rename_i x hx
    split at hr
    ·injection hr with hr; injection hr with hr; rw [<- hr]; exact (List.getElem?_eq_some_iff.1 hx).1
    ·split at hr <;> cases hr
   ·cases hr
  split at h
  ·rename_i r hr; subst h; exact hs k hr
  ·exact qdT d (i + 1) k h
theorem qtD (n : Nat) (w : World) : Calls Tryz.prog 121 #[.int .i64 (n : Int)] w fun e w' => ∃ x : Bool, e = .returned (.bool x) /\ (x = true ↔ n = 4 ∨ n = 8 ∨ n = 16 ∨ n = 32 ∨ n = 64) /\ w = w' := by
 by_cases c1 : n = 4
 ·subst c1
  go_enter Tryz.func121, Tryz.ntmps121
  go_wp2
  go_ret
  first | exact ⟨true, rfl, by simp, rfl⟩ | exact .inr ⟨rfl, by simp, rfl⟩
 ·by_cases c2 : n = 8
  ·subst c2
   go_enter Tryz.func121, Tryz.ntmps121
   go_wp2
   go_ret
   exact ⟨true, rfl, by simp, rfl⟩
  ·by_cases c3 : n = 16
   ·subst c3
    go_enter Tryz.func121, Tryz.ntmps121
    go_wp2
    go_ret
    exact ⟨true, rfl, by simp, rfl⟩
   ·by_cases c4 : n = 32
    ·subst c4
     go_enter Tryz.func121, Tryz.ntmps121
     go_wp2
     go_ret
     exact ⟨true, rfl, by simp, rfl⟩
    ·by_cases c5 : n = 64
     ·subst c5
      go_enter Tryz.func121, Tryz.ntmps121
      go_wp2
      go_ret
      exact ⟨true, rfl, by simp, rfl⟩
     ·have q1 : ((n : Int) == 4) = false := by simp; omega
      have q2 : ((n : Int) == 8) = false := by simp; omega
      have q3 : ((n : Int) == 16) = false := by simp; omega
      have q4 : ((n : Int) == 32) = false := by simp; omega
      have q5 : ((n : Int) == 64) = false := by simp; omega
      have HN := hI (show ¬ (n = 4 ∨ n = 8 ∨ n = 16 ∨ n = 32 ∨ n = 64) by omega)
      clear c1 c2 c3 c4 c5
      go_enter Tryz.func121, Tryz.ntmps121
      go_wp2
      go_ret
      first | exact ⟨false, rfl, ⟨(fun h => by cases h), fun h => absurd h HN.out⟩, rfl⟩ | exact .inl ⟨rfl, HN.out, rfl⟩
theorem qbR (ao : Option Addr) (l : List Ce) (ca : Nat) (key : ByteArray) (w : World) (hl : l.length <= 1048576) (hk : key.size <= 1048576) (hA : RdC w ao l) :
  Calls Tryz.prog 91 #[.slice ao l.length ca, .string key] w fun e w' => e = .returned (.int .i64 (qdC (qaZ l key))) /\ Below w.heap.size w w' := by
 by_cases c0 : l.length = 0
 ·have q0 : ((l.length : Int) == 0) = true := by simp [c0]
  have HE := hI (show qaZ l key = none by rw [qaZ, c0]; rfl)
  clear hA c0
  go_enter Tryz.func91, Tryz.ntmps91
  go_wp2
  go_ret
  exact ⟨by rw [HE.out]; rfl, Below.refl _ _⟩
 ·have q0 : ((l.length : Int) == 0) = false := by simp; intro h; exact c0 (by rw [h]; rfl)
  have hn1 : 1 <= l.length := by omega
  have CH := hI (qeJ key 0 w hk (by omega) (by omega))
  obtain ⟨hn, hhn⟩ : ∃ hn, qcK key 0 = hn := ⟨_, rfl⟩
  have hh4 : hn < 4294967296 := by rw [<- hhn]; exact qfK key 0
  obtain ⟨p, hp⟩ : ∃ p, hn % l.length = p := ⟨_, rfl⟩
  have hpl : p < l.length := by rw [<- hp]; exact Nat.mod_lt _ (by omega)
  have ep : (hn : Int) % (l.length : Int) = (p : Int) := by rw [<- hp]; first | exact (Int.natCast_emod hn l.length).symm | exact (Int.ofNat_emod hn l.length).symm | (push_cast; rfl)
  have HS := hI (show qaZ l key = qeU l key p 0 l.length by rw [qaZ, hhn, hp])
  rw [hhn] at CH
  have HA := hI hA
  have q1 : ¬ (l.length : Int) = 0 := by omega
  have EP := hI ep
  clear hA hhn hp c0 ep
  go_enter Tryz.func91, Tryz.ntmps91
  go_wp2_with fail
  refine CH.out.mono ?_
  rintro e w1 ⟨rfl, rfl⟩
  go_upto_region 5 with fail
  rw [EP.out]
  go_wp2
  go_loopw [7] (fun iv wr => ∃ i : Nat, i <= l.length /\ iv = .int .i64 (i : Int) /\ Hid (qaZ l key = qeU l key p i (l.length - i)) /\ Hid (Below w.heap.size w wr)) (fun iv _ => l.length - (intOf iv).toNat)
  case atStart => exact ⟨0, by omega, rfl, HS.out, Below.refl _ _⟩
  case round =>
   obtain ⟨i, hi, rfl, hS, hbel⟩ := hrel
   by_cases hlt : i < l.length
   ·have k1 : (i : Int) < (l.length : Int) := by omega
    obtain ⟨q, hq⟩ : ∃ q, (p + i) % l.length = q := ⟨_, rfl⟩
    have hql : q < l.length := by rw [<- hq]; exact Nat.mod_lt _ (by omega)
    have eq : ((p : Int) + (i : Int)) % (l.length : Int) = (q : Int) := by
     rw [<- hq, show (p : Int) + (i : Int) = ((p + i : Nat) : Int) by omega]
     first | exact (Int.natCast_emod (p + i) l.length).symm | exact (Int.ofNat_emod (p + i) l.length).symm
    have kq : (q : Int) < (l.length : Int) := by omega
    obtain ⟨g, rfl, hg, h1⟩ := HA.out.at q hql
    obtain ⟨x0, x1⟩ := h1.below hbel.out hg
    have hst : Hid (qkG l key q = if l[q].key.toList = key.toList /\ 0 <= l[q].h then some (some q) else if l[q].key.toList = [] /\ l[q].h = -1 then some none else none) := by
     show qkG l key q = _
     unfold qkG
     rw [List.getElem?_eq_getElem hql]
    have hsd : Hid (qaZ l key = match qkG l key q with | some r => r | none => qeU l key p (i + 1) (l.length - (i + 1))) := by
     show qaZ l key = _
     rw [hS.out, show l.length - i = (l.length - (i + 1)) + 1 by omega, qeU, hq]
    generalize l[q] = s at *
    obtain ⟨ky, hh⟩ := s
    simp only at x0 x1 hst
    have BX : Hid (Below w.heap.size w (wr.alloc (.cells #[.string ky, .int .i64 hh] 132))) := hbel.out.alloc hbel.out.size _
    have NN : Hid ((wr.alloc (.cells #[.string ky, .int .i64 hh] 132)).cell? ⟨wr.heap.size, 0, none⟩ = some (.string ky) /\ (wr.alloc (.cells #[.string ky, .int .i64 hh] 132)).cell? ⟨wr.heap.size, 1, none⟩ = some (.int .i64 hh)) := ⟨World.cell?_alloc_at _ _ _ _ rfl, World.cell?_alloc_at _ _ _ _ rfl⟩
    clear hq h1 hS
    go_upto_region 9 with fail
    generalize (wr.alloc (.cells #[.string ky, .int .i64 hh] 132)) = wv at NN BX ⊢
    obtain ⟨n0, n1⟩ := NN.out
    clear NN x0 x1 hbel
    by_cases d1 : ky.toList = key.toList
    ·have b1 : (ky.toList == key.toList) = true := by simp [d1]
     by_cases d2 : 0 <= hh
     ·have b2 : decide (0 <= hh) = true := decide_eq_true d2
      have HR := hI (show qaZ l key = some q by rw [hsd.out, hst.out, if_pos ⟨d1, d2⟩])
      clear d1 hst hsd
      go_wp2
      go_ret
      exact ⟨by rw [HR.out]; first | rfl | (show Ending.returned (.int .i64 _) = _; rw [eq]; rfl), BX.out⟩
     ·have b2 : decide (0 <= hh) = false := decide_eq_false d2
      have HNO : Hid (¬ (ky.toList = key.toList /\ 0 <= hh)) := fun h => d2 h.2
      clear d1 d2
      go_upto_region 11 with fail
      clear b1 b2
      by_cases d3 : ky.toList = []
      ·have b3 : ky.toList.isEmpty = true := by rw [d3]; rfl
       by_cases d4 : hh = -1
       ·have b4 : (hh == (-1 : Int)) = true := by simp [d4]
        have HR := hI (show qaZ l key = none by rw [hsd.out, hst.out, if_neg HNO.out, if_pos ⟨d3, d4⟩])
        clear hst hsd HNO d4
        go_wp2
        go_ret
        exact ⟨by rw [HR.out]; rfl, BX.out⟩
       ·have b4 : (hh == (-1 : Int)) = false := by simp [d4]
        have HR := hI (show qaZ l key = qeU l key p (i + 1) (l.length - (i + 1)) by rw [hsd.out, hst.out, if_neg HNO.out, if_neg (fun h => d4 h.2)])
        clear hst hsd HNO d4
        go_wp2
        go_roundw
        case rel => exact ⟨i + 1, by omega, by go_num, HR, BX⟩
        case measure => simp [intOf]; omega
      ·have b3 : ky.toList.isEmpty = false := by cases h : ky.toList with | nil => exact absurd h d3 | cons a b => rfl
       have HR := hI (show qaZ l key = qeU l key p (i + 1) (l.length - (i + 1)) by rw [hsd.out, hst.out, if_neg HNO.out, if_neg (fun h => d3 h.1)])
       clear hst hsd HNO
       go_wp2
       go_roundw
       case rel => exact ⟨i + 1, by omega, by go_num, HR, BX⟩
       case measure => simp [intOf]; omega
    ·have b1 : (ky.toList == key.toList) = false := by simp [d1]
     have HNO : Hid (¬ (ky.toList = key.toList /\ 0 <= hh)) := fun h => d1 h.1
     clear d1
     go_upto_region 11 with fail
     clear b1
     by_cases d3 : ky.toList = []
     ·have b3 : ky.toList.isEmpty = true := by rw [d3]; rfl
      by_cases d4 : hh = -1
      ·have b4 : (hh == (-1 : Int)) = true := by simp [d4]
       have HR := hI (show qaZ l key = none by rw [hsd.out, hst.out, if_neg HNO.out, if_pos ⟨d3, d4⟩])
       clear hst hsd HNO d4
       go_wp2
       go_ret
       exact ⟨by rw [HR.out]; rfl, BX.out⟩
      ·have b4 : (hh == (-1 : Int)) = false := by simp [d4]
       have HR := hI (show qaZ l key = qeU l key p (i + 1) (l.length - (i + 1)) by rw [hsd.out, hst.out, if_neg HNO.out, if_neg (fun h => d4 h.2)])
       clear hst hsd HNO d4
       go_wp2
       go_roundw
       case rel => exact ⟨i + 1, by omega, by go_num, HR, BX⟩
       case measure => simp [intOf]; omega
     ·have b3 : ky.toList.isEmpty = false := by cases h : ky.toList with | nil => exact absurd h d3 | cons a b => rfl
      have HR := hI (show qaZ l key = qeU l key p (i + 1) (l.length - (i + 1)) by rw [hsd.out, hst.out, if_neg HNO.out, if_neg (fun h => d3 h.1)])
      clear hst hsd HNO
      go_wp2
      go_roundw
      case rel => exact ⟨i + 1, by omega, by go_num, HR, BX⟩
      case measure => simp [intOf]; omega
   ·obtain rfl : i = l.length := by omega
    have k1 : decide ((l.length : Int) < (l.length : Int)) = false := by simp
    have HR := hI (show qaZ l key = none by rw [hS.out, Nat.sub_self]; rfl)
    go_wp2
    go_ret
    exact ⟨by rw [HR.out]; rfl, hbel.out⟩
def qbL (x : Ce) : Prop := x.key.toList = [] /\ x.h = -1
def okC (l : List Ce) (i : Nat) (x : Ce) : Prop := (x.key.toList = [] -> x.h = -1 ∨ x.h = -2) /\ (x.key.toList ≠ [] -> x.key.size <= 12 /\ 0 <= x.h /\ qaZ l x.key = some i)
def qnK (l : List Ce) (need : Bool) : Prop := (∀ i (h : i < l.length), okC l i l[i]) /\ (need = true -> ∃ i, ∃ h : i < l.length, qbL l[i])
theorem qhN (ao : Option Addr) (l : List Ce) (ca : Nat) (need : Bool) (w : World) (hl : l.length <= 1048576) (hA : RdC w ao l) :
  Calls Tryz.prog 151 #[.slice ao l.length ca, .bool need] w fun e w' => ∃ x : Bool, e = .returned (.bool x) /\ (x = true ↔ qnK l need) /\ Below w.heap.size w w' := by
 have CS := hI (fun w' (hb : Below w.heap.size w w') (key : ByteArray) (hk : key.size <= 1048576) => qbR ao l ca key w' hl hk (hA.later hb))
 have HA := hI hA
 clear hA
 go_enter Tryz.func151, Tryz.ntmps151
 go_wp2
 go_loopw [5, 6] (fun nv iv wr => ∃ (i : Nat) (nb : Bool), i <= l.length /\ iv = .int .i64 (i : Int) /\ nv = .bool nb /\ Hid (∀ j (h : j < l.length), j < i -> okC l j l[j]) /\ Hid (nb = true ↔ need = false ∨ ∃ j, ∃ h : j < l.length, j < i /\ qbL l[j]) /\ Hid (Below w.heap.size w wr)) (fun _ iv _ => l.length - (intOf iv).toNat)
 case atStart => exact ⟨0, !need, by omega, rfl, by first | rfl | (cases need <;> rfl), fun j _ h => by omega, by
  show (!need) = true ↔ _
  cases need
  ·simp
  ·simp, Below.refl _ _⟩
 case round =>
  obtain ⟨i, nb, hi, rfl, rfl, hok, hnb, hbel⟩ := hrel
  by_cases hlt : i < l.length
  ·have k1 : (i : Int) < (l.length : Int) := by omega
   obtain ⟨g, hao, hg, h1⟩ := HA.out.at i hlt
   obtain ⟨x0, x1⟩ := h1.below hbel.out hg
   have hno := hI (fun (h : ¬ okC l i l[i]) (hr : qnK l need) => h (hr.1 i hlt))
   have hyes := hI (fun (h : okC l i l[i]) j (hj : j < l.length) (hj2 : j < i + 1) => show okC l j l[j] by
    by_cases e : j < i
    ·exact hok.out j hj e
    ·obtain rfl : j = i := by omega
     exact h)
   have hnx := hI (show (∃ j, ∃ h : j < l.length, j < i + 1 /\ qbL l[j]) ↔ (∃ j, ∃ h : j < l.length, j < i /\ qbL l[j]) ∨ qbL l[i] from by
    constructor
    ·rintro ⟨j, hj, h2, h3⟩
     by_cases e : j < i
     ·exact .inl ⟨j, hj, e, h3⟩
     ·obtain rfl : j = i := by omega
      exact .inr h3
    ·rintro (⟨j, hj, h2, h3⟩ | h3)
     ·exact ⟨j, hj, by omega, h3⟩
     ·exact ⟨i, hlt, by omega, h3⟩)
   generalize l[i] = s at *
   obtain ⟨ky, hh⟩ := s
   simp only [okC] at x0 x1 hno hyes
   have BX : Hid (Below w.heap.size w (wr.alloc (.cells #[.string ky, .int .i64 hh] 132))) := hbel.out.alloc hbel.out.size _
   have NN : Hid ((wr.alloc (.cells #[.string ky, .int .i64 hh] 132)).cell? ⟨wr.heap.size, 0, none⟩ = some (.string ky) /\ (wr.alloc (.cells #[.string ky, .int .i64 hh] 132)).cell? ⟨wr.heap.size, 1, none⟩ = some (.int .i64 hh)) := ⟨World.cell?_alloc_at _ _ _ _ rfl, World.cell?_alloc_at _ _ _ _ rfl⟩
   have HAO := hI hao
   rw [hao]
   clear h1 hok hao
   go_upto_region 6 with fail
   generalize (wr.alloc (.cells #[.string ky, .int .i64 hh] 132)) = wv at NN BX ⊢
   obtain ⟨n0, n1⟩ := NN.out
   clear NN x0 x1 hbel
   by_cases d1 : ky.toList = []
   ·have b1 : ky.toList.isEmpty = true := by rw [d1]; rfl
    by_cases e1 : hh = -1
    ·have q1 : (hh != (-1 : Int)) = false := by simp [e1]
     have q2 : (hh == (-1 : Int)) = true := by simp [e1]
     have HY := hI (hyes.out ⟨fun _ => .inl e1, fun h => absurd d1 h⟩)
     have HB : Hid ((true : Bool) = true ↔ need = false ∨ ∃ j, ∃ h : j < l.length, j < i + 1 /\ qbL l[j]) := ⟨fun _ => .inr (hnx.out.2 (.inr ⟨d1, e1⟩)), fun _ => rfl⟩
     clear e1 hyes hno hnx
     rcases nb with _ | _
     ·go_wp2
      go_roundw
      case rel => exact ⟨i + 1, true, by omega, by go_num, rfl, HY, HB, BX⟩
      case measure => simp [intOf]; omega
     ·go_wp2
      go_roundw
      case rel => exact ⟨i + 1, true, by omega, by go_num, rfl, HY, HB, BX⟩
      case measure => simp [intOf]; omega
    ·have q1 : (hh != (-1 : Int)) = true := by simp [e1]
     have q2 : (hh == (-1 : Int)) = false := by simp [e1]
     by_cases e2 : hh = -2
     ·have q3 : (hh != (-2 : Int)) = false := by simp [e2]
      have HY := hI (hyes.out ⟨fun _ => .inr e2, fun h => absurd d1 h⟩)
      have HB : Hid (nb = true ↔ need = false ∨ ∃ j, ∃ h : j < l.length, j < i + 1 /\ qbL l[j]) := by
       show nb = true ↔ _
       rw [hnx.out, hnb.out]
       constructor
       ·rintro (h | h)
        ·exact .inl h
        ·exact .inr (.inl h)
       ·rintro (h | h | h)
        ·exact .inl h
        ·exact .inr h
        ·exact absurd h.2 e1
      clear e1 e2 hyes hno hnx
      rcases nb with _ | _
      ·go_wp2
       go_roundw
       case rel => exact ⟨i + 1, false, by omega, by go_num, rfl, HY, HB, BX⟩
       case measure => simp [intOf]; omega
      ·go_wp2
       go_roundw
       case rel => exact ⟨i + 1, true, by omega, by go_num, rfl, HY, HB, BX⟩
       case measure => simp [intOf]; omega
     ·have q3 : (hh != (-2 : Int)) = true := by simp [e2]
      have HN := hI (hno.out (fun h => by rcases h.1 d1 with h | h <;> contradiction))
      clear e1 e2 hyes hno hnx
      go_wp2
      go_ret
      exact ⟨false, rfl, ⟨(fun h => by cases h), fun h => absurd h HN.out⟩, BX.out⟩
   ·have b1 : ky.toList.isEmpty = false := by cases h : ky.toList with | nil => exact absurd h d1 | cons a b => rfl
    have HB : Hid (nb = true ↔ need = false ∨ ∃ j, ∃ h : j < l.length, j < i + 1 /\ qbL l[j]) := by
     show nb = true ↔ _
     rw [hnx.out, hnb.out]
     constructor
     ·rintro (h | h)
      ·exact .inl h
      ·exact .inr (.inl h)
     ·rintro (h | h | h)
      ·exact .inl h
      ·exact .inr h
      ·exact absurd h.1 d1
    by_cases e1 : ky.size <= 12
    ·have q1 : decide ((12 : Int) < (ky.size : Int)) = false := decide_eq_false (by omega)
     by_cases e2 : hh < 0
     ·have q2 : decide (hh < 0) = true := decide_eq_true e2
      have HN := hI (hno.out (fun h => by have := (h.2 d1).2.1; omega))
      clear e2 hyes hno hnx
      go_wp2
      go_ret
      exact ⟨false, rfl, ⟨(fun h => by cases h), fun h => absurd h HN.out⟩, BX.out⟩
     ·have q2 : decide (hh < 0) = false := decide_eq_false e2
      have CK := hI (CS.out wv BX.out ky (by omega))
      rw [HAO.out] at CK
      by_cases e3 : qaZ l ky = some i
      ·have HY := hI (hyes.out ⟨fun h => absurd h d1, fun _ => ⟨e1, by omega, e3⟩⟩)
       rw [e3] at CK
       have q3 : ((i : Int) != (i : Int)) = false := by simp
       unfold qdC at CK
       clear e2 e3 hyes hno hnx
       go_wp2_with fail
       refine CK.out.mono ?_
       rintro e w5 ⟨rfl, hb5⟩
       have B5 := tRn BX hb5
       clear hb5
       go_wp2
       go_roundw
       case rel => exact ⟨i + 1, nb, by omega, by go_num, rfl, HY, HB, B5⟩
       case measure => simp [intOf]; omega
      ·have HN := hI (hno.out (fun h => e3 (h.2 d1).2.2))
       have q3 : (qdC (qaZ l ky) != (i : Int)) = true := by
        cases h : qaZ l ky with
        | none => simp [qdC]
        | some k => simp [qdC]; intro e; exact e3 (by rw [h]; congr 1; omega)
       generalize qdC (qaZ l ky) = ov at *
       clear e2 e3 hyes hno hnx
       go_wp2_with fail
       refine CK.out.mono ?_
       rintro e w5 ⟨rfl, hb5⟩
       have B5 := tRn BX hb5
       clear hb5
       go_wp2
       go_ret
       exact ⟨false, rfl, ⟨(fun h => by cases h), fun h => absurd h HN.out⟩, B5.out⟩
    ·have q1 : decide ((12 : Int) < (ky.size : Int)) = true := decide_eq_true (by omega)
     have HN := hI (hno.out (fun h => e1 (h.2 d1).1))
     clear e1 hyes hno hnx
     go_wp2
     go_ret
     exact ⟨false, rfl, ⟨(fun h => by cases h), fun h => absurd h HN.out⟩, BX.out⟩
  ·obtain rfl : i = l.length := by omega
   have k1 : decide ((l.length : Int) < (l.length : Int)) = false := by simp
   have HE : Hid (nb = true ↔ qnK l need) := by
    show nb = true ↔ qnK l need
    rw [hnb.out]
    constructor
    ·intro h
     refine ⟨fun j hj => hok.out j hj hj, fun hn => ?_⟩
     rcases h with h | ⟨j, hj, _, hx⟩
     ·rw [hn] at h; cases h
     ·exact ⟨j, hj, hx⟩
    ·intro h
     cases need
     ·exact .inl rfl
     ·obtain ⟨j, hj, hx⟩ := h.2 rfl
      exact .inr ⟨j, hj, hj, hx⟩
   go_wp2
   go_ret
   exact ⟨nb, rfl, HE.out, hbel.out⟩
def qlK (l : List Ce) (mv : Int) (i : Nat) (x : Ce) : Prop := ((i : Int) < mv -> x.key.toList = [] /\ x.h = -2) /\ (x.key.toList ≠ [] -> qaZ l x.key = none)
structure OkT (l o : List Ce) (mv : Int) : Prop where
 size : l.length = 4 ∨ l.length = 8 ∨ l.length = 16 ∨ l.length = 32 ∨ l.length = 64
 half : o.length = 0 ∨ 2 * o.length = l.length
 moved : 0 <= mv /\ mv <= (o.length : Int)
 cells : qnK l true
 olds : qnK o false
 old : ∀ i (h : i < o.length), qlK l mv i o[i]
theorem qcX (ao a' : Option Addr) (l o : List Ce) (ca ca' : Nat) (mv : Int) (w : World) (hl : l.length <= 1048576) (hl' : o.length <= 1048576) (hA : RdC w ao l) (hA' : RdC w a' o) :
  Calls Tryz.prog 90 #[tbV ao l.length ca a' o.length ca' mv] w fun e w' => ∃ x : Bool, e = .returned (.bool x) /\ (x = true ↔ OkT l o mv) /\ Below w.heap.size w w' := by
 have CZ := hI (fun w => qtD l.length w)
 have CI := hI (fun w => qdP mv 0 (o.length : Int) w)
 have CR := hI (fun w' (hb : Below w.heap.size w w') => qhN ao l ca true w' hl (hA.later hb))
 have CO := hI (fun w' (hb : Below w.heap.size w w') => qhN a' o ca' false w' hl' (hA'.later hb))
 have CS := hI (fun w' (hb : Below w.heap.size w w') (key : ByteArray) (hk : key.size <= 1048576) => qbR ao l ca key w' hl hk (hA.later hb))
 have HA' := hI hA'
 have F0 : Hid (Blk (w.alloc (.cells #[.slice ao l.length ca, .slice a' o.length ca', .int .i64 mv] 29)) w.heap.size 29 [.slice ao l.length ca, .slice a' o.length ca', .int .i64 mv] /\ Below w.heap.size w (w.alloc (.cells #[.slice ao l.length ca, .slice a' o.length ca', .int .i64 mv] 29))) := ⟨Blk.new w _ _, bAl _ _⟩
 clear hA hA'
 unfold tbV
 go_enter Tryz.func90, Tryz.ntmps90
 go_wp2_with fail
 generalize (w.alloc (.cells #[.slice ao l.length ca, .slice a' o.length ca', .int .i64 mv] 29)) = w0 at F0 ⊢
 obtain ⟨K0, B0⟩ := F0.out
 have v0 : w0.cell? ⟨w.heap.size, 0, none⟩ = _ := cRn (K0.cell 0) rfl
 have v1 : w0.cell? ⟨w.heap.size, 1, none⟩ = _ := cRn (K0.cell 1) rfl
 have v2 : w0.cell? ⟨w.heap.size, 2, none⟩ = _ := cRn (K0.cell 2) rfl
 have K0 := hI K0
 have B0 := hI B0
 clear F0
 refine (CZ.out w0).mono ?_
 rintro e w1 ⟨x, rfl, hx, rfl⟩
 have HX := hI hx
 clear hx CZ
 rcases x with _ | _
 ·have HN := hI (show ¬ OkT l o mv from fun h => by have := HX.out.2 h.size; cases this)
  go_wp2
  go_ret
  exact ⟨false, rfl, ⟨(fun h => by cases h), fun h => absurd h HN.out⟩, B0.out⟩
 ·have HSZ := hI (HX.out.1 rfl)
  clear HX
  by_cases c2 : o.length = 0 ∨ 2 * o.length = l.length
  ·by_cases c3 : 0 <= mv /\ mv <= (o.length : Int)
   ·have HC2 := hI c2
    have HC3 := hI c3
    rw [show (decide ((0 : Int) <= mv) && decide (mv <= (o.length : Int))) = true by simp; omega] at CI
    have hgo : Hid (((o.length : Int) != 0) = false ∨ (((o.length : Int) != 0) = true /\ (2 * (o.length : Int) != (l.length : Int)) = false)) := by
     show _ ∨ _
     rcases c2 with h | h
     ·left; simp [h]
     ·by_cases h0 : o.length = 0
      ·left; simp [h0]
      ·right; constructor
       ·simp; intro e; exact h0 (by rw [e]; rfl)
       ·simp; omega
    clear c2 c3
    rcases hgo.out with g1 | ⟨g1, g2⟩
    ·go_wp2_with fail
     refine (CI.out w0).mono ?_
     rintro e w1 ⟨rfl, rfl⟩
     go_wp2_with fail
     refine (CR.out w0 B0.out).mono ?_
     rintro e w1 ⟨x, rfl, hx, hb1⟩
     have HX := hI hx
     have K1 := bRn K0 hb1
     have B1 := tRn B0 hb1
     have u1 : w1.cell? ⟨w.heap.size, 1, none⟩ = _ := cRn (K1.out.cell 1) rfl
     clear hx hb1
     rcases x with _ | _
     ·have HN := hI (show ¬ OkT l o mv from fun h => by have := HX.out.2 h.cells; cases this)
      clear HX
      go_wp2
      go_ret
      exact ⟨false, rfl, ⟨(fun h => by cases h), fun h => absurd h HN.out⟩, B1.out⟩
     ·have HRL := hI (HX.out.1 rfl)
      clear HX
      go_wp2_with fail
      refine (CO.out w1 B1.out).mono ?_
      rintro e w2 ⟨x, rfl, hx, hb2⟩
      have HX := hI hx
      have K2 := bRn K1 hb2
      have B2 := tRn B1 hb2
      clear hx hb2
      rcases x with _ | _
      ·have HN := hI (show ¬ OkT l o mv from fun h => by have := HX.out.2 h.olds; cases this)
       clear HX
       go_wp2
       go_ret
       exact ⟨false, rfl, ⟨(fun h => by cases h), fun h => absurd h HN.out⟩, B2.out⟩
      ·have HRO := hI (HX.out.1 rfl)
       clear HX v0 v1 v2 u1
       go_wp2
       go_loopw [3] (fun iv wr => ∃ i : Nat, i <= o.length /\ iv = .int .i64 (i : Int) /\ Hid (∀ j (h : j < o.length), j < i -> qlK l mv j o[j]) /\ Hid (Blk wr w.heap.size 29 [.slice ao l.length ca, .slice a' o.length ca', .int .i64 mv]) /\ Hid (Below w.heap.size w wr)) (fun iv _ => o.length - (intOf iv).toNat)
       case atStart => exact ⟨0, by omega, rfl, fun j _ h => by omega, K2, B2⟩
       case round =>
        obtain ⟨i, hi, rfl, hold, hK, hbel⟩ := hrel
        have t1 : wr.cell? ⟨w.heap.size, 1, none⟩ = _ := cRn (hK.out.cell 1) rfl
        by_cases hlt : i < o.length
        ·have k1 : (i : Int) < (o.length : Int) := by omega
         obtain ⟨g, hao, hg, h1⟩ := (HA'.out.later hbel.out).at i hlt
         obtain ⟨x0, x1⟩ := h1
         have hno := hI (fun (h : ¬ qlK l mv i o[i]) (hr : OkT l o mv) => h (hr.old i hlt))
         have hyes := hI (fun (h : qlK l mv i o[i]) j (hj : j < o.length) (hj2 : j < i + 1) => show qlK l mv j o[j] by
          by_cases e : j < i
          ·exact hold.out j hj e
          ·obtain rfl : j = i := by omega
           exact h)
         have hks := hI (fun (h : o[i].key.toList ≠ []) => ((HRO.out.1 i hlt).2 h).1)
         generalize o[i] = s at *
         obtain ⟨ky, hh⟩ := s
         simp only [qlK] at x0 x1 hno hyes hks
         have BX : Hid (Below w.heap.size w (wr.alloc (.cells #[.string ky, .int .i64 hh] 132))) := hbel.out.alloc hbel.out.size _
         have KX : Hid (Blk (wr.alloc (.cells #[.string ky, .int .i64 hh] 132)) w.heap.size 29 [.slice ao l.length ca, .slice a' o.length ca', .int .i64 mv]) := Blk.more hK.out _
         have NN : Hid ((wr.alloc (.cells #[.string ky, .int .i64 hh] 132)).cell? ⟨wr.heap.size, 0, none⟩ = some (.string ky) /\ (wr.alloc (.cells #[.string ky, .int .i64 hh] 132)).cell? ⟨wr.heap.size, 1, none⟩ = some (.int .i64 hh)) := ⟨World.cell?_alloc_at _ _ _ _ rfl, World.cell?_alloc_at _ _ _ _ rfl⟩
         rw [hao] at t1
         clear hold hao
         go_upto_region 7 with fail
         generalize (wr.alloc (.cells #[.string ky, .int .i64 hh] 132)) = wv at NN BX KX ⊢
         obtain ⟨n0, n1⟩ := NN.out
         have s0 : wv.cell? ⟨w.heap.size, 0, none⟩ = _ := cRn (KX.out.cell 0) rfl
         have s2 : wv.cell? ⟨w.heap.size, 2, none⟩ = _ := cRn (KX.out.cell 2) rfl
         clear NN x0 x1 hbel hK t1
         by_cases d1 : ky.toList = []
         ·have b1 : ky.toList.isEmpty = true := by rw [d1]; rfl
          by_cases d2 : (i : Int) < mv
          ·have q2 : decide ((i : Int) < mv) = true := decide_eq_true d2
           by_cases d3 : hh = -2
           ·have q3 : (hh != (-2 : Int)) = false := by simp [d3]
            have HY := hI (hyes.out ⟨fun _ => ⟨d1, d3⟩, fun h => absurd d1 h⟩)
            clear d3 hyes hno hks
            go_wp2
            go_roundw
            case rel => exact ⟨i + 1, by omega, by go_num, HY, KX, BX⟩
            case measure => simp [intOf]; omega
           ·have q3 : (hh != (-2 : Int)) = true := by simp [d3]
            have HN := hI (hno.out (fun h => d3 (h.1 d2).2))
            clear d3 hyes hno hks
            go_wp2
            go_ret
            exact ⟨false, rfl, ⟨(fun h => by cases h), fun h => absurd h HN.out⟩, BX.out⟩
          ·have q2 : decide ((i : Int) < mv) = false := decide_eq_false d2
           have HY := hI (hyes.out ⟨fun h => absurd h d2, fun h => absurd d1 h⟩)
           clear d2 hyes hno hks
           go_wp2
           go_roundw
           case rel => exact ⟨i + 1, by omega, by go_num, HY, KX, BX⟩
           case measure => simp [intOf]; omega
         ·have b1 : ky.toList.isEmpty = false := by cases h : ky.toList with | nil => exact absurd h d1 | cons a b => rfl
          by_cases d2 : (i : Int) < mv
          ·have q2 : decide ((i : Int) < mv) = true := decide_eq_true d2
           have HN := hI (hno.out (fun h => d1 (h.1 d2).1))
           clear d2 hyes hno hks
           go_wp2
           go_ret
           exact ⟨false, rfl, ⟨(fun h => by cases h), fun h => absurd h HN.out⟩, BX.out⟩
          ·have q2 : decide ((i : Int) < mv) = false := decide_eq_false d2
           have CK := hI (CS.out wv BX.out ky (by have := hks.out d1; omega))
           rcases hq : qaZ l ky with _ | p
           ·have HY := hI (hyes.out ⟨fun h => absurd h d2, fun _ => hq⟩)
            rw [hq] at CK
            unfold qdC at CK
            clear d2 hq hyes hno hks
            go_wp2_with fail
            refine CK.out.mono ?_
            rintro e w5 ⟨rfl, hb5⟩
            have B5 := tRn BX hb5
            have K5 := bRn KX hb5
            clear hb5
            go_wp2
            go_roundw
            case rel => exact ⟨i + 1, by omega, by go_num, HY, K5, B5⟩
            case measure => simp [intOf]; omega
           ·have HN := hI (hno.out (fun h => by have := h.2 d1; rw [hq] at this; cases this))
            rw [hq] at CK
            unfold qdC at CK
            clear d2 hq hyes hno hks
            go_wp2_with fail
            refine CK.out.mono ?_
            rintro e w5 ⟨rfl, hb5⟩
            have B5 := tRn BX hb5
            clear hb5
            go_wp2
            go_ret
            exact ⟨false, rfl, ⟨(fun h => by cases h), fun h => absurd h HN.out⟩, B5.out⟩
        ·obtain rfl : i = o.length := by omega
         have k1 : decide ((o.length : Int) < (o.length : Int)) = false := by simp
         have HE := hI (show OkT l o mv from ⟨HSZ.out, HC2.out, HC3.out, HRL.out, HRO.out, fun j hj => hold.out j hj hj⟩)
         go_wp2
         go_ret
         exact ⟨true, rfl, ⟨fun _ => HE.out, fun _ => rfl⟩, hbel.out⟩
    ·go_wp2_with fail
     refine (CI.out w0).mono ?_
     rintro e w1 ⟨rfl, rfl⟩
     go_wp2_with fail
     refine (CR.out w0 B0.out).mono ?_
     rintro e w1 ⟨x, rfl, hx, hb1⟩
     have HX := hI hx
     have K1 := bRn K0 hb1
     have B1 := tRn B0 hb1
     have u1 : w1.cell? ⟨w.heap.size, 1, none⟩ = _ := cRn (K1.out.cell 1) rfl
     clear hx hb1
     rcases x with _ | _
     ·have HN := hI (show ¬ OkT l o mv from fun h => by have := HX.out.2 h.cells; cases this)
      clear HX
      go_wp2
      go_ret
      exact ⟨false, rfl, ⟨(fun h => by cases h), fun h => absurd h HN.out⟩, B1.out⟩
     ·have HRL := hI (HX.out.1 rfl)
      clear HX
      go_wp2_with fail
      refine (CO.out w1 B1.out).mono ?_
      rintro e w2 ⟨x, rfl, hx, hb2⟩
      have HX := hI hx
      have K2 := bRn K1 hb2
      have B2 := tRn B1 hb2
      clear hx hb2
      rcases x with _ | _
      ·have HN := hI (show ¬ OkT l o mv from fun h => by have := HX.out.2 h.olds; cases this)
       clear HX
       go_wp2
       go_ret
       exact ⟨false, rfl, ⟨(fun h => by cases h), fun h => absurd h HN.out⟩, B2.out⟩
      ·have HRO := hI (HX.out.1 rfl)
       clear HX v0 v1 v2 u1
       go_wp2
       go_loopw [3] (fun iv wr => ∃ i : Nat, i <= o.length /\ iv = .int .i64 (i : Int) /\ Hid (∀ j (h : j < o.length), j < i -> qlK l mv j o[j]) /\ Hid (Blk wr w.heap.size 29 [.slice ao l.length ca, .slice a' o.length ca', .int .i64 mv]) /\ Hid (Below w.heap.size w wr)) (fun iv _ => o.length - (intOf iv).toNat)
       case atStart => exact ⟨0, by omega, rfl, fun j _ h => by omega, K2, B2⟩
       case round =>
        obtain ⟨i, hi, rfl, hold, hK, hbel⟩ := hrel
        have t1 : wr.cell? ⟨w.heap.size, 1, none⟩ = _ := cRn (hK.out.cell 1) rfl
        by_cases hlt : i < o.length
        ·have k1 : (i : Int) < (o.length : Int) := by omega
         obtain ⟨g, hao, hg, h1⟩ := (HA'.out.later hbel.out).at i hlt
         obtain ⟨x0, x1⟩ := h1
         have hno := hI (fun (h : ¬ qlK l mv i o[i]) (hr : OkT l o mv) => h (hr.old i hlt))
         have hyes := hI (fun (h : qlK l mv i o[i]) j (hj : j < o.length) (hj2 : j < i + 1) => show qlK l mv j o[j] by
          by_cases e : j < i
          ·exact hold.out j hj e
          ·obtain rfl : j = i := by omega
           exact h)
         have hks := hI (fun (h : o[i].key.toList ≠ []) => ((HRO.out.1 i hlt).2 h).1)
         generalize o[i] = s at *
         obtain ⟨ky, hh⟩ := s
         simp only [qlK] at x0 x1 hno hyes hks
         have BX : Hid (Below w.heap.size w (wr.alloc (.cells #[.string ky, .int .i64 hh] 132))) := hbel.out.alloc hbel.out.size _
         have KX : Hid (Blk (wr.alloc (.cells #[.string ky, .int .i64 hh] 132)) w.heap.size 29 [.slice ao l.length ca, .slice a' o.length ca', .int .i64 mv]) := Blk.more hK.out _
         have NN : Hid ((wr.alloc (.cells #[.string ky, .int .i64 hh] 132)).cell? ⟨wr.heap.size, 0, none⟩ = some (.string ky) /\ (wr.alloc (.cells #[.string ky, .int .i64 hh] 132)).cell? ⟨wr.heap.size, 1, none⟩ = some (.int .i64 hh)) := ⟨World.cell?_alloc_at _ _ _ _ rfl, World.cell?_alloc_at _ _ _ _ rfl⟩
         rw [hao] at t1
         clear hold hao
         go_upto_region 7 with fail
         generalize (wr.alloc (.cells #[.string ky, .int .i64 hh] 132)) = wv at NN BX KX ⊢
         obtain ⟨n0, n1⟩ := NN.out
         have s0 : wv.cell? ⟨w.heap.size, 0, none⟩ = _ := cRn (KX.out.cell 0) rfl
         have s2 : wv.cell? ⟨w.heap.size, 2, none⟩ = _ := cRn (KX.out.cell 2) rfl
         clear NN x0 x1 hbel hK t1
         by_cases d1 : ky.toList = []
         ·have b1 : ky.toList.isEmpty = true := by rw [d1]; rfl
          by_cases d2 : (i : Int) < mv
          ·have q2 : decide ((i : Int) < mv) = true := decide_eq_true d2
           by_cases d3 : hh = -2
           ·have q3 : (hh != (-2 : Int)) = false := by simp [d3]
            have HY := hI (hyes.out ⟨fun _ => ⟨d1, d3⟩, fun h => absurd d1 h⟩)
            clear d3 hyes hno hks
            go_wp2
            go_roundw
            case rel => exact ⟨i + 1, by omega, by go_num, HY, KX, BX⟩
            case measure => simp [intOf]; omega
           ·have q3 : (hh != (-2 : Int)) = true := by simp [d3]
            have HN := hI (hno.out (fun h => d3 (h.1 d2).2))
            clear d3 hyes hno hks
            go_wp2
            go_ret
            exact ⟨false, rfl, ⟨(fun h => by cases h), fun h => absurd h HN.out⟩, BX.out⟩
          ·have q2 : decide ((i : Int) < mv) = false := decide_eq_false d2
           have HY := hI (hyes.out ⟨fun h => absurd h d2, fun h => absurd d1 h⟩)
           clear d2 hyes hno hks
           go_wp2
           go_roundw
           case rel => exact ⟨i + 1, by omega, by go_num, HY, KX, BX⟩
           case measure => simp [intOf]; omega
         ·have b1 : ky.toList.isEmpty = false := by cases h : ky.toList with | nil => exact absurd h d1 | cons a b => rfl
          by_cases d2 : (i : Int) < mv
          ·have q2 : decide ((i : Int) < mv) = true := decide_eq_true d2
           have HN := hI (hno.out (fun h => d1 (h.1 d2).1))
           clear d2 hyes hno hks
           go_wp2
           go_ret
           exact ⟨false, rfl, ⟨(fun h => by cases h), fun h => absurd h HN.out⟩, BX.out⟩
          ·have q2 : decide ((i : Int) < mv) = false := decide_eq_false d2
           have CK := hI (CS.out wv BX.out ky (by have := hks.out d1; omega))
           rcases hq : qaZ l ky with _ | p
           ·have HY := hI (hyes.out ⟨fun h => absurd h d2, fun _ => hq⟩)
            rw [hq] at CK
            unfold qdC at CK
            clear d2 hq hyes hno hks
            go_wp2_with fail
            refine CK.out.mono ?_
            rintro e w5 ⟨rfl, hb5⟩
            have B5 := tRn BX hb5
            have K5 := bRn KX hb5
            clear hb5
            go_wp2
            go_roundw
            case rel => exact ⟨i + 1, by omega, by go_num, HY, K5, B5⟩
            case measure => simp [intOf]; omega
           ·have HN := hI (hno.out (fun h => by have := h.2 d1; rw [hq] at this; cases this))
            rw [hq] at CK
            unfold qdC at CK
            clear d2 hq hyes hno hks
            go_wp2_with fail
            refine CK.out.mono ?_
            rintro e w5 ⟨rfl, hb5⟩
            have B5 := tRn BX hb5
            clear hb5
            go_wp2
            go_ret
            exact ⟨false, rfl, ⟨(fun h => by cases h), fun h => absurd h HN.out⟩, B5.out⟩
        ·obtain rfl : i = o.length := by omega
         have k1 : decide ((o.length : Int) < (o.length : Int)) = false := by simp
         have HE := hI (show OkT l o mv from ⟨HSZ.out, HC2.out, HC3.out, HRL.out, HRO.out, fun j hj => hold.out j hj hj⟩)
         go_wp2
         go_ret
         exact ⟨true, rfl, ⟨fun _ => HE.out, fun _ => rfl⟩, hbel.out⟩
   ·rw [show (decide ((0 : Int) <= mv) && decide (mv <= (o.length : Int))) = false by simp; omega] at CI
    have HN := hI (show ¬ OkT l o mv from fun h => c3 h.moved)
    have hgo : Hid (((o.length : Int) != 0) = false ∨ (((o.length : Int) != 0) = true /\ (2 * (o.length : Int) != (l.length : Int)) = false)) := by
     show _ ∨ _
     rcases c2 with h | h
     ·left; simp [h]
     ·by_cases h0 : o.length = 0
      ·left; simp [h0]
      ·right; constructor
       ·simp; intro e; exact h0 (by rw [e]; rfl)
       ·simp; omega
    clear c2 c3
    rcases hgo.out with g1 | ⟨g1, g2⟩
    ·go_wp2_with fail
     refine (CI.out w0).mono ?_
     rintro e w1 ⟨rfl, rfl⟩
     go_wp2
     go_ret
     exact ⟨false, rfl, ⟨(fun h => by cases h), fun h => absurd h HN.out⟩, B0.out⟩
    ·go_wp2_with fail
     refine (CI.out w0).mono ?_
     rintro e w1 ⟨rfl, rfl⟩
     go_wp2
     go_ret
     exact ⟨false, rfl, ⟨(fun h => by cases h), fun h => absurd h HN.out⟩, B0.out⟩
  ·have HN := hI (show ¬ OkT l o mv from fun h => c2 h.half)
   have g1 : ((o.length : Int) != 0) = true := by simp; intro e; exact c2 (.inl (by rw [e]; rfl))
   have g2 : (2 * (o.length : Int) != (l.length : Int)) = true := by simp; omega
   clear c2
   go_wp2
   go_ret
   exact ⟨false, rfl, ⟨(fun h => by cases h), fun h => absurd h HN.out⟩, B0.out⟩
def qcP (l o : List Ce) (key : ByteArray) : Option Int :=
 match qaZ l key with
 | some k => (l[k]?).map (·.h)
 | none => match qaZ o key with
  | some k => (o[k]?).map (·.h)
  | none => none
def SeekA (l o : List Ce) (mv : Int) (key : ByteArray) (h : Int) (t : Bool) : Prop := (t = true /\ OkT l o mv /\ key.toList ≠ [] /\ qcP l o key = some h) ∨ (t = false /\ h = 0 /\ ¬ (OkT l o mv /\ key.toList ≠ [] /\ ∃ x, qcP l o key = some x))
theorem SeekA.det {l o : List Ce} {mv : Int} {key : ByteArray} {h h' : Int} {t t' : Bool} (x : SeekA l o mv key h t) (y : SeekA l o mv key h' t') : h = h' /\ t = t' := by
 rcases x with ⟨rfl, x1, x2, x3⟩ | ⟨rfl, rfl, x1⟩ <;> rcases y with ⟨rfl, y1, y2, y3⟩ | ⟨rfl, rfl, y1⟩
 ·rw [x3] at y3; injection y3 with y3; exact ⟨y3, rfl⟩
 ·exact absurd ⟨x1, x2, h, x3⟩ y1
 ·exact absurd ⟨y1, y2, h', y3⟩ x1
 ·exact ⟨rfl, rfl⟩
theorem qdZ (ao a' : Option Addr) (l o : List Ce) (ca ca' : Nat) (mv : Int) (key : ByteArray) (w : World) (hl : l.length <= 1048576) (hl' : o.length <= 1048576) (hk : key.size <= 1048576) (hA : RdC w ao l) (hA' : RdC w a' o) :
  Calls Tryz.prog 39 #[tbV ao l.length ca a' o.length ca' mv, .string key] w fun e w' => ∃ (h : Int) (t : Bool), e = .returned (.tuple #[.int .i64 h, .bool t]) /\ SeekA l o mv key h t /\ Below w.heap.size w w' := by
 have CT := hI (fun w' (hb : Below w.heap.size w w') => qcX ao a' l o ca ca' mv w' hl hl' (hA.later hb) (hA'.later hb))
 have C1 := hI (fun w' (hb : Below w.heap.size w w') => qbR ao l ca key w' hl hk (hA.later hb))
 have C2 := hI (fun w' (hb : Below w.heap.size w w') => qbR a' o ca' key w' hl' hk (hA'.later hb))
 have HA := hI hA
 have HA' := hI hA'
 have F0 : Hid (Blk (w.alloc (.cells #[.slice ao l.length ca, .slice a' o.length ca', .int .i64 mv] 29)) w.heap.size 29 [.slice ao l.length ca, .slice a' o.length ca', .int .i64 mv] /\ Below w.heap.size w (w.alloc (.cells #[.slice ao l.length ca, .slice a' o.length ca', .int .i64 mv] 29))) := ⟨Blk.new w _ _, bAl _ _⟩
 clear hA hA'
 unfold tbV at CT ⊢
 go_enter Tryz.func39, Tryz.ntmps39
 go_wp2_with fail
 generalize (w.alloc (.cells #[.slice ao l.length ca, .slice a' o.length ca', .int .i64 mv] 29)) = w0 at F0 ⊢
 obtain ⟨K0, B0⟩ := F0.out
 have K0 := hI K0
 have B0 := hI B0
 clear F0
 refine (CT.out w0 B0.out).mono ?_
 rintro e w1 ⟨x, rfl, hx, hb1⟩
 have HX := hI hx
 have K1 := bRn K0 hb1
 have B1 := tRn B0 hb1
 have u0 : w1.cell? ⟨w.heap.size, 0, none⟩ = _ := cRn (K1.out.cell 0) rfl
 clear hx hb1 K0 B0
 rcases x with _ | _
 ·have HN := hI (show SeekA l o mv key 0 false from .inr ⟨rfl, rfl, fun h => by have := HX.out.2 h.1; cases this⟩)
  clear HX
  go_wp2
  go_ret2
  exact ⟨0, false, rfl, HN.out, B1.out⟩
 ·have HOK := hI (HX.out.1 rfl)
  clear HX
  by_cases d1 : key.toList = []
  ·have b1 : key.toList.isEmpty = true := by rw [d1]; rfl
   have HN := hI (show SeekA l o mv key 0 false from .inr ⟨rfl, rfl, fun h => h.2.1 d1⟩)
   go_wp2
   go_ret2
   exact ⟨0, false, rfl, HN.out, B1.out⟩
  ·have b1 : key.toList.isEmpty = false := by cases h : key.toList with | nil => exact absurd h d1 | cons a b => rfl
   have HD := hI d1
   go_wp2_with fail
   refine (C1.out w1 B1.out).mono ?_
   rintro e w2 ⟨rfl, hb2⟩
   have K2 := bRn K1 hb2
   have B2 := tRn B1 hb2
   have v0 : w2.cell? ⟨w.heap.size, 0, none⟩ = _ := cRn (K2.out.cell 0) rfl
   have v1 : w2.cell? ⟨w.heap.size, 1, none⟩ = _ := cRn (K2.out.cell 1) rfl
   clear hb2 K1 B1 u0 b1 d1
   rcases hq : qaZ l key with _ | k
   ·unfold qdC
    have HQ := hI hq
    clear hq
    go_wp2_with fail
    refine (C2.out w2 B2.out).mono ?_
    rintro e w3 ⟨rfl, hb3⟩
    have K3 := bRn K2 hb3
    have B3 := tRn B2 hb3
    have t1 : w3.cell? ⟨w.heap.size, 1, none⟩ = _ := cRn (K3.out.cell 1) rfl
    clear hb3 v0 v1
    rcases hq2 : qaZ o key with _ | k
    ·have HN := hI (show SeekA l o mv key 0 false from .inr ⟨rfl, rfl, fun h => by obtain ⟨x, hx⟩ := h.2.2; rw [qcP, HQ.out] at hx; simp only [hq2] at hx; cases hx⟩)
     unfold qdC
     clear hq2
     go_wp2
     go_ret2
     exact ⟨0, false, rfl, HN.out, B3.out⟩
    ·have hkl : k < o.length := qdT _ _ _ hq2
     have k1 : (k : Int) < (o.length : Int) := by omega
     obtain ⟨g, hao, hg, h1⟩ := (HA'.out.later B3.out).at k hkl
     have x1 := h1.2
     have HN := hI (show SeekA l o mv key o[k].h true from .inl ⟨rfl, HOK.out, HD.out, by rw [qcP, HQ.out]; simp only [hq2]; rw [List.getElem?_eq_getElem hkl]; rfl⟩)
     rw [hao] at t1
     generalize o[k].h = hv at *
     have q : decide ((0 : Int) <= (k : Int)) = true := by simp
     unfold qdC
     clear hq2 hao h1
     go_wp2
     go_ret2
     exact ⟨hv, true, rfl, HN.out, B3.out⟩
   ·have hkl : k < l.length := qdT _ _ _ hq
    have k1 : (k : Int) < (l.length : Int) := by omega
    obtain ⟨g, hao, hg, h1⟩ := (HA.out.later B2.out).at k hkl
    have x1 := h1.2
    have HN := hI (show SeekA l o mv key l[k].h true from .inl ⟨rfl, HOK.out, HD.out, by rw [qcP, hq]; simp only []; rw [List.getElem?_eq_getElem hkl]; rfl⟩)
    rw [hao] at v0
    generalize l[k].h = hv at *
    have q : decide ((0 : Int) <= (k : Int)) = true := by simp
    unfold qdC
    clear hq hao h1
    go_wp2
    go_ret2
    exact ⟨hv, true, rfl, HN.out, B2.out⟩
end Go.Proofs.YtigpjmmfelndkaaGreatDoor
