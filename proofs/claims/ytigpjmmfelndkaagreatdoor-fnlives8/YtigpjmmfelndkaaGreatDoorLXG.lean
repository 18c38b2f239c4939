import Derived.ScopeJumps
import Derived.WalkMore
import Derived.Test.YtigpjmmfelndkaaGreatDoorLXE
namespace Go.Proofs.YtigpjmmfelndkaaGreatDoor
open Go.RowKit
set_option maxRecDepth 100000
set_option maxHeartbeats 4000000
theorem qjF {P : Program} {a : Act} {w : World} {Q : Exit -> Act -> World -> Prop} {c rest : Code} (l : Nat) (hf : findLabel c l = some rest)
  (h : ∀ Q1 : Exit -> Act -> World -> Prop, (∀ a w, Q .ret a w -> Q1 .ret a w) -> (∀ a w, Q .normal a w -> Q1 .normal a w) -> (∀ a w, rest.wp P (Exit.noGoto Q) a w -> Q1 (.goto l) a w) -> c.wp P Q1 a w) : (Code.scope c).wp P Q a w := by
 refine wp_scope_jumps l (fun a w => rest.wp P (Exit.noGoto Q) a w) (fun _ _ => 0) hf ?_ ?_
 ·exact h _ (fun _ _ x => x) (fun _ _ x => x) (fun _ _ x => ⟨rfl, x⟩)
 ·intro a w hj
  refine Code.wp_mono ?_ hj
  intro e a w x
  cases e <;> first | exact x | exact x.elim
theorem qmW (ao : Option Addr) (l : List Ce) (ca : Nat) (key : ByteArray) (w : World) (hl : l.length <= 1048576) (hk : key.size <= 1048576) (hA : RdJ w ao l) :
  Calls Tryz.prog 172 #[.slice ao l.length ca, .string key] w fun e w' => e = .returned (.tuple #[.int .i64 (qdC (qaP l key).1), .int .i64 (qdC (qaP l key).2)]) /\ Below w.heap.size w w' := by
 by_cases c0 : l.length = 0
 ·have q0 : ((l.length : Int) == 0) = true := by simp [c0]
  have HE := hI (show qaP l key = (none, none) by rw [qaP, c0]; rfl)
  clear hA c0
  go_enter Tryz.func172, Tryz.ntmps172
  go_wp2
  refine qjF 0 rfl ?_
  intro Q1 hret hnorm hgo
  go_wp2
  refine hret _ _ ?_
  go_ret2
  exact ⟨by rw [HE.out]; rfl, Below.refl _ _⟩
 ·have q0 : ((l.length : Int) == 0) = false := by simp; intro h; exact c0 (by rw [h]; rfl)
  have hn1 : 1 <= l.length := by omega
  have CH := hI (qfX key 0 w hk (by omega) (by omega))
  obtain ⟨hn, hhn⟩ : ∃ hn, qcK key 0 = hn := ⟨_, rfl⟩
  have hh4 : hn < 4294967296 := by rw [<- hhn]; exact qfK key 0
  obtain ⟨p, hp⟩ : ∃ p, hn % l.length = p := ⟨_, rfl⟩
  have hpl : p < l.length := by rw [<- hp]; exact Nat.mod_lt _ (by omega)
  have EP := hI (show (hn : Int) % (l.length : Int) = (p : Int) by rw [<- hp]; exact (Int.natCast_emod hn l.length).symm)
  have HS := hI (show qaP l key = qdS l key p 0 l.length none by rw [qaP, hhn, hp])
  rw [hhn] at CH
  have HA := hI hA
  have q1 : ¬ (l.length : Int) = 0 := by omega
  have HP0 := hI (show p = (p + 0) % l.length by rw [Nat.add_zero, Nat.mod_eq_of_lt hpl])
  clear hA hhn hp c0
  go_enter Tryz.func172, Tryz.ntmps172
  go_wp2
  refine qjF 0 rfl ?_
  intro Q1 hret hnorm hgo
  have HRET := hI hret
  have HGO := hI hgo
  clear hret hnorm hgo
  go_wp2_with fail
  refine CH.out.mono ?_
  rintro e w1 ⟨rfl, rfl⟩
  go_upto_region 4 with fail
  rw [EP.out]
  go_wp2
  go_loopw [6, 7, 19] (fun av fv iv wr => ∃ (i q : Nat) (f : Option Nat), i <= l.length /\ q < l.length /\ iv = .int .i64 (i : Int) /\ av = .int .i64 (q : Int) /\ fv = .int .i64 (qdC f) /\ Hid (q = (p + i) % l.length) /\ Hid (∀ k, f = some k -> k < l.length) /\ Hid (qaP l key = qdS l key p i (l.length - i) f) /\ Hid (Below w.heap.size w wr)) (fun _ _ iv _ => l.length - (intOf iv).toNat)
  case atStart => exact ⟨0, p, none, by omega, hpl, rfl, rfl, rfl, HP0.out, (fun k h => by cases h), HS.out, Below.refl _ _⟩
  case round =>
   obtain ⟨i, q, f, hi, hql, rfl, rfl, rfl, hq, hfl, hS, hbel⟩ := hrel
   by_cases hlt : i < l.length
   ·have k1 : (i : Int) < (l.length : Int) := by omega
    have kq : (q : Int) < (l.length : Int) := by omega
    obtain ⟨q2, hq2⟩ : ∃ q2, (q + 1) % l.length = q2 := ⟨_, rfl⟩
    have hq2l : q2 < l.length := by rw [<- hq2]; exact Nat.mod_lt _ (by omega)
    have eq2 : ((q : Int) + 1) % (l.length : Int) = (q2 : Int) := by
     rw [<- hq2, show (q : Int) + 1 = ((q + 1 : Nat) : Int) by omega]
     exact (Int.natCast_emod (q + 1) l.length).symm
    have HQ2 := hI (show q2 = (p + (i + 1)) % l.length by rw [<- hq2, hq.out, Nat.mod_add_mod, Nat.add_assoc])
    obtain ⟨b, o, hao, hb, h1⟩ := HA.out q hql
    obtain ⟨x0, x1⟩ := h1.below hbel.out hb
    have hsd : Hid (qaP l key = if l[q].key.toList ≠ [] /\ l[q].key.toList = key.toList then (some q, f) else if l[q].h = -1 then (none, if l[q].key.toList = [] /\ f = none then some q else f) else qdS l key p (i + 1) (l.length - (i + 1)) (if l[q].key.toList = [] /\ f = none then some q else f)) := by
     show qaP l key = _
     rw [hS.out, show l.length - i = (l.length - (i + 1)) + 1 by omega, qdS, <- hq.out, List.getElem?_eq_getElem hql]
    have HQL := hI hql
    generalize l[q] = s at *
    obtain ⟨ky, hh⟩ := s
    simp only at x0 x1 hsd
    have BX : Hid (Below w.heap.size w (wr.alloc (.cells #[.string ky, .int .i64 hh] 132))) := hbel.out.alloc hbel.out.size _
    have NN : Hid ((wr.alloc (.cells #[.string ky, .int .i64 hh] 132)).cell? ⟨wr.heap.size, 0, none⟩ = some (.string ky) /\ (wr.alloc (.cells #[.string ky, .int .i64 hh] 132)).cell? ⟨wr.heap.size, 1, none⟩ = some (.int .i64 hh)) := ⟨World.cell?_alloc_at _ _ _ _ rfl, World.cell?_alloc_at _ _ _ _ rfl⟩
    rw [hao]
    clear hq hq2 h1 hS hao
    go_upto_region 7 with fail
    generalize (wr.alloc (.cells #[.string ky, .int .i64 hh] 132)) = wv at NN BX ⊢
    obtain ⟨n0, n1⟩ := NN.out
    clear NN x0 x1 hbel
    by_cases d1 : ky.toList = []
    ·have b1 : ky.toList.isEmpty = true := by rw [d1]; rfl
     rw [if_neg (show ¬ (ky.toList ≠ [] /\ ky.toList = key.toList) from fun h => h.1 d1)] at hsd
     rcases f with _ | k
     ·rw [if_pos (show ky.toList = [] /\ (none : Option Nat) = none from ⟨d1, rfl⟩)] at hsd
      have HFL := hI (fun k (h : some q = some k) => show k < l.length by injection h with h; rw [<- h]; exact HQL.out)
      unfold qdC
      by_cases d4 : hh = -1
      ·have b4 : (hh == (-1 : Int)) = true := by simp [d4]
       have HR := hI (show qaP l key = (none, some q) by rw [hsd.out, if_pos d4])
       clear hsd d1 d4
       go_wp2
       go_step3
       go_wp2
       refine HRET.out _ _ ?_
       go_ret2
       exact ⟨by rw [HR.out]; rfl, BX.out⟩
      ·have b4 : (hh == (-1 : Int)) = false := by simp [d4]
       have HR := hI (show qaP l key = qdS l key p (i + 1) (l.length - (i + 1)) (some q) by rw [hsd.out, if_neg d4])
       clear hsd d1 d4
       go_wp2
       go_roundw
       case rel => exact ⟨i + 1, q2, some q, by omega, hq2l, by go_num, (by first | rfl | rw [<- eq2]), rfl, HQ2, HFL, HR, BX⟩
       case measure => simp [intOf]; omega
     ·rw [if_neg (show ¬ (ky.toList = [] /\ some k = none) from fun h => by cases h.2)] at hsd
      unfold qdC
      by_cases d4 : hh = -1
      ·have b4 : (hh == (-1 : Int)) = true := by simp [d4]
       have HR := hI (show qaP l key = (none, some k) by rw [hsd.out, if_pos d4])
       clear hsd d1 d4
       go_wp2
       go_step3
       go_wp2
       refine HRET.out _ _ ?_
       go_ret2
       exact ⟨by rw [HR.out]; rfl, BX.out⟩
      ·have b4 : (hh == (-1 : Int)) = false := by simp [d4]
       have HR := hI (show qaP l key = qdS l key p (i + 1) (l.length - (i + 1)) (some k) by rw [hsd.out, if_neg d4])
       clear hsd d1 d4
       go_wp2
       go_roundw
       case rel => exact ⟨i + 1, q2, some k, by omega, hq2l, by go_num, (by first | rfl | rw [<- eq2]), rfl, HQ2, hfl, HR, BX⟩
       case measure => simp [intOf]; omega
    ·have b1 : ky.toList.isEmpty = false := by cases h : ky.toList with | nil => exact absurd h d1 | cons a b => rfl
     have HD1 := hI d1
     by_cases d2 : ky.toList = key.toList
     ·have b2 : (ky.toList == key.toList) = true := by simp [d2]
      have HR := hI (show qaP l key = (some q, f) by rw [hsd.out, if_pos ⟨d1, d2⟩])
      clear hsd d1 d2
      obtain ⟨fi, hfi⟩ : ∃ fi, qdC f = fi := ⟨_, rfl⟩
      have HFI := hI hfi
      rw [hfi]
      clear hfi
      go_wp2
      go_step3
      show Q1 (.goto 0) _ _
      refine HGO.out _ _ ?_
      go_wp2
      try rw [Exit.noGoto_ret]
      go_ret2
      exact ⟨by rw [HR.out]; first | rfl | (rw [<- HFI.out]; rfl), BX.out⟩
     ·have b2 : (ky.toList == key.toList) = false := by simp [d2]
      rw [if_neg (show ¬ (ky.toList ≠ [] /\ ky.toList = key.toList) from fun h => d2 h.2), if_neg (show ¬ (ky.toList = [] /\ f = none) from fun h => HD1.out h.1)] at hsd
      by_cases d4 : hh = -1
      ·have b4 : (hh == (-1 : Int)) = true := by simp [d4]
       have HR := hI (show qaP l key = (none, f) by rw [hsd.out, if_pos d4])
       clear hsd d1 d2 d4
       go_wp2
       go_step3
       go_wp2
       refine HRET.out _ _ ?_
       go_ret2
       exact ⟨by rw [HR.out]; rfl, BX.out⟩
      ·have b4 : (hh == (-1 : Int)) = false := by simp [d4]
       have HR := hI (show qaP l key = qdS l key p (i + 1) (l.length - (i + 1)) f by rw [hsd.out, if_neg d4])
       clear hsd d1 d2 d4
       go_wp2
       go_roundw
       case rel => exact ⟨i + 1, q2, f, by omega, hq2l, by go_num, (by first | rfl | rw [<- eq2]), rfl, HQ2, hfl, HR, BX⟩
       case measure => simp [intOf]; omega
   ·obtain rfl : i = l.length := by omega
    have k1 : decide ((l.length : Int) < (l.length : Int)) = false := by simp
    have HR := hI (show qaP l key = (none, f) by rw [hS.out, Nat.sub_self]; rfl)
    clear hS
    go_wp2
    go_step3
    go_wp2
    refine HRET.out _ _ ?_
    go_ret2
    exact ⟨by rw [HR.out]; rfl, hbel.out⟩
theorem qjO (n : Int) (w : World) : Calls Tryz.prog 117 #[.int .i64 n] w fun e w' => ∃ x : Bool, e = .returned (.bool x) /\ (x = true ↔ n = 4 ∨ n = 8 ∨ n = 16 ∨ n = 32 ∨ n = 64) /\ w = w' := by
 by_cases c0 : n = 4
 ·subst c0
  go_enter Tryz.func117, Tryz.ntmps117
  go_wp2
  go_ret
  first | exact ⟨true, rfl, by simp, rfl⟩ | exact .inr ⟨rfl, by simp, rfl⟩
 ·have q0 : (n == 4) = false := by simpa using c0
  by_cases c1 : n = 8
  ·subst c1
   clear c0
   go_enter Tryz.func117, Tryz.ntmps117
   go_wp2
   go_ret
   first | exact ⟨true, rfl, by simp, rfl⟩ | exact .inr ⟨rfl, by simp, rfl⟩
  ·have q1 : (n == 8) = false := by simpa using c1
   by_cases c2 : n = 16
   ·subst c2
    clear c0
    clear c1
    go_enter Tryz.func117, Tryz.ntmps117
    go_wp2
    go_ret
    first | exact ⟨true, rfl, by simp, rfl⟩ | exact .inr ⟨rfl, by simp, rfl⟩
   ·have q2 : (n == 16) = false := by simpa using c2
    by_cases c3 : n = 32
    ·subst c3
     clear c0
     clear c1
     clear c2
     go_enter Tryz.func117, Tryz.ntmps117
     go_wp2
     go_ret
     first | exact ⟨true, rfl, by simp, rfl⟩ | exact .inr ⟨rfl, by simp, rfl⟩
    ·have q3 : (n == 32) = false := by simpa using c3
     by_cases c4 : n = 64
     ·subst c4
      clear c0
      clear c1
      clear c2
      clear c3
      go_enter Tryz.func117, Tryz.ntmps117
      go_wp2
      go_ret
      first | exact ⟨true, rfl, by simp, rfl⟩ | exact .inr ⟨rfl, by simp, rfl⟩
     ·have q4 : (n == 64) = false := by simpa using c4
      have HN := hI (show ¬ (n = 4 ∨ n = 8 ∨ n = 16 ∨ n = 32 ∨ n = 64) by omega)
      clear c0 c1 c2 c3 c4
      go_enter Tryz.func117, Tryz.ntmps117
      go_wp2
      go_ret
      first | exact ⟨false, rfl, ⟨(fun h => by cases h), fun h => absurd h HN.out⟩, rfl⟩ | exact .inl ⟨rfl, HN.out, rfl⟩
theorem qpP (n : Int) (w : World) : Calls Tryz.prog 121 #[.int .i64 n] w fun e w' => ∃ x : Bool, e = .returned (.bool x) /\ (x = true ↔ n = 4 ∨ n = 8 ∨ n = 16 ∨ n = 32 ∨ n = 64) /\ w = w' := by
 by_cases c0 : n = 4
 ·subst c0
  go_enter Tryz.func121, Tryz.ntmps121
  go_wp2
  go_ret
  first | exact ⟨true, rfl, by simp, rfl⟩ | exact .inr ⟨rfl, by simp, rfl⟩
 ·have q0 : (n == 4) = false := by simpa using c0
  by_cases c1 : n = 8
  ·subst c1
   clear c0
   go_enter Tryz.func121, Tryz.ntmps121
   go_wp2
   go_ret
   first | exact ⟨true, rfl, by simp, rfl⟩ | exact .inr ⟨rfl, by simp, rfl⟩
  ·have q1 : (n == 8) = false := by simpa using c1
   by_cases c2 : n = 16
   ·subst c2
    clear c0
    clear c1
    go_enter Tryz.func121, Tryz.ntmps121
    go_wp2
    go_ret
    first | exact ⟨true, rfl, by simp, rfl⟩ | exact .inr ⟨rfl, by simp, rfl⟩
   ·have q2 : (n == 16) = false := by simpa using c2
    by_cases c3 : n = 32
    ·subst c3
     clear c0
     clear c1
     clear c2
     go_enter Tryz.func121, Tryz.ntmps121
     go_wp2
     go_ret
     first | exact ⟨true, rfl, by simp, rfl⟩ | exact .inr ⟨rfl, by simp, rfl⟩
    ·have q3 : (n == 32) = false := by simpa using c3
     by_cases c4 : n = 64
     ·subst c4
      clear c0
      clear c1
      clear c2
      clear c3
      go_enter Tryz.func121, Tryz.ntmps121
      go_wp2
      go_ret
      first | exact ⟨true, rfl, by simp, rfl⟩ | exact .inr ⟨rfl, by simp, rfl⟩
     ·have q4 : (n == 64) = false := by simpa using c4
      have HN := hI (show ¬ (n = 4 ∨ n = 8 ∨ n = 16 ∨ n = 32 ∨ n = 64) by omega)
      clear c0 c1 c2 c3 c4
      go_enter Tryz.func121, Tryz.ntmps121
      go_wp2
      go_ret
      first | exact ⟨false, rfl, ⟨(fun h => by cases h), fun h => absurd h HN.out⟩, rfl⟩ | exact .inl ⟨rfl, HN.out, rfl⟩
def qgQ (k : ByteArray) : Bool := decide (1 <= k.size) && decide (k.size <= 12)
theorem qfV (k : ByteArray) : qgQ k = true ↔ 1 <= k.size /\ k.size <= 12 := by simp [qgQ]
theorem qhC (k : ByteArray) : k.toList.length = k.size := by rw [ByteArray.toList_eq]; simp
theorem quJ {k : ByteArray} (h : qgQ k = true) : k.toList ≠ [] := by
 intro e
 have := qhC k
 rw [e] at this
 have := (qfV k).1 h
 simp at *
 omega
theorem qzA {k : ByteArray} (h : k.toList ≠ []) : 1 <= k.size := by
 have := qhC k
 have := List.length_pos_iff.2 h
 omega
theorem qlO (k : ByteArray) (w : World) : Calls Tryz.prog 67 #[.string k] w fun e w' => e = .returned (.bool (qgQ k)) /\ w' = w := by
 by_cases h1 : 1 <= k.size
 ·by_cases h2 : k.size <= 12
  ·have HF := hI (show qgQ k = true by simp [qgQ, h1, h2])
   go_enter Tryz.func67, Tryz.ntmps67
   go_wp2
   go_ret
   exact ⟨by rw [HF.out]; first | rfl | (show Ending.returned (.bool (decide ((k.size : Int) <= 12))) = _; rw [decide_eq_true (by omega)]), rfl⟩
  ·have HF := hI (show qgQ k = false by simp [qgQ, h2])
   go_enter Tryz.func67, Tryz.ntmps67
   go_wp2
   go_ret
   exact ⟨by rw [HF.out]; first | rfl | (show Ending.returned (.bool (decide ((k.size : Int) <= 12))) = _; rw [decide_eq_false (by omega)]), rfl⟩
 ·have HF := hI (show qgQ k = false by simp [qgQ, h1])
  go_enter Tryz.func67, Tryz.ntmps67
  go_wp2
  go_ret
  exact ⟨by rw [HF.out]; rfl, rfl⟩
theorem qkC (ao : Option Addr) (l : List Ce) (ca : Nat) (w : World) (hl : l.length <= 1048576) (hA : RdJ w ao l) :
  Calls Tryz.prog 194 #[.slice ao l.length ca] w fun e w' => ∃ x : Bool, e = .returned (.bool x) /\ (x = true ↔ qfM l) /\ Below w.heap.size w w' := by
 have HA := hI hA
 clear hA
 go_enter Tryz.func194, Tryz.ntmps194
 go_wp2
 go_loopw [8] (fun iv wr => ∃ i : Nat, i <= l.length /\ iv = .int .i64 (i : Int) /\ Hid (∀ j (h : j < l.length), j < i -> qwO l[j]) /\ Hid (Below w.heap.size w wr)) (fun iv _ => l.length - (intOf iv).toNat)
 case atStart => exact ⟨0, by omega, rfl, fun j _ h => by omega, Below.refl _ _⟩
 case round =>
  obtain ⟨i, hi, rfl, hok, hbel⟩ := hrel
  by_cases hlt : i < l.length
  ·have k1 : (i : Int) < (l.length : Int) := by omega
   obtain ⟨b, o, hao, hb, h1⟩ := HA.out i hlt
   obtain ⟨x0, x1⟩ := h1.below hbel.out hb
   have hno := hI (fun (h : ¬ qwO l[i]) (hr : qfM l) => h (hr i hlt))
   have hyes := hI (fun (h : qwO l[i]) j (hj : j < l.length) (hj2 : j < i + 1) => show qwO l[j] by
    by_cases e : j < i
    ·exact hok.out j hj e
    ·obtain rfl : j = i := by omega
     exact h)
   have CK := hI (fun w => qlO l[i].key w)
   generalize l[i] = s at *
   obtain ⟨ky, hh⟩ := s
   simp only at x0 x1 CK
   have BX : Hid (Below w.heap.size w (wr.alloc (.cells #[.string ky, .int .i64 hh] 132))) := hbel.out.alloc hbel.out.size _
   have NN : Hid ((wr.alloc (.cells #[.string ky, .int .i64 hh] 132)).cell? ⟨wr.heap.size, 0, none⟩ = some (.string ky) /\ (wr.alloc (.cells #[.string ky, .int .i64 hh] 132)).cell? ⟨wr.heap.size, 1, none⟩ = some (.int .i64 hh)) := ⟨World.cell?_alloc_at _ _ _ _ rfl, World.cell?_alloc_at _ _ _ _ rfl⟩
   rw [hao]
   clear h1 hok hao
   go_upto_region 4 with fail
   generalize (wr.alloc (.cells #[.string ky, .int .i64 hh] 132)) = wv at NN BX ⊢
   obtain ⟨n0, n1⟩ := NN.out
   clear NN x0 x1 hbel
   by_cases d1 : ky.toList = []
   ·have b1 : ky.toList.isEmpty = true := by rw [d1]; rfl
    by_cases d2 : hh = -1
    ·have b2 : (hh == (-1 : Int)) = true := by simp [d2]
     have HY := hI (hyes.out (.inl ⟨d1, .inl d2⟩))
     clear hyes hno d1 d2
     go_wp2
     go_roundw
     case rel => exact ⟨i + 1, by omega, by go_num, HY, BX⟩
     case measure => simp [intOf]; omega
    ·have b2 : (hh == (-1 : Int)) = false := by simp [d2]
     by_cases d3 : hh = -2
     ·have b3 : (hh == (-2 : Int)) = true := by simp [d3]
      have HY := hI (hyes.out (.inl ⟨d1, .inr d3⟩))
      clear hyes hno d1 d2 d3
      go_wp2
      go_roundw
      case rel => exact ⟨i + 1, by omega, by go_num, HY, BX⟩
      case measure => simp [intOf]; omega
     ·have b3 : (hh == (-2 : Int)) = false := by simp [d3]
      have HN := hI (hno.out (fun h => by rcases h with ⟨_, h | h⟩ | ⟨h, _⟩ <;> first | exact d2 h | exact d3 h | exact h d1))
      have hkf : qgQ ky = false := by
       cases e : qgQ ky with
       | false => rfl
       | true => exact absurd d1 (quJ e)
      rw [hkf] at CK
      clear hyes hno d1 d2 d3 hkf
      go_wp2_with fail
      refine (CK.out _).mono ?_
      rintro e w1 ⟨rfl, rfl⟩
      go_wp2
      go_ret
      exact ⟨false, rfl, ⟨(fun h => by cases h), fun h => absurd h HN.out⟩, BX.out⟩
   ·have b1 : ky.toList.isEmpty = false := by cases h : ky.toList with | nil => exact absurd h d1 | cons a b => rfl
    by_cases d4 : ky.size <= 12
    ·have hkf : qgQ ky = true := (qfV ky).2 ⟨qzA d1, d4⟩
     rw [hkf] at CK
     by_cases d5 : 0 <= hh
     ·have b5 : decide (0 <= hh) = true := decide_eq_true d5
      have HY := hI (hyes.out (.inr ⟨d1, d4, d5⟩))
      clear hyes hno d1 d4 d5 hkf
      go_wp2_with fail
      refine (CK.out _).mono ?_
      rintro e w1 ⟨rfl, rfl⟩
      go_wp2
      go_roundw
      case rel => exact ⟨i + 1, by omega, by go_num, HY, BX⟩
      case measure => simp [intOf]; omega
     ·have b5 : decide (0 <= hh) = false := decide_eq_false d5
      have HN := hI (hno.out (fun h => by rcases h with ⟨h, _⟩ | ⟨_, _, h⟩ <;> first | exact d1 h | exact d5 h))
      clear hyes hno d1 d4 d5 hkf
      go_wp2_with fail
      refine (CK.out _).mono ?_
      rintro e w1 ⟨rfl, rfl⟩
      go_wp2
      go_ret
      exact ⟨false, rfl, ⟨(fun h => by cases h), fun h => absurd h HN.out⟩, BX.out⟩
    ·have hkf : qgQ ky = false := by
      cases e : qgQ ky with
      | false => rfl
      | true => exact absurd ((qfV ky).1 e).2 d4
     rw [hkf] at CK
     have HN := hI (hno.out (fun h => by rcases h with ⟨h, _⟩ | ⟨_, h, _⟩ <;> first | exact d1 h | exact d4 h))
     clear hyes hno d1 d4 hkf
     go_wp2_with fail
     refine (CK.out _).mono ?_
     rintro e w1 ⟨rfl, rfl⟩
     go_wp2
     go_ret
     exact ⟨false, rfl, ⟨(fun h => by cases h), fun h => absurd h HN.out⟩, BX.out⟩
  ·have HY := hI (show qfM l from fun j hj => hok.out j hj (by omega))
   clear hok
   go_wp2
   go_ret
   exact ⟨true, rfl, ⟨(fun _ => HY.out), fun _ => rfl⟩, hbel.out⟩
theorem qiF {w : World} {r : Nat} {vo vm : Value} (ao : Option Addr) (l : List Ce) (ca : Nat) (hK : Blk w r 181 [.slice ao l.length ca, vo, vm]) (hl : l.length <= 1048576) (hA : RdJ w ao l) :
  Calls Tryz.prog 193 #[.pointer (some ⟨r, 0, none⟩)] w fun e w' => e = .returned (.int .i64 (qkH l l.length : Int)) /\ Below w.heap.size w w' := by
 have HA := hI hA
 have v0 : w.cell? ⟨r, 0, none⟩ = _ := cRn (hK.cell 0) rfl
 clear hA hK
 go_enter Tryz.func193, Tryz.ntmps193
 go_wp2
 go_loopw [3, 11] (fun cv iv wr => ∃ i n : Nat, i <= l.length /\ n <= i /\ iv = .int .i64 (i : Int) /\ cv = .int .i64 (n : Int) /\ Hid (n = qkH l i) /\ Hid (Below w.heap.size w wr)) (fun _ iv _ => l.length - (intOf iv).toNat)
 case atStart => exact ⟨0, 0, by omega, by omega, rfl, rfl, rfl, Below.refl _ _⟩
 case round =>
  obtain ⟨i, n, hi, hn, rfl, rfl, hcn, hbel⟩ := hrel
  by_cases hlt : i < l.length
  ·have k1 : (i : Int) < (l.length : Int) := by omega
   obtain ⟨b, o, hao, hb, h1⟩ := HA.out i hlt
   obtain ⟨x0, x1⟩ := h1.below hbel.out hb
   have hnx : Hid (qkH l (i + 1) = n + (if l[i].h = -1 then 1 else 0)) := by
    show qkH l (i + 1) = _
    rw [qkH, List.getElem?_eq_getElem hlt, hcn.out]
   generalize l[i] = s at *
   obtain ⟨ky, hh⟩ := s
   simp only at x0 x1 hnx
   have BX : Hid (Below w.heap.size w (wr.alloc (.cells #[.string ky, .int .i64 hh] 132))) := hbel.out.alloc hbel.out.size _
   have NN : Hid ((wr.alloc (.cells #[.string ky, .int .i64 hh] 132)).cell? ⟨wr.heap.size, 0, none⟩ = some (.string ky) /\ (wr.alloc (.cells #[.string ky, .int .i64 hh] 132)).cell? ⟨wr.heap.size, 1, none⟩ = some (.int .i64 hh)) := ⟨World.cell?_alloc_at _ _ _ _ rfl, World.cell?_alloc_at _ _ _ _ rfl⟩
   rw [hao]
   clear h1 hao v0 hcn
   go_upto_region 5 with fail
   generalize (wr.alloc (.cells #[.string ky, .int .i64 hh] 132)) = wv at NN BX ⊢
   obtain ⟨n0, n1⟩ := NN.out
   clear NN x0 x1 hbel
   by_cases d2 : hh = -1
   ·have b2 : (hh == (-1 : Int)) = true := by simp [d2]
    have HY : Hid (n + 1 = qkH l (i + 1)) := by show n + 1 = _; rw [hnx.out, if_pos d2]
    clear d2 hnx
    go_wp2
    go_roundw
    case rel => exact ⟨i + 1, n + 1, by omega, by omega, by go_num, by go_num, HY, BX⟩
    case measure => simp [intOf]; omega
   ·have b2 : (hh == (-1 : Int)) = false := by simp [d2]
    have HY : Hid (n = qkH l (i + 1)) := by show n = _; rw [hnx.out, if_neg d2]; rfl
    clear d2 hnx
    go_wp2
    go_roundw
    case rel => exact ⟨i + 1, n, by omega, by omega, by go_num, rfl, HY, BX⟩
    case measure => simp [intOf]; omega
  ·obtain rfl : i = l.length := by omega
   clear v0
   go_wp2
   go_ret
   exact ⟨by rw [<- hcn.out]; rfl, hbel.out⟩
theorem qdB (ao : Option Addr) (l : List Ce) (ca : Nat) (key : ByteArray) (w : World) (hl : l.length <= 1048576) (hk : key.size <= 1048576) (hA : RdJ w ao l) :
  Calls Tryz.prog 141 #[.slice ao l.length ca, .string key] w fun e w' => e = .returned (.int .i64 (qdC (qaP l key).1)) /\ Below w.heap.size w w' := by
 have C1 := hI (qmW ao l ca key w hl hk hA)
 clear hA
 go_enter Tryz.func141, Tryz.ntmps141
 go_wp2_with fail
 refine C1.out.mono ?_
 rintro e w1 ⟨rfl, hb1⟩
 go_wp2
 go_ret
 exact ⟨rfl, hb1⟩
theorem zbU {a : Option Nat} {i : Nat} : qdC a = (i : Int) ↔ a = some i := by
 cases a with
 | none => simp [qdC]
 | some k => simp [qdC]; omega
theorem qzI {a : Option Nat} : qdC a = -1 ↔ a = none := by
 cases a with
 | none => simp [qdC]
 | some k => simp [qdC]
theorem qiD {l : List Ce} (h : qfM l) (i : Nat) (hi : i < l.length) : l[i].key.size <= 12 := by
 rcases h i hi with ⟨e, _⟩ | ⟨_, e, _⟩
 ·have := qhC l[i].key
  rw [e] at this
  simp at this
  omega
 ·exact e
theorem qkD (ao : Option Addr) (l : List Ce) (ca : Nat) (w : World) (hl : l.length <= 1048576) (hF : qfM l) (hA : RdJ w ao l) :
  Calls Tryz.prog 195 #[.slice ao l.length ca] w fun e w' => ∃ x : Bool, e = .returned (.bool x) /\ (x = true ↔ qtT l) /\ Below w.heap.size w w' := by
 have HA := hI hA
 have HF := hI hF
 have CS := hI (fun w' (hb : Below w.heap.size w w') (key : ByteArray) (hk : key.size <= 1048576) => qdB ao l ca key w' hl hk (hA.later hb))
 clear hA hF
 go_enter Tryz.func195, Tryz.ntmps195
 go_wp2
 go_loopw [7] (fun iv wr => ∃ i : Nat, i <= l.length /\ iv = .int .i64 (i : Int) /\ Hid (∀ j (h : j < l.length), j < i -> l[j].key.toList ≠ [] -> (qaP l l[j].key).1 = some j) /\ Hid (Below w.heap.size w wr)) (fun iv _ => l.length - (intOf iv).toNat)
 case atStart => exact ⟨0, by omega, rfl, fun j _ h => by omega, Below.refl _ _⟩
 case round =>
  obtain ⟨i, hi, rfl, hok, hbel⟩ := hrel
  by_cases hlt : i < l.length
  ·have k1 : (i : Int) < (l.length : Int) := by omega
   obtain ⟨b, o, hao, hb, h1⟩ := HA.out i hlt
   obtain ⟨x0, x1⟩ := h1.below hbel.out hb
   have hks := qiD HF.out i hlt
   have hno := hI (fun (h : ¬ (l[i].key.toList ≠ [] -> (qaP l l[i].key).1 = some i)) (hr : qtT l) => h (hr i hlt))
   have hyes := hI (fun (h : l[i].key.toList ≠ [] -> (qaP l l[i].key).1 = some i) j (hj : j < l.length) (hj2 : j < i + 1) => show l[j].key.toList ≠ [] -> (qaP l l[j].key).1 = some j by
    by_cases e : j < i
    ·exact hok.out j hj e
    ·obtain rfl : j = i := by omega
     exact h)
   generalize l[i] = s at *
   obtain ⟨ky, hh⟩ := s
   simp only at x0 x1 hks hno hyes
   have BX : Hid (Below w.heap.size w (wr.alloc (.cells #[.string ky, .int .i64 hh] 132))) := hbel.out.alloc hbel.out.size _
   have NN : Hid ((wr.alloc (.cells #[.string ky, .int .i64 hh] 132)).cell? ⟨wr.heap.size, 0, none⟩ = some (.string ky) /\ (wr.alloc (.cells #[.string ky, .int .i64 hh] 132)).cell? ⟨wr.heap.size, 1, none⟩ = some (.int .i64 hh)) := ⟨World.cell?_alloc_at _ _ _ _ rfl, World.cell?_alloc_at _ _ _ _ rfl⟩
   have HAO := hI hao
   rw [hao]
   clear h1 hok hao
   go_upto_region 4 with fail
   generalize (wr.alloc (.cells #[.string ky, .int .i64 hh] 132)) = wv at NN BX ⊢
   obtain ⟨n0, n1⟩ := NN.out
   clear NN x0 x1 hbel
   by_cases d1 : ky.toList = []
   ·have b1 : ky.toList.isEmpty = true := by rw [d1]; rfl
    have HY := hI (hyes.out (fun h => absurd d1 h))
    clear hyes hno d1
    go_wp2
    go_roundw
    case rel => exact ⟨i + 1, by omega, by go_num, HY, BX⟩
    case measure => simp [intOf]; omega
   ·have b1 : ky.toList.isEmpty = false := by cases h : ky.toList with | nil => exact absurd h d1 | cons a b => rfl
    have CSI := hI (CS.out wv BX.out ky (by omega))
    rw [HAO.out] at CSI
    go_wp2_with fail
    refine CSI.out.mono ?_
    rintro e w2 ⟨rfl, hb2⟩
    have B2 := tRn BX hb2
    clear hb2 CSI
    by_cases d2 : (qaP l ky).1 = some i
    ·have HY := hI (hyes.out (fun _ => d2))
     rw [d2]
     have q : ((i : Int) != (i : Int)) = false := by simp
     unfold qdC
     clear hyes hno d1 d2
     go_wp2
     go_roundw
     case rel => exact ⟨i + 1, by omega, by go_num, HY, B2⟩
     case measure => simp [intOf]; omega
    ·have HN := hI (hno.out (fun h => d2 (h d1)))
     have q : (qdC (qaP l ky).1 != (i : Int)) = true := by simp; intro h; exact d2 (zbU.1 h)
     generalize qdC (qaP l ky).1 = r at *
     clear hyes hno d1 d2
     go_wp2
     go_ret
     exact ⟨false, rfl, ⟨(fun h => by cases h), fun h => absurd h HN.out⟩, B2.out⟩
  ·have HY := hI (show qtT l from fun j hj => hok.out j hj (by omega))
   clear hok
   go_wp2
   go_ret
   exact ⟨true, rfl, ⟨(fun _ => HY.out), fun _ => rfl⟩, hbel.out⟩
theorem qoZ {B : Nat} {a w : World} (h : Below B a w) (q : Nat) : Below B a (w.drewN q) := by
 induction q generalizing w with
 | zero => exact h
 | succ q ih => exact (ih h).drew
theorem qxJ {w : World} {r : Nat} (ao a' : Option Addr) (l o : List Ce) (ca ca' mv : Nat) (hK : Blk w r 181 [.slice ao l.length ca, .slice a' o.length ca', .int .i64 (mv : Int)]) (hl : l.length <= 1048576) (hl' : o.length <= 1048576) (hm : mv <= o.length) (hc : o.length <= ca') (hA : RdJ w ao l) (hA' : RdJ w a' o) :
  Calls Tryz.prog 171 #[.pointer (some ⟨r, 0, none⟩)] w fun e w' => ∃ x : Bool, e = .returned (.bool x) /\ (x = true ↔ OkI l o mv) /\ Below w.heap.size w w' := by
 have C1 := hI (qkC ao l ca w hl hA)
 have C2 := hI (fun w' (hb : Below w.heap.size w w') => qkC a' o ca' w' hl' (hA'.later hb))
 have C3 := hI (fun w' (hb : Below w.heap.size w w') => qiF ao l ca (hK.below hb hK.lt) hl (hA.later hb))
 have C4 := hI (fun w' (hb : Below w.heap.size w w') (hF : qfM l) => qkD ao l ca w' hl hF (hA.later hb))
 have C5 := hI (fun w' (hb : Below w.heap.size w w') (hF : qfM o) => qkD a' o ca' w' hl' hF (hA'.later hb))
 have C6 := hI (fun w' (hb : Below w.heap.size w w') (key : ByteArray) (hk : key.size <= 1048576) => qdB ao l ca key w' hl hk (hA.later hb))
 have KK := hI (fun w' (hb : Below w.heap.size w w') => hK.below hb hK.lt)
 have HA' := hI hA'
 have hrl := hK.lt
 have v0 : w.cell? ⟨r, 0, none⟩ = _ := cRn (hK.cell 0) rfl
 clear hA hA' hK
 go_enter Tryz.func171, Tryz.ntmps171
 go_wp2_with fail
 refine C1.out.mono ?_
 rintro e w1 ⟨x, rfl, hx, hb1⟩
 have HX := hI hx
 have B1 := hI hb1
 clear hx hb1 v0 C1
 have v1 : w1.cell? ⟨r, 1, none⟩ = some (.slice a' o.length ca') := (KK.out w1 B1.out).cell 1
 rcases x with _ | _
 ·have HN := hI (show ¬ OkI l o mv from fun h => by have := HX.out.2 h.f1; cases this)
  clear HX
  go_wp2
  go_ret
  exact ⟨false, rfl, ⟨(fun h => by cases h), fun h => absurd h HN.out⟩, B1.out⟩
 have F1 := hI (HX.out.1 rfl)
 clear HX
 go_wp2_with fail
 refine (C2.out w1 B1.out).mono ?_
 rintro e w2 ⟨x, rfl, hx, hb2⟩
 have HX := hI hx
 have B2 := tRn B1 hb2
 clear hx hb2 v1 C2
 rcases x with _ | _
 ·have HN := hI (show ¬ OkI l o mv from fun h => by have := HX.out.2 h.f2; cases this)
  clear HX
  go_wp2
  go_ret
  exact ⟨false, rfl, ⟨(fun h => by cases h), fun h => absurd h HN.out⟩, B2.out⟩
 have F2 := hI (HX.out.1 rfl)
 clear HX
 go_wp2_with fail
 refine (C3.out w2 B2.out).mono ?_
 rintro e w3 ⟨rfl, hb3⟩
 have B3 := tRn B2 hb3
 clear hb3 C3
 by_cases c3 : qkH l l.length = 0
 ·have q3 : ((qkH l l.length : Int) == 0) = true := by simp [c3]
  have HN := hI (show ¬ OkI l o mv from fun h => by have := h.none; omega)
  generalize qkH l l.length = n at *
  clear c3
  go_wp2
  go_ret
  exact ⟨false, rfl, ⟨(fun h => by cases h), fun h => absurd h HN.out⟩, B3.out⟩
 have q3 : ((qkH l l.length : Int) == 0) = false := by simp; omega
 have F3 := hI (show 0 < qkH l l.length by omega)
 generalize hcn : qkH l l.length = n at *
 have HCN := hI hcn
 clear c3 hcn
 have u1 : w3.cell? ⟨r, 1, none⟩ = some (.slice a' o.length ca') := (KK.out w3 B3.out).cell 1
 have u2 : w3.cell? ⟨r, 2, none⟩ = some (.int .i64 (mv : Int)) := (KK.out w3 B3.out).cell 2
 have m1 : (mv : Int) <= (o.length : Int) := by omega
 have m2 : (mv : Int) <= (ca' : Int) := by omega
 go_wp2
 go_quiet (fail)
 go_wp2
 rename_i nq
 have B4 := hI (qoZ B3.out nq)
 generalize w3.drewN nq = w4 at B4 ⊢
 clear u1 u2 m1 m2 B3 q3
 go_loopw [40] (fun iv wr => ∃ i : Nat, i <= mv /\ iv = .int .i64 (i : Int) /\ Hid (∀ j (h : j < o.length), j < i -> o[j].h = -2) /\ Hid (Below w.heap.size w wr)) (fun iv _ => mv - (intOf iv).toNat)
 case atStart => exact ⟨0, by omega, rfl, fun j _ h => by omega, B4.out⟩
 case round =>
  obtain ⟨i, hi, rfl, hok, hbel⟩ := hrel
  by_cases hlt : i < mv
  ·have k1 : (i : Int) < (mv : Int) := by omega
   have hio : i < o.length := by omega
   obtain ⟨b, of, hao, hb, h1⟩ := HA'.out i hio
   obtain ⟨x0, x1⟩ := h1.below hbel.out hb
   have hno := hI (fun (h : ¬ o[i].h = -2) (hr : OkI l o mv) => h (hr.gone i hio hlt))
   have hyes := hI (fun (h : o[i].h = -2) j (hj : j < o.length) (hj2 : j < i + 1) => show o[j].h = -2 by
    by_cases e : j < i
    ·exact hok.out j hj e
    ·obtain rfl : j = i := by omega
     exact h)
   generalize o[i] = s at *
   obtain ⟨ky, hh⟩ := s
   simp only at x0 x1 hno hyes
   have BX : Hid (Below w.heap.size w (wr.alloc (.cells #[.string ky, .int .i64 hh] 132))) := hbel.out.alloc hbel.out.size _
   have NN : Hid ((wr.alloc (.cells #[.string ky, .int .i64 hh] 132)).cell? ⟨wr.heap.size, 0, none⟩ = some (.string ky) /\ (wr.alloc (.cells #[.string ky, .int .i64 hh] 132)).cell? ⟨wr.heap.size, 1, none⟩ = some (.int .i64 hh)) := ⟨World.cell?_alloc_at _ _ _ _ rfl, World.cell?_alloc_at _ _ _ _ rfl⟩
   rw [hao]
   clear h1 hok hao
   go_upto_region 6 with fail
   generalize (wr.alloc (.cells #[.string ky, .int .i64 hh] 132)) = wv at NN BX ⊢
   obtain ⟨n0, n1⟩ := NN.out
   clear NN x0 x1 hbel
   by_cases d1 : hh = -2
   ·have b1 : (hh != (-2 : Int)) = false := by simp [d1]
    have HY := hI (hyes.out d1)
    clear hyes hno d1
    go_wp2
    go_roundw
    case rel => exact ⟨i + 1, by omega, by go_num, HY, BX⟩
    case measure => simp [intOf]; omega
   ·have b1 : (hh != (-2 : Int)) = true := by simp [d1]
    have HN := hI (hno.out d1)
    clear hyes hno d1
    go_wp2
    go_ret
    exact ⟨false, rfl, ⟨(fun h => by cases h), fun h => absurd h HN.out⟩, BX.out⟩
  ·have F4 := hI (show ∀ j (h : j < o.length), j < mv -> o[j].h = -2 from fun j hj hm => hok.out j hj (by omega))
   obtain rfl : i = mv := by omega
   have k1 : decide ((i : Int) < (i : Int)) = false := by simp
   clear hok
   have v0 : wr.cell? ⟨r, 0, none⟩ = some (.slice ao l.length ca) := (KK.out wr hbel.out).cell 0
   go_wp2_with fail
   refine (C4.out wr hbel.out F1.out).mono ?_
   rintro e w5 ⟨x, rfl, hx, hb5⟩
   have HX := hI hx
   have B5 := tRn hbel hb5
   clear hx hb5 v0 C4
   have v1 : w5.cell? ⟨r, 1, none⟩ = some (.slice a' o.length ca') := (KK.out w5 B5.out).cell 1
   rcases x with _ | _
   ·have HN := hI (show ¬ OkI l o i from fun h => by have := HX.out.2 h.s1; cases this)
    clear HX
    go_wp2
    go_ret
    exact ⟨false, rfl, ⟨(fun h => by cases h), fun h => absurd h HN.out⟩, B5.out⟩
   ·have F5 := hI (HX.out.1 rfl)
    clear HX
    go_wp2_with fail
    refine (C5.out w5 B5.out F2.out).mono ?_
    rintro e w6 ⟨x, rfl, hx, hb6⟩
    have HX := hI hx
    have B6 := tRn B5 hb6
    clear hx hb6 v1 C5
    rcases x with _ | _
    ·have HN := hI (show ¬ OkI l o i from fun h => by have := HX.out.2 h.s2; cases this)
     clear HX
     go_wp2
     go_ret
     exact ⟨false, rfl, ⟨(fun h => by cases h), fun h => absurd h HN.out⟩, B6.out⟩
    ·have F6 := hI (HX.out.1 rfl)
     clear HX
     have v1 : w6.cell? ⟨r, 1, none⟩ = some (.slice a' o.length ca') := (KK.out w6 B6.out).cell 1
     go_wp2
     clear v1 hbel
     go_loopw [67] (fun iv wr => ∃ i : Nat, i <= o.length /\ iv = .int .i64 (i : Int) /\ Hid (∀ j (h : j < o.length), j < i -> (qaP l o[j].key).1 = none) /\ Hid (Below w.heap.size w wr)) (fun iv _ => o.length - (intOf iv).toNat)
     case atStart => exact ⟨0, by omega, rfl, fun j _ h => by omega, B6.out⟩
     case round =>
      obtain ⟨j, hj, rfl, hok, hbel⟩ := hrel
      by_cases hlt2 : j < o.length
      ·have k2 : (j : Int) < (o.length : Int) := by omega
       obtain ⟨b, of, hao, hb, h1⟩ := HA'.out j hlt2
       obtain ⟨x0, x1⟩ := h1.below hbel.out hb
       have hks := qiD F2.out j hlt2
       have hno := hI (fun (h : ¬ (qaP l o[j].key).1 = none) (hr : OkI l o i) => h (hr.apart j hlt2))
       have hyes := hI (fun (h : (qaP l o[j].key).1 = none) k (hk : k < o.length) (hk2 : k < j + 1) => show (qaP l o[k].key).1 = none by
        by_cases e : k < j
        ·exact hok.out k hk e
        ·obtain rfl : k = j := by omega
         exact h)
       generalize o[j] = s at *
       obtain ⟨ky, hh⟩ := s
       simp only at x0 x1 hno hyes hks
       have BX : Hid (Below w.heap.size w (wr.alloc (.cells #[.string ky, .int .i64 hh] 132))) := hbel.out.alloc hbel.out.size _
       have NN : Hid ((wr.alloc (.cells #[.string ky, .int .i64 hh] 132)).cell? ⟨wr.heap.size, 0, none⟩ = some (.string ky) /\ (wr.alloc (.cells #[.string ky, .int .i64 hh] 132)).cell? ⟨wr.heap.size, 1, none⟩ = some (.int .i64 hh)) := ⟨World.cell?_alloc_at _ _ _ _ rfl, World.cell?_alloc_at _ _ _ _ rfl⟩
       have hws : wr.heap.size < (wr.alloc (.cells #[.string ky, .int .i64 hh] 132)).heap.size := by rw [World.size_alloc]; omega
       rw [hao]
       clear h1 hok hao
       go_upto_region 14 with fail
       generalize hsz : wr.heap.size = sz at *
       generalize (wr.alloc (.cells #[.string ky, .int .i64 hh] 132)) = wv at NN BX hws ⊢
       obtain ⟨n0, n1⟩ := NN.out
       have N0 := hI n0
       have V0 := hI (show wv.cell? ⟨r, 0, none⟩ = some (.slice ao l.length ca) from (KK.out wv BX.out).cell 0)
       have hrv : r < wv.heap.size := Nat.lt_of_lt_of_le hrl BX.out.size
       have CSI := hI (fun w' (hb : Below wv.heap.size wv w') => C6.out w' (BX.out.trans (hb.mono BX.out.size)) ky (by omega))
       have v0 := V0.out
       clear NN x0 x1 hbel hsz n1
       by_cases d1 : (qaP l ky).1 = none
       ·have HY := hI (hyes.out d1)
        rw [d1] at CSI
        have q : ((-1 : Int) != (-1 : Int)) = false := by simp
        unfold qdC at CSI
        clear hyes hno d1
        go_region_held3 (fun w' => w'.cell? ⟨r, 0, none⟩ = some (.slice ao l.length ca) /\ w'.cell? ⟨sz, 0, none⟩ = some (.string ky)) (first | go_keep | exact ⟨V0.out, N0.out⟩ | exact ⟨(hb2.cell hrv).trans V0.out, (hb2.cell hws).trans N0.out⟩) ((go_at_call 141; refine (CSI.out _ (by go_grown)).mono ?_; rintro e w7 ⟨rfl, hb7⟩; have hb2 : Below wv.heap.size wv w7 := (show Below wv.heap.size wv _ by go_grown).trans hb7))
        go_wp2
        go_roundw
        case rel => exact ⟨j + 1, by omega, by go_num, HY, BX.out.trans (hb2.mono BX.out.size)⟩
        case measure => simp [intOf]; omega
       ·have HN := hI (hno.out d1)
        have q : (qdC (qaP l ky).1 != (-1 : Int)) = true := by simp; intro h; exact d1 (qzI.1 h)
        generalize qdC (qaP l ky).1 = rr at *
        clear hyes hno d1
        go_region_held3 (fun w' => w'.cell? ⟨r, 0, none⟩ = some (.slice ao l.length ca) /\ w'.cell? ⟨sz, 0, none⟩ = some (.string ky)) (first | go_keep | exact ⟨V0.out, N0.out⟩ | exact ⟨(hb2.cell hrv).trans V0.out, (hb2.cell hws).trans N0.out⟩) ((go_at_call 141; refine (CSI.out _ (by go_grown)).mono ?_; rintro e w7 ⟨rfl, hb7⟩; have hb2 : Below wv.heap.size wv w7 := (show Below wv.heap.size wv _ by go_grown).trans hb7))
        go_wp2
        go_ret
        exact ⟨false, rfl, ⟨(fun h => by cases h), fun h => absurd h HN.out⟩, BX.out.trans (hb2.mono BX.out.size)⟩
      ·have HY := hI (show OkI l o i from ⟨F1.out, F2.out, by rw [HCN.out]; exact F3.out, F4.out, F5.out, F6.out, fun k hk => hok.out k hk (by omega)⟩)
       clear hok
       go_wp2
       go_ret
       exact ⟨true, rfl, ⟨(fun _ => HY.out), fun _ => rfl⟩, hbel.out⟩
end Go.Proofs.YtigpjmmfelndkaaGreatDoor
