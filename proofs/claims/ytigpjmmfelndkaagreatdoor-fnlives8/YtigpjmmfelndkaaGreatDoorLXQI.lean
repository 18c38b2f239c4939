import Derived.Test.YtigpjmmfelndkaaGreatDoorLXQ
namespace Go.Proofs.YtigpjmmfelndkaaGreatDoor
open Go.RowKit
set_option maxRecDepth 100000
set_option maxHeartbeats 2000000
theorem RdQ.take {w : World} {a : Option Addr} {l : List ByteArray} (h : RdQ w a l) (i : Nat) : RdQ w a (l.take i) := by
 intro j hj
 have hj2 : j < l.length := by rw [List.length_take] at hj; omega
 obtain ⟨b, o, ha, hg, hc⟩ := h j hj2
 exact ⟨b, o, ha, hg, by rw [hc]; simp⟩
theorem qfI {l : List ByteArray} {k : ByteArray} {i : Nat} (h : i < l.length) (hk : ¬ k ∈ l.take i) (hn : ¬ l[i] = k) : ¬ k ∈ l.take (i + 1) := by
 rw [List.take_succ_eq_append_getElem h]
 intro hm
 rcases List.mem_append.1 hm with h1 | h1
 ·exact hk h1
 ·exact hn (List.mem_singleton.1 h1).symm
theorem qxP {w : World} {base n c : Nat} {e : TypeId} {ao : Option Addr} {xs : List Value} (h : w.ownsRow base e 1 (.slice ao n c) n xs) : n <= c /\ c <= maxLen := by
 rcases h.2 with ⟨hv, h0⟩ | ⟨g, cap, cur, hv, _, _, h1, h2, _⟩
 ·simp only [Value.slice.injEq] at hv; obtain ⟨_, _, rfl⟩ := hv; exact ⟨by omega, Nat.zero_le _⟩
 ·simp only [Value.slice.injEq] at hv; obtain ⟨_, _, rfl⟩ := hv; exact ⟨h1, h2⟩
theorem OwnQ.cap {w : World} {B c : Nat} {ao : Option Addr} {L : List ByteArray} (h : OwnQ w B ao c L) : L.length <= c /\ c <= maxLen := qxP h
theorem qvE (w : World) (t ty : TypeId) (ht : Tryz.prog.underlying t = some (.slice 9)) (base : Nat) (v : Value) (n : Nat) (l1 : List ByteArray) (hown : w.ownsRow base 9 1 v n (sc l1)) (ao : Option Addr) (m c : Nat) (l2 : List ByteArray) (hm : l2.length = m) (hA : RdQ w ao l2) (hlen : n + m <= 1048576) (hbase : base <= w.heap.size) :
  ∃ v' w', (Builtin.append_ #[t, t] ty #[v, .slice ao m c]).run Tryz.prog w = .ok v' w' /\ w'.ownsRow base 9 1 v' (n + m) (sc (l1 ++ l2)) /\ w.grownBy w' v.ownBlock := by
 obtain ⟨i0, hi, hz0, hz1, hz2⟩ := info_parts Tryz.infoQ
 by_cases h0 : m = 0
 ·subst h0
  have e : l2 = [] := List.eq_nil_of_length_eq_zero hm
  subst e
  refine ⟨v, w, ?_, by simpa using hown, qbO (Below.refl _ _)⟩
  rcases hown.2 with ⟨rfl, rfl⟩ | ⟨g, cap, cur, rfl, _, _, hnc, _⟩
  ·cases ao <;> simp [Builtin.append_, run_underlying ht, sizeOf, typeInfo, hi, Builtin.lenOf, Builtin.firstCells, loadCells, loadCellsFrom]
  ·cases ao <;> simp [Builtin.append_, run_underlying ht, sizeOf, typeInfo, hi, Builtin.lenOf, Builtin.firstCells, loadCells, loadCellsFrom, hnc, storeCells]
 ·obtain ⟨g, o, rfl, hg, _⟩ := hA 0 (by omega)
  have hAt : ∀ j v, (sc l2)[j]? = some v -> w.cell? ((⟨g, o, none⟩ : Addr).add j) = some v := fun j v hj => by
   have hj' : j < l2.length := by have := (List.getElem?_eq_some_iff.1 hj).1; rwa [qfR] at this
   obtain ⟨b', o', e, _, h⟩ := hA j hj'
   simp only [Option.some.injEq, Addr.mk.injEq, and_true] at e
   obtain ⟨rfl, rfl⟩ := e
   rw [qxN l2 j hj'] at hj
   rw [Addr.add_lit, <- hj]
   exact h
  obtain ⟨v', w', h1, h2, h3, _⟩ := run_append_own (P := Tryz.prog) w base t ty 9 i0 (.string ⟨#[]⟩) 1 16 ht hi hz0 hz1 hz2 rfl (by decide) v n (sc l1) hown ⟨g, o, none⟩ m c (sc l2) (by rw [qfR]; omega) hAt (zdR _) (by unfold maxLen; omega) (by omega) hbase
  exact ⟨v', w', h1, by rw [qdM]; exact h2, h3⟩
theorem qbV {ops : Array Oper} {rest : List Oper} {o : Oper} {a : Act} {w : World} {Q : Exit -> Act -> World -> Prop} (hgd : o.guard = none) (s x : Operand) (t : TypeId)
  (ho : o.op = .call { callee := .builtin .append, args := #[s, x], argTypes := #[t, t] }) (ht : Tryz.prog.underlying t = some (.slice 9)) (base : Nat) (v : Value) (n : Nat) (l1 : List ByteArray) (hs : a.eval s = v) (hown : w.ownsRow base 9 1 v n (sc l1)) (ao : Option Addr) (m c : Nat) (l2 : List ByteArray) (hx : a.eval x = .slice ao m c) (hm : l2.length = m) (hA : RdQ w ao l2) (hlen : n + m <= 1048576) (hbase : base <= w.heap.size)
  (h : ∀ v' w', w'.ownsRow base 9 1 v' (n + m) (sc (l1 ++ l2)) -> w.grownBy w' v.ownBlock -> wpList Tryz.prog ops Q rest (a.put o.dst v') w') : wpList Tryz.prog ops Q (o :: rest) a w := by
 refine wpList_plain hgd fun K hK => ?_
 obtain ⟨v', w', hrun, h1, h2⟩ := qvE w t o.type ht base v n l1 hown ao m c l2 hm hA hlen hbase
 unfold Oper.wp
 simp only [execOp, ho, resolve, invoke, builtin, Sem.run_bind, Sem.run_pure, Result.andThen_ok, List.map_toArray, List.map_cons, List.map_nil, hs, hx, hrun]
 exact hK _ _ (h v' w' h1 h2)
theorem qwX {ops : Array Oper} {o : Oper} {a : Act} {w : World} {K : Act -> World -> Prop} {Q : Exit -> Act -> World -> Prop} {E : Prop} (hgd : o.guard = none) (s x : Operand) (t : TypeId)
  (ho : o.op = .call { callee := .builtin .append, args := #[s, x], argTypes := #[t, t] }) (ht : Tryz.prog.underlying t = some (.slice 9)) (base : Nat) (v : Value) (n : Nat) (l1 : List ByteArray) (hs : a.eval s = v) (hown : w.ownsRow base 9 1 v n (sc l1)) (ao : Option Addr) (m c : Nat) (l2 : List ByteArray) (hx : a.eval x = .slice ao m c) (hm : l2.length = m) (hA : RdQ w ao l2) (hlen : n + m <= 1048576) (hbase : base <= w.heap.size)
  (h : ∀ v' w', w'.ownsRow base 9 1 v' (n + m) (sc (l1 ++ l2)) -> w.grownBy w' v.ownBlock -> K (a.put o.dst v') w') :
  if Region.wanted o (yielded ops a.tmps) = true then Oper.wp Tryz.prog o a w K Q else E := by
 have hw : Region.wanted o (yielded ops a.tmps) = true := by simp [Region.wanted, hgd]
 rw [if_pos hw]
 obtain ⟨v', w', hrun, h1, h2⟩ := qvE w t o.type ht base v n l1 hown ao m c l2 hm hA hlen hbase
 unfold Oper.wp
 simp only [execOp, ho, resolve, invoke, builtin, Sem.run_bind, Sem.run_pure, Result.andThen_ok, List.map_toArray, List.map_cons, List.map_nil, hs, hx, hrun]
 exact h v' w' h1 h2
theorem qxU (ao : Option Addr) (l : List ByteArray) (n ca : Nat) (k : ByteArray) (w : World) (hn : l.length = n) (hl : n <= 1048576) (hA : RdQ w ao l) :
  Calls Tryz.prog 205 #[.slice ao n ca, .string k] w fun e w' => (∃ r : Nat, r <= 1048576 /\ e = .returned (.int .i64 (r : Int)) /\ k ∈ l /\ w' = w) ∨ (e = .returned (.int .i64 (-1)) /\ ¬ k ∈ l /\ w' = w) := by
 have HA := hI hA
 have HN := hI hn
 clear hA hn
 go_enter Tryz.func205, Tryz.ntmps205
 go_wp2
 go_loop [8] (fun iv => ∃ i : Nat, i <= n /\ iv = .int .i64 (i : Int) /\ Hid (¬ k ∈ l.take i)) (fun iv => n - (intOf iv).toNat)
 case atStart => exact ⟨0, by omega, rfl, by show ¬ k ∈ l.take 0; simp⟩
 case round =>
  obtain ⟨i, hi, rfl, hno⟩ := hrel
  by_cases hlt : i < n
  ·have k1 : (i : Int) < (n : Int) := by omega
   have hil : i < l.length := by have := HN.out; omega
   obtain ⟨b, o, rfl, hb, h1⟩ := HA.out i hil
   obtain ⟨s, hs⟩ : ∃ s, l[i] = s := ⟨_, rfl⟩
   rw [hs] at h1
   have HS := hI hs
   clear hs
   by_cases ce : k = s
   ·obtain ⟨q, q'⟩ := qsO ce
    have HM := hI (show k ∈ l by rw [ce, <- HS.out]; exact List.getElem_mem _)
    clear ce
    go_wp2
    go_ret
    exact .inl ⟨i, by omega, rfl, HM.out, rfl⟩
   ·obtain ⟨q, q'⟩ := qdX ce
    have HM := hI (qfI hil hno.out (fun e => ce (by rw [<- HS.out, e])))
    clear ce
    go_wp2
    go_round
    case rel => exact ⟨i + 1, by omega, by go_num, HM⟩
    case measure => simp [intOf]; omega
  ·obtain rfl : i = n := by omega
   have HM := hI (show ¬ k ∈ l by have := hno.out; rwa [List.take_of_length_le (by rw [HN.out]; exact Nat.le_refl _)] at this)
   go_wp2
   go_ret
   exact .inr ⟨rfl, HM.out, rfl⟩
theorem qsD (ao : Option Addr) (l : List ByteArray) (n ca : Nat) (k : ByteArray) (w : World) (hn : l.length = n) (hl : n <= 1048576) (hA : RdQ w ao l) :
  Calls Tryz.prog 191 #[.slice ao n ca, .string k] w fun e w' => e = .returned (.bool (qeG l k)) /\ w' = w := by
 have CC := hI (qxU ao l n ca k w hn hl hA)
 clear hn hl hA
 go_enter Tryz.func191, Tryz.ntmps191
 go_wp2_with fail
 refine CC.out.mono ?_
 rintro e w1 (⟨r, hr, rfl, hm, rfl⟩ | ⟨rfl, hm, rfl⟩)
 ·have HM := hI ((qaF l k).2 hm)
  have q : decide (0 <= (r : Int)) = true := by simp
  clear hm
  go_wp2
  go_ret
  exact ⟨by rw [HM.out]; first | rfl | simp, rfl⟩
 ·have HM := hI (quO hm)
  clear hm
  go_wp2
  go_ret
  exact ⟨by rw [HM.out]; first | rfl | simp, rfl⟩
theorem quN (ao : Option Addr) (l : List ByteArray) (n ca : Nat) (k : ByteArray) (w : World) (hn : l.length = n) (hl : n <= 1048576) (hA : RdQ w ao l) :
  Calls Tryz.prog 164 #[.slice ao n ca, .string k] w fun e w' => e = .returned (.bool (qeG l k)) /\ w' = w := by
 have CC := hI (qsD ao l n ca k w hn hl hA)
 clear hn hl hA
 go_enter Tryz.func164, Tryz.ntmps164
 go_wp2_with fail
 refine CC.out.mono ?_
 rintro e w1 ⟨rfl, rfl⟩
 go_wp2
 go_ret
 exact ⟨rfl, rfl⟩
theorem qbA (ao : Option Addr) (n ca : Nat) (m : Int) (w : World) :
  Calls Tryz.prog 126 #[.agg #[.int .i64 m, .slice ao n ca]] w fun e w' => e = .returned (.slice ao n ca) /\ Below w.heap.size w w' := by
 have B1 := hI (fun o => bAl w o)
 go_enter Tryz.func126, Tryz.ntmps126
 go_wp2
 go_ret
 exact ⟨rfl, B1.out _⟩
theorem qbK (ao : Option Addr) (l : List ByteArray) (ca : Nat) (m : Int) (k : ByteArray) (w : World) (hl : l.length <= 1048576) (hA : RdQ w ao l) :
  Calls Tryz.prog 128 #[.agg #[.int .i64 m, .slice ao l.length ca], .string k] w fun e w' => e = .returned (.bool (qeG l k)) /\ Below w.heap.size w w' := by
 have B1 := hI (fun o => bAl w o)
 have C1 := hI (fun w' => qbA ao l.length ca m w')
 have C2 := hI (fun w' (hb : Below w.heap.size w w') => quN ao l l.length ca k w' rfl hl (hA.later hb))
 clear hA
 go_enter Tryz.func128, Tryz.ntmps128
 go_wp2_with fail
 refine (C1.out _).mono ?_
 rintro e w1 ⟨rfl, hb1⟩
 have B2 := hI ((B1.out _).trans (hb1.mono (B1.out _).size))
 clear hb1 B1
 go_wp2_with fail
 refine (C2.out _ B2.out).mono ?_
 rintro e w2 ⟨rfl, rfl⟩
 go_wp2
 go_ret
 exact ⟨rfl, B2.out⟩
theorem qcQ {l : List ByteArray} {i : Nat} (h : i < l.length) : (l.take (i + 1)).Nodup ↔ (l.take i).Nodup /\ ¬ l[i] ∈ l.take i := by
 rw [List.take_succ_eq_append_getElem h, List.nodup_append]
 constructor
 ·rintro ⟨h1, _, h3⟩; exact ⟨h1, fun hm => h3 _ hm _ (List.mem_singleton.2 rfl) rfl⟩
 ·rintro ⟨h1, h2⟩; exact ⟨h1, by simp, fun a ha b hb e => by rw [List.mem_singleton.1 hb] at e; subst e; exact h2 ha⟩
theorem qvH (ao : Option Addr) (l : List ByteArray) (ca : Nat) (w : World) (hl : l.length <= 1048576) (hc : l.length <= ca) (hcm : ca <= maxLen) (hA : RdQ w ao l) :
  Calls Tryz.prog 155 #[.slice ao l.length ca] w fun e w' => ∃ x : Bool, e = .returned (.bool x) /\ (x = true ↔ l.Nodup) /\ w' = w := by
 have HA := hI hA
 clear hA
 unfold maxLen at hcm
 go_enter Tryz.func155, Tryz.ntmps155
 go_wp2
 go_loop [7] (fun iv => ∃ i : Nat, i <= l.length /\ iv = .int .i64 (i : Int) /\ Hid ((l.take i).Nodup)) (fun iv => l.length - (intOf iv).toNat)
 case atStart => exact ⟨0, by omega, rfl, by show (l.take 0).Nodup; simp⟩
 case round =>
  obtain ⟨i, hi, rfl, hno⟩ := hrel
  by_cases hlt : i < l.length
  ·have k1 : (i : Int) < (l.length : Int) := by omega
   obtain ⟨b, o, rfl, hb, h1⟩ := HA.out i hlt
   obtain ⟨s, hs⟩ : ∃ s, l[i] = s := ⟨_, rfl⟩
   rw [hs] at h1
   have HS := hI hs
   clear hs
   have k2 : (i : Int) <= (ca : Int) := by omega
   have CH := hI (fun ca' => quN (some ⟨b, o, none⟩) (l.take i) i ca' s w (by rw [List.length_take]; omega) (by omega) (HA.out.take i))
   rcases hq : qeG (l.take i) s with _ | _
   ·have HN := hI ((qcQ hlt).2 ⟨hno.out, fun hm => by rw [HS.out] at hm; rw [(qaF _ _).2 hm] at hq; cases hq⟩)
    rw [hq] at CH
    clear hq
    go_wp2_with fail
    refine (CH.out _).mono ?_
    rintro e w1 ⟨rfl, rfl⟩
    go_wp2
    go_round
    case rel => exact ⟨i + 1, by omega, by go_num, HN⟩
    case measure => simp [intOf]; omega
   ·have HN := hI (show ¬ l.Nodup from fun h => by
     have := ((qcQ hlt).1 (h.sublist (List.take_sublist _ _))).2
     rw [HS.out] at this
     exact this ((qaF _ _).1 hq))
    rw [hq] at CH
    clear hq
    go_wp2_with fail
    refine (CH.out _).mono ?_
    rintro e w1 ⟨rfl, rfl⟩
    go_wp2
    go_ret
    exact ⟨false, rfl, ⟨(fun h => by cases h), fun h => absurd h HN.out⟩, rfl⟩
  ·obtain rfl : i = l.length := by omega
   have HN := hI (show l.Nodup by have := hno.out; rwa [List.take_length] at this)
   go_wp2
   go_ret
   first | exact ⟨true, rfl, ⟨(fun _ => HN.out), fun _ => rfl⟩, rfl⟩ | exact .inr ⟨rfl, HN.out, rfl⟩
theorem qjH (ao : Option Addr) (l : List ByteArray) (ca : Nat) (k : ByteArray) (w : World) (hl : l.length <= 65536) (hA : RdQ w ao l) :
  Calls Tryz.prog 166 #[.slice ao l.length ca, .string k] w fun e w' => ∃ po pc, e = .returned (.slice po (qaX l k).length pc) /\ OwnQ w' w.heap.size po pc (qaX l k) /\ Below w.heap.size w w' := by
 obtain ⟨i0, hi0, hz0, hz1, hz2⟩ := info_parts Tryz.infoQ
 have HA := hI hA
 clear hA
 go_enter Tryz.func166, Tryz.ntmps166
 go_wp2
 go_loopw [5, 10] (fun lv iv wr => ∃ (i : Nat) (R : List ByteArray) (po : Option Addr) (pc : Nat), i <= l.length /\ R.length <= i /\ iv = .int .i64 (i : Int) /\ lv = .slice po R.length pc /\ Hid (R = qaX (l.take i) k) /\ Hid (wr.ownsRow w.heap.size 9 1 (.slice po R.length pc) R.length (sc R)) /\ Hid (Below w.heap.size w wr)) (fun _ iv _ => l.length - (intOf iv).toNat)
 case atStart => exact ⟨0, [], none, 0, by omega, Nat.le_refl _, rfl, rfl, rfl, World.ownsRow_nil w _ _ _, Below.refl _ _⟩
 case round =>
  obtain ⟨i, R, po, pc, hi, hRi, rfl, rfl, hR, hown, hbel⟩ := hrel
  by_cases hlt : i < l.length
  ·have k1 : (i : Int) < (l.length : Int) := by omega
   obtain ⟨g, o, hlo, hg, h1⟩ := HA.out i hlt
   have x0 : wr.cell? ⟨g, o + i, none⟩ = some (.string l[i]) := (hbel.out.cell (p := ⟨g, o + i, none⟩) hg).trans h1
   have hft := hI (qpB (k := k) hlt)
   generalize l[i] = y at *
   have hbs := hbel.out.size
   rw [hlo]
   clear h1 hlo
   cases e : (y.toList != k.toList) with
   | true =>
    have b1 : (y.toList == k.toList) = false := by rw [bne] at e; simpa using e
    have HR2 := hI (show R ++ [y] = qaX (l.take (i + 1)) k by rw [hft.out, if_pos e, hR.out])
    clear hft
    go_wp2_with (at_builtin; (refine qbG rfl _ _ 171 rfl w.heap.size 9 i0 (.string ⟨#[]⟩) 16 Tryz.underlying171 hi0 hz0 hz1 hz2 rfl (by decide) _ R.length (sc R) rfl hown.out (.string y) rfl rfl (by omega) hbs ?_; intro v' w6 hown6 hb6))
    have O6 : Hid (w6.ownsRow w.heap.size 9 1 v' (R ++ [y]).length (sc (R ++ [y]))) := by
     show World.ownsRow _ _ _ _ _ _ _
     rw [qdM, List.length_append]
     exact hown6
    obtain ⟨lo2, lc2, rfl⟩ := qbW O6.out
    have B6 := hI (hbel.out.trans hb6)
    have hll : (R ++ [y]).length = R.length + 1 := by simp
    clear hown6 hb6
    go_wp2
    go_roundw
    case rel => exact ⟨i + 1, R ++ [y], lo2, lc2, by omega, by omega, by go_num, rfl, HR2, O6, B6⟩
    case measure => simp [intOf]; omega
   | false =>
    have b1 : (y.toList == k.toList) = true := by rw [bne] at e; simpa using e
    have HR2 := hI (show R = qaX (l.take (i + 1)) k by rw [hft.out, if_neg (by rw [e]; simp), hR.out, List.append_nil])
    clear hft
    go_wp2
    go_roundw
    case rel => exact ⟨i + 1, R, po, pc, by omega, by omega, by go_num, rfl, HR2, hown, hbel⟩
    case measure => simp [intOf]; omega
  ·obtain rfl : i = l.length := by omega
   have HR1 := hI (show R = qaX l k by rw [hR.out, List.take_length])
   go_wp2
   go_ret
   refine ⟨po, pc, ?_, ?_, hbel.out⟩
   ·rw [<- HR1.out]; rfl
   ·rw [<- HR1.out]; exact hown.out
theorem qnJ (ao : Option Addr) (l : List ByteArray) (ca : Nat) (k : ByteArray) (w : World) (hl : l.length <= 65536) (hA : RdQ w ao l) :
  Calls Tryz.prog 132 #[.slice ao l.length ca, .string k] w fun e w' => ∃ po pc, e = .returned (.slice po (k :: qaX l k).length pc) /\ OwnQ w' w.heap.size po pc (k :: qaX l k) /\ Below w.heap.size w w' := by
 have B1 := hI (fun o => bAl w o)
 have CW := hI (fun w' (hb : Below w.heap.size w w') => qjH ao l ca k w' hl (hA.later hb))
 have F0 := hI (World.ownsRow_lit (base := w.heap.size) (e := 9) (size := 1) w #[.string k] 1 (Nat.le_refl _) (by unfold maxLen; omega) rfl)
 have hwl := qbT l k
 clear hA
 go_enter Tryz.func132, Tryz.ntmps132
 go_wp2_with fail
 refine (CW.out _ (B1.out _)).mono ?_
 rintro e w1 ⟨po, pc, rfl, ho1, hb1⟩
 have O1 := hI ho1.rd
 have K1 := hI (qaE F0.out hb1)
 have B2 := hI ((B1.out _).trans (hb1.mono (B1.out _).size))
 have hs1 : w.heap.size <= w1.heap.size := B2.out.size
 clear ho1 hb1 F0 B1 CW
 go_wp2_with (at_builtin; (refine qbV rfl _ _ 171 rfl Tryz.underlying171 w.heap.size _ 1 [k] rfl K1.out po _ pc (qaX l k) rfl rfl O1.out (by omega) hs1 ?_; intro v' w2 ho2 hg2))
 have B3 := hI (B2.out.trans (qaU (B := w.heap.size) hg2 (fun g hg => (K1.out.lt g hg).1) hs1))
 have O2 : Hid (w2.ownsRow w.heap.size 9 1 v' (k :: qaX l k).length (sc (k :: qaX l k))) := by
  show World.ownsRow _ _ _ _ _ _ _
  rw [List.length_cons, Nat.add_comm]
  exact ho2
 clear ho2 hg2
 obtain ⟨lo2, lc2, rfl⟩ := qbW O2.out
 go_wp2
 go_ret
 exact ⟨lo2, lc2, rfl, O2.out, B3.out⟩
theorem qyI {P : Program} (w : World) (src dst e : TypeId) (s : ByteArray) (hs : P.underlying src = some .string) (hd : P.underlying dst = some (.slice e)) (he : P.underlying e = some (.int .u8)) :
  ∃ v w1, (convert src dst (.string s)).run P w = .ok v w1 /\ (convert dst src v).run P w1 = .ok (.string s) w1 /\ Below w.heap.size w w1 := by
 refine ⟨_, _, run_bytes_of_string w src dst e s hs hd he, ?_, (Below.refl _ _).drew.alloc (Nat.le_refl _) _⟩
 have hl : s.size = s.data.toList.length := by simp
 rw [hl, run_convert_bytes_back _ dst src e ⟨w.heap.size, 0, none⟩ _ s.data.toList hd he hs]
 intro j hj
 have hj' : j < s.data.size := by simpa using hj
 rw [Addr.add_lit, Nat.zero_add]
 have := World.cell?_alloc_mark w.drew (bytesRow s (grownCap w s.size 0 e)) e ((bytesRow s (grownCap w s.size 0 e)).size, (bytesRow s (grownCap w s.size 0 e)).size + 1) j
 rw [bytesRow_at s _ j hj'] at this
 rw [<- hl]
 simpa using this
theorem quH (s : ByteArray) (w : World) : Calls Tryz.prog 134 #[.string s] w fun e w' => e = .returned (.string s) /\ Below w.heap.size w w' := by
 obtain ⟨v, w1, r1, r2, hb⟩ := qyI (P := Tryz.prog) w 9 22 5 s Tryz.underlying9 Tryz.underlying22 Tryz.underlying5
 go_enter Tryz.func134, Tryz.ntmps134
 go_wp2
 go_ret
 exact ⟨rfl, hb⟩
theorem qdA (ao : Option Addr) (l : List ByteArray) (n ca : Nat) (m : Int) (w : World) (hln : l.length = n) (hl : n <= 65536) (hA : RdQ w ao l) :
  Calls Tryz.prog 125 #[.int .i64 m, .slice ao n ca] w fun e w' => ∃ b c, e = .returned (.agg #[.int .i64 m, .slice b l.length c]) /\ OwnQ w' w.heap.size b c l /\ Below w.heap.size w w' := by
 obtain ⟨i0, hi, hz0, hz1, hz2⟩ := info_parts Tryz.infoQ
 subst hln
 have HA := hI hA
 clear hA
 have F0 : Hid (Blk (w.alloc (.cells #[.int .i64 0, .slice none 0 0] 32)) w.heap.size 32 [.int .i64 0, .slice none 0 0] /\ Below w.heap.size w (w.alloc (.cells #[.int .i64 0, .slice none 0 0] 32)) /\ (w.alloc (.cells #[.int .i64 0, .slice none 0 0] 32)).heap.size = w.heap.size + 1) := ⟨Blk.new w _ _, bAl _ _, World.size_alloc _ _⟩
 go_enter Tryz.func125, Tryz.ntmps125
 go_wp2_with (at_make; (refine wpList_make_full _ rfl _ _ 30 rfl (w.heap.size + 1) 9 i0 (.string ⟨#[]⟩) 1 Tryz.underlying30 hi hz0 hz1 _ _ _ _ l.length rfl rfl rfl rfl (by rw [hz2]; omega) (by unfold maxLen; omega) (by rw [World.size_alloc]; exact Nat.le_refl _) ?_; intro w1 hown1 hg1; rw [madeQ, F0.out.2.2] at hown1; have hb1 : Below (w.heap.size + 1) _ w1 := Below.grown (Below.refl _ _) hg1 (by rw [World.size_alloc]; exact Nat.le_refl _) (by intro k hk; cases hk); have J0 := hI (F0.out.1.below hb1 (by omega)); have B1 := hI (F0.out.2.1.trans (hb1.mono (by omega))); have O1 := hI hown1; have hs1 : w.heap.size + 1 <= w1.heap.size := (by have := hb1.size; rw [F0.out.2.2] at this; exact this); clear F0 hown1 hg1 hb1))
 go_loopw [13] (fun iv wr => ∃ i : Nat, i <= l.length /\ iv = .int .i64 (i : Int) /\ Hid (wr.ownsRow (w.heap.size + 1) 9 1 (.slice (some ⟨w.heap.size + 1, 0, none⟩) l.length l.length) l.length (sc (l.take i ++ List.replicate (l.length - i) ⟨#[]⟩))) /\ Hid (Blk wr w.heap.size 32 [.int .i64 0, .slice none 0 0]) /\ Hid (Below w.heap.size w wr) /\ w.heap.size + 1 <= wr.heap.size) (fun iv _ => l.length - (intOf iv).toNat)
 case atStart => exact ⟨0, by omega, rfl, by simpa using O1, J0, B1, hs1⟩
 case round =>
  obtain ⟨i, hi, rfl, hown, hK, hbel, hsz⟩ := hrel
  by_cases hlt : i < l.length
  ·have k1 : (i : Int) < (l.length : Int) := by omega
   obtain ⟨b, o, rfl, hb, h1⟩ := HA.out i hlt
   have x0 := (hbel.out.cell (p := ⟨b, o + i, none⟩) hb).trans h1
   obtain ⟨s, hs⟩ : ∃ s, l[i] = s := ⟨_, rfl⟩
   rw [hs] at x0
   have HS := hI hs
   clear h1 hs
   go_wp2_with (go_at_call 134; refine (quH _ _).mono ?_; rintro e w2 ⟨rfl, hb2⟩; have HO2 := hI (qaE hown.out hb2); obtain ⟨u, y0⟩ := qaQ HO2.out i (by omega); have y1 := HO2.out.frozenAt i; have K2 := hI (hK.out.below hb2 (by omega)); have B2 := tRn hbel hb2; have hs2 : w.heap.size + 1 <= w2.heap.size := Nat.le_trans hsz hb2.size; clear hb2)
   go_roundw
   case rel =>
    have st := (World.ownsRow.stored HO2.out i (.string s)).1
    rw [<- zdQ, qyE l ⟨#[]⟩ s i hlt HS.out] at st
    exact ⟨i + 1, by omega, by go_num, st, K2.out.far ⟨w.heap.size + 1, i, none⟩ _ (by dsimp only; omega), B2.out.setCell (p := ⟨w.heap.size + 1, i, none⟩) (by dsimp only; omega) _, by simpa using hs2⟩
   case measure => simp [intOf]; omega
  ·obtain rfl : i = l.length := by omega
   have y0 : wr.cell? ⟨w.heap.size, 0, none⟩ = _ := cRn (hK.out.cell 0) rfl
   have y1 : wr.cell? ⟨w.heap.size, 1, none⟩ = _ := cRn (hK.out.cell 1) rfl
   have yf (j) : wr.frozen? ⟨w.heap.size, j, none⟩ = false := hK.out.froz j
   have HO := hown.out
   rw [List.take_length, Nat.sub_self, List.replicate_zero, List.append_nil] at HO
   have HO := hI HO
   have hh := hI (Blk.set (Blk.set hK.out 0 (.int .i64 m)) 1 (.slice (some ⟨w.heap.size + 1, 0, none⟩) l.length l.length))
   go_wp2
   refine bodyPost_ret (results_cell_row Tryz.results125 _ _ w.heap.size 32 #[.int .i64 m, .slice (some ⟨w.heap.size + 1, 0, none⟩) l.length l.length] (0, 0) _ rfl hh.out Tryz.underlying32 rfl (by kernel_rfl)) rfl ?_
   refine ⟨_, _, rfl, ?_, (hbel.out.setCell (p := ⟨w.heap.size, 0, none⟩) (Nat.le_refl _) _).setCell (p := ⟨w.heap.size, 1, none⟩) (Nat.le_refl _) _⟩
   refine qaB (qaA (qaA HO.out _ _ ?_) _ _ ?_) (by omega)
   all_goals
    intro k hk
    have := (HO.out.lt k hk).1
    dsimp only
    omega
theorem qeM (k : ByteArray) (w : World) : Calls Tryz.prog 67 #[.string k] w fun e w' => ∃ x : Bool, e = .returned (.bool x) /\ (x = true ↔ qcV k) /\ w' = w := by
 by_cases h1 : 1 <= k.size
 ·by_cases h2 : k.size <= 12
  ·have HF := hI (show qcV k from ⟨h1, h2⟩)
   go_enter Tryz.func67, Tryz.ntmps67
   go_wp2
   go_ret
   first | exact ⟨true, rfl, ⟨(fun _ => HF.out), fun _ => rfl⟩, rfl⟩ | exact .inr ⟨rfl, HF.out, rfl⟩ | exact ⟨decide ((k.size : Int) <= 12), rfl, ⟨(fun _ => HF.out), fun _ => decide_eq_true (by omega)⟩, rfl⟩
  ·have HF := hI (show ¬ qcV k from fun h => h2 h.2)
   go_enter Tryz.func67, Tryz.ntmps67
   go_wp2
   go_ret
   first | exact ⟨false, rfl, ⟨(fun h => by cases h), fun h => absurd h HF.out⟩, rfl⟩ | exact .inl ⟨rfl, HF.out, rfl⟩ | exact ⟨decide ((k.size : Int) <= 12), rfl, ⟨(fun h => by have := of_decide_eq_true h; omega), fun h => absurd h HF.out⟩, rfl⟩
 ·have HF := hI (show ¬ qcV k from fun h => h1 h.1)
  go_enter Tryz.func67, Tryz.ntmps67
  go_wp2
  go_ret
  first | exact ⟨false, rfl, ⟨(fun h => by cases h), fun h => absurd h HF.out⟩, rfl⟩ | exact .inl ⟨rfl, HF.out, rfl⟩
theorem qdF (ao : Option Addr) (l : List ByteArray) (ca : Nat) (m : Int) (w : World) (hl : l.length <= 1048576) (hc : l.length <= ca) (hcm : ca <= maxLen) (hA : RdQ w ao l) :
  Calls Tryz.prog 104 #[.agg #[.int .i64 m, .slice ao l.length ca]] w fun e w' => ∃ x : Bool, e = .returned (.bool x) /\ (x = true ↔ OkQ l m) /\ Below w.heap.size w w' := by
 have B0 := hI (fun o => bAl w o)
 by_cases c1 : m < 0
 ·have HN := hI (show ¬ OkQ l m from fun h => by have := h.1; omega)
  have q1 : decide (m < 0) = true := decide_eq_true c1
  clear hA hc hcm
  go_enter Tryz.func104, Tryz.ntmps104
  go_wp2
  go_ret
  first | exact ⟨false, rfl, ⟨(fun h => by cases h), fun h => absurd h HN.out⟩, B0.out _⟩ | exact .inl ⟨rfl, HN.out, B0.out _⟩
 by_cases c2 : 24 < m
 ·have HN := hI (show ¬ OkQ l m from fun h => by have := h.2.1; omega)
  have q1 : decide (m < 0) = false := decide_eq_false c1
  have q2 : decide (24 < m) = true := decide_eq_true c2
  clear hA hc hcm
  go_enter Tryz.func104, Tryz.ntmps104
  go_wp2
  go_ret
  first | exact ⟨false, rfl, ⟨(fun h => by cases h), fun h => absurd h HN.out⟩, B0.out _⟩ | exact .inl ⟨rfl, HN.out, B0.out _⟩
 by_cases c3 : m < (l.length : Int)
 ·have HN := hI (show ¬ OkQ l m from fun h => by have := h.2.2.1; omega)
  have q1 : decide (m < 0) = false := decide_eq_false c1
  have q2 : decide (24 < m) = false := decide_eq_false c2
  have q3 : decide (m < (l.length : Int)) = true := decide_eq_true c3
  clear hA hc hcm
  go_enter Tryz.func104, Tryz.ntmps104
  go_wp2
  go_ret
  first | exact ⟨false, rfl, ⟨(fun h => by cases h), fun h => absurd h HN.out⟩, B0.out _⟩ | exact .inl ⟨rfl, HN.out, B0.out _⟩
 have q1 : decide (m < 0) = false := decide_eq_false c1
 have q2 : decide (24 < m) = false := decide_eq_false c2
 have q3 : decide (m < (l.length : Int)) = false := decide_eq_false c3
 have HB := hI (show 0 <= m /\ m <= 24 /\ (l.length : Int) <= m by omega)
 have CU := hI (fun w' (hb : Below w.heap.size w w') => qvH ao l ca w' hl hc hcm (hA.later hb))
 have CR := hI (fun w' => qbA ao l.length ca m w')
 have BX := hI (Blk.new w 32 #[.int .i64 m, .slice ao l.length ca])
 have D0 := hI (B0.out (.cells #[.int .i64 m, .slice ao l.length ca] 32))
 have HA := hI (hA.later D0.out)
 clear hA hc hcm c1 c2 c3 B0
 go_enter Tryz.func104, Tryz.ntmps104
 go_wp2
 generalize w.alloc (.cells #[.int .i64 m, .slice ao l.length ca] 32) = w1 at BX D0 HA ⊢
 go_loop [24] (fun iv => ∃ i : Nat, i <= l.length /\ iv = .int .i64 (i : Int) /\ Hid (∀ j (h : j < l.length), j < i -> qcV l[j])) (fun iv => l.length - (intOf iv).toNat)
 case atStart => exact ⟨0, by omega, rfl, fun j h hj => by omega⟩
 case round =>
  obtain ⟨i, hi, rfl, hall⟩ := hrel
  by_cases hlt : i < l.length
  ·have k1 : (i : Int) < (l.length : Int) := by omega
   obtain ⟨b, o, rfl, hb, h1⟩ := HA.out i hlt
   obtain ⟨s, hs⟩ : ∃ s, l[i] = s := ⟨_, rfl⟩
   rw [hs] at h1
   have HS := hI hs
   clear hs
   have CK := hI (fun w' => qeM s w')
   go_wp2_with fail
   refine (CK.out _).mono ?_
   rintro e w2 ⟨x, rfl, hx, rfl⟩
   rcases x with _ | _
   ·have HN := hI (show ¬ OkQ l m from fun h => by have := hx.2 (h.2.2.2.1 s (by rw [<- HS.out]; exact List.getElem_mem _)); cases this)
    clear hx
    go_wp2
    go_ret
    first | exact ⟨false, rfl, ⟨(fun h => by cases h), fun h => absurd h HN.out⟩, D0.out⟩ | exact .inl ⟨rfl, HN.out, D0.out⟩
   ·have HK := hI (hx.1 rfl)
    clear hx
    go_wp2
    go_round
    case rel =>
     refine ⟨i + 1, by omega, by go_num, fun j h hj => ?_⟩
     by_cases hj2 : j < i
     ·exact hall.out j h hj2
     ·obtain rfl : j = i := by omega
      rw [HS.out]; exact HK.out
    case measure => simp [intOf]; omega
  ·obtain rfl : i = l.length := by omega
   have x0 : w1.cell? ⟨w.heap.size, 0, none⟩ = _ := cRn (BX.out.cell 0) rfl
   have x1 : w1.cell? ⟨w.heap.size, 1, none⟩ = _ := cRn (BX.out.cell 1) rfl
   go_wp2_with fail
   refine (CR.out _).mono ?_
   rintro e w2 ⟨rfl, hb2⟩
   have B2 := tRn D0 hb2
   clear hb2
   go_wp2_with fail
   refine (CU.out _ B2.out).mono ?_
   rintro e w3 ⟨x, rfl, hx, rfl⟩
   have HX := hI (show x = true ↔ OkQ l m from ⟨fun h => ⟨HB.out.1, HB.out.2.1, HB.out.2.2, (fun s hs => by obtain ⟨j, hj, rfl⟩ := List.getElem_of_mem hs; exact hall.out j hj hj), hx.1 h⟩, fun h => hx.2 h.2.2.2.2⟩)
   clear hx
   go_wp2
   go_ret
   exact ⟨x, rfl, HX.out, B2.out⟩
end Go.Proofs.YtigpjmmfelndkaaGreatDoor
