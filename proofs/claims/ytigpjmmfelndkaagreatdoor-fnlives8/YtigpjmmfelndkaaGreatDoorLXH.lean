import Derived.Laws.CopyOwn
import Derived.Test.YtigpjmmfelndkaaGreatDoorLXG
namespace Go.Proofs.YtigpjmmfelndkaaGreatDoor
open Go.RowKit
set_option maxRecDepth 100000
set_option maxHeartbeats 4000000
theorem qnG {w : World} {base n g size : Nat} {e : TypeId} {xs : List Value} (h : w.ownsRow base e size (.slice (some ⟨g, 0, none⟩) n n) n xs) : Blk w g e xs /\ base <= g := by
 rcases h.2 with ⟨hv, _⟩ | ⟨g', cap, cur, hv, hb, hh, h1, h2, h3, h4⟩
 ·cases hv
 ·injection hv with e1 e2 e3
  injection e1 with e1
  injection e1 with e1
  subst e1 e3
  refine ⟨?_, hb⟩
  have : cur.toList = xs := by rw [<- h4, List.take_of_length_le (by simp; omega)]
  unfold Blk
  rw [hh, <- this]
theorem qvS {w : World} {base n g size : Nat} {e : TypeId} {xs : List Value} (h : Blk w g e xs) (hx : xs.length = n * size) (hb : base <= g) (hn : n <= maxLen) : w.ownsRow base e size (.slice (some ⟨g, 0, none⟩) n n) n xs :=
 ⟨hx, .inr ⟨g, n, xs.toArray, rfl, hb, h, Nat.le_refl _, hn, by simpa using hx, by rw [List.take_of_length_le]; simp; omega⟩⟩
theorem qjB {l : List Ce} {i : Nat} (h : i < l.length) : (ces l)[i * 2]? = some (.string l[i].key) := qiH l i 0 h (by decide)
theorem qmB {l : List Ce} {i : Nat} (h : i < l.length) : (ces l)[i * 2 + 1]? = some (.int .i64 l[i].h) := qiH l i 1 h (by decide)
theorem qoX {l : List Ce} {i : Nat} (hi : i < l.length) (s : Ce) : ((ces l).set (i * 2) (.string s.key)).set (i * 2 + 1) (.int .i64 s.h) = ces (l.set i s) := by
 rw [set2 _ _ _ _ (by rw [qaV]; omega), qtQ l i s hi]
 rfl
theorem qoY {l : List Ce} {i : Nat} (hi : i < l.length) (h : Int) : (ces l).set (i * 2 + 1) (.int .i64 h) = ces (l.set i ⟨l[i].key, h⟩) := by
 rw [<- qoX hi]
 congr 1
 refine (List.ext_getElem? fun j => ?_)
 rw [List.getElem?_set]
 split
 ·rename_i e
  subst e
  rw [qjB hi, if_pos (by rw [qaV]; omega)]
 ·rfl
theorem zaN {l : List Ce} {i : Nat} (hi : i < l.length) (k : ByteArray) : (ces l).set (i * 2) (.string k) = ces (l.set i ⟨k, l[i].h⟩) := by
 rw [<- qoX hi]
 refine (List.ext_getElem? fun j => ?_)
 rw [List.getElem?_set (l := (ces l).set (i * 2) (.string k))]
 split
 ·rename_i e
  subst e
  rw [List.getElem?_set_ne (by omega), qmB hi, if_pos (by rw [List.length_set, qaV]; omega)]
 ·rfl
def qmY (g n m : Nat) : Option Addr := if m = 0 then some ⟨g, 0, none⟩ else some ⟨g, n * 2, none⟩
structure Brd (B : Nat) (w : World) (b g : Nat) (l o : List Ce) (mv : Nat) : Prop where
 lb : B <= b
 lg : B <= g
 ne : b ≠ g
 hd : Blk w b 181 [.slice (some ⟨g, 0, none⟩) l.length l.length, .slice (qmY g l.length o.length) o.length o.length, .int .i64 (mv : Int)]
 tl : Blk w g 132 (ces (l ++ o))
theorem Brd.later {B b g mv : Nat} {w w' : World} {l o : List Ce} (h : Brd B w b g l o mv) (hb : Below w.heap.size w w') : Brd B w' b g l o mv :=
 ⟨h.lb, h.lg, h.ne, h.hd.below hb h.hd.lt, h.tl.below hb h.tl.lt⟩
theorem Brd.cells {B b g mv : Nat} {w : World} {l o : List Ce} (h : Brd B w b g l o mv) : RdJ w (some ⟨g, 0, none⟩) l := by
 intro i hi
 refine ⟨g, 0, rfl, h.tl.lt, ?_, ?_⟩
 ·rw [Nat.zero_add, h.tl.cell, qjB (by rw [List.length_append]; omega), List.getElem_append_left hi]
 ·rw [Nat.zero_add, h.tl.cell, qmB (by rw [List.length_append]; omega), List.getElem_append_left hi]
theorem Brd.olds {B b g mv : Nat} {w : World} {l o : List Ce} (h : Brd B w b g l o mv) : RdJ w (qmY g l.length o.length) o := by
 intro i hi
 have e : l.length * 2 + i * 2 = (l.length + i) * 2 := by omega
 refine ⟨g, l.length * 2, if_neg (by omega), h.tl.lt, ?_, ?_⟩
 ·rw [e, h.tl.cell, qjB (by rw [List.length_append]; omega), List.getElem_append_right (by omega)]
  simp
 ·rw [e, h.tl.cell, qmB (by rw [List.length_append]; omega), List.getElem_append_right (by omega)]
  simp
theorem qwB (i N : Nat) (h : i < N) : (List.replicate i nC ++ List.replicate (N - i) zC).set i nC = List.replicate (i + 1) nC ++ List.replicate (N - (i + 1)) zC := by
 rw [List.set_append_right _ _ (by simp), List.length_replicate, Nat.sub_self, show N - i = (N - (i + 1)) + 1 by omega, List.replicate_succ (n := N - (i + 1)), List.set_cons_zero, List.replicate_succ' (n := i), List.append_assoc]
 rfl
theorem qfU (n m : Nat) (w : World) (hn : n + m <= 1048576) :
  Calls Tryz.prog 118 #[.int .i64 (n : Int), .int .i64 (m : Int)] w fun e w' => ∃ b g, e = .returned (.pointer (some ⟨b, 0, none⟩)) /\ Brd w.heap.size w' b g (List.replicate n nC) (List.replicate m nC) 0 /\ Below w.heap.size w w' := by
 obtain ⟨i0, hi, hz0, hz1, hz2⟩ := info_parts Tryz.infoCell
 go_enter Tryz.func118, Tryz.ntmps118
 go_wp2_with (at_make; (refine wpList_make_full _ rfl _ _ 27 rfl w.heap.size 132 i0 (ceV zC) 2 Tryz.underlying27 hi hz0 hz1 _ _ _ _ (n + m) rfl rfl (by go_num) (by go_num) (by rw [hz2]; omega) (by unfold maxLen; omega) (Nat.le_refl _) ?_; intro w0 hown0 hg0))
 rw [zdZ] at hown0
 have K0 := hI (qnG hown0).1
 have B0 : Hid (Below w.heap.size w w0) := Below.grown (Below.refl _ _) hg0 (Nat.le_refl _) (by intro k hk; cases hk)
 clear hown0 hg0
 go_loopw [13] (fun iv wr => ∃ i : Nat, i <= n + m /\ iv = .int .i64 (i : Int) /\ Hid (Blk wr w.heap.size 132 (ces (List.replicate i nC ++ List.replicate (n + m - i) zC))) /\ Hid (Below w.heap.size w wr)) (fun iv _ => n + m - (intOf iv).toNat)
 case atStart => exact ⟨0, by omega, rfl, by show Blk _ _ _ _; simpa using K0.out, B0⟩
 case round =>
  obtain ⟨i, hi, rfl, hK, hbel⟩ := hrel
  by_cases hlt : i < n + m
  ·have k1 : (i : Int) < (n : Int) + (m : Int) := by omega
   have k2 : (i : Int) < ((n + m : Nat) : Int) := by omega
   have hil : i < (List.replicate i nC ++ List.replicate (n + m - i) zC).length := by simp; omega
   have x1 : wr.cell? ⟨w.heap.size, i * 2 + 1, none⟩ = some (.int .i64 0) := by
    rw [hK.out.cell, qmB hil, List.getElem_append_right (by simp)]
    simp [zC]
   have f1 := hK.out.froz (i * 2 + 1)
   have HK : Hid (Blk (wr.setCell ⟨w.heap.size, i * 2 + 1, none⟩ (.int .i64 (-1))) w.heap.size 132 (ces (List.replicate (i + 1) nC ++ List.replicate (n + m - (i + 1)) zC))) := by
    show Blk _ _ _ _
    have := hK.out.set (i * 2 + 1) (.int .i64 (-1))
    rw [qoY hil, List.getElem_append_right (by simp)] at this
    rw [<- qwB i (n + m) hlt]
    simpa [zC, nC] using this
   have HB : Hid (Below w.heap.size w (wr.setCell ⟨w.heap.size, i * 2 + 1, none⟩ (.int .i64 (-1)))) := hbel.out.setCell (p := ⟨w.heap.size, i * 2 + 1, none⟩) (Nat.le_refl _) _
   clear hK hbel
   go_wp2
   go_roundw
   case rel => exact ⟨i + 1, by omega, by go_num, HK, HB⟩
   case measure => simp [intOf]; omega
  ·obtain rfl : i = n + m := by omega
   have HK : Hid (Blk wr w.heap.size 132 (ces (List.replicate n nC ++ List.replicate m nC))) := by
    show Blk _ _ _ _
    rw [List.replicate_append_replicate]
    simpa using hK.out
   have k1 : (n : Int) <= (n : Int) + (m : Int) := by omega
   obtain ⟨A, hA⟩ : ∃ A, qmY w.heap.size n m = A := ⟨_, rfl⟩
   have eA : (if m = 0 then some (⟨w.heap.size, 0, none⟩ : Addr) else some ⟨w.heap.size, n * 2, none⟩) = A := hA
   have eB : (if n + m = n then some (⟨w.heap.size, 0, none⟩ : Addr) else some ⟨w.heap.size, n * 2, none⟩) = A := by
    rw [<- eA]
    by_cases e : m = 0
    ·rw [if_pos (by omega), if_pos e]
    ·rw [if_neg (by omega), if_neg e]
   have HAA := hI hA
   have KN := hI (show Blk (wr.alloc (.cells #[.slice (some ⟨w.heap.size, 0, none⟩) n n, .slice A m m, .int .i64 0] 181)) wr.heap.size 181 [.slice (some ⟨w.heap.size, 0, none⟩) n n, .slice A m m, .int .i64 0] from Blk.new _ _ _)
   have HGE := hI hbel.out.size
   have HBN := hI (hbel.out.alloc hbel.out.size (.cells #[.slice (some ⟨w.heap.size, 0, none⟩) n n, .slice A m m, .int .i64 0] 181))
   have HKN := hI (Blk.more HK.out (.cells #[.slice (some ⟨w.heap.size, 0, none⟩) n n, .slice A m m, .int .i64 0] 181))
   have HLT := hI HK.out.lt
   have HB1 := hI (show Brd w.heap.size (wr.alloc (.cells #[.slice (some ⟨w.heap.size, 0, none⟩) n n, .slice A m m, .int .i64 0] 181)).drew wr.heap.size w.heap.size (List.replicate n nC) (List.replicate m nC) 0 by
    refine ⟨HGE.out, Nat.le_refl _, (fun e => by have := HLT.out; omega), ?_, HKN.out⟩
    rw [List.length_replicate, List.length_replicate, HAA.out]
    exact KN.out)
   clear hK hA HK hbel KN HKN HAA HGE HLT
   go_wp2
   go_region
   all_goals go_wp2
   all_goals
    go_ret
    first | exact ⟨_, _, rfl, HB1.out, HBN.out.drew⟩ | exact ⟨⟨_, HB1.out⟩, HBN.out.drew⟩ | exact ⟨_, rfl, ⟨_, HB1.out⟩, HBN.out.drew⟩ | exact ⟨_, ⟨_, HB1.out⟩, HBN.out.drew⟩
theorem qxH {P : Program} (w : World) (dT sT ty elem : TypeId) (g o dLen dCap : Nat) (a : Addr) (sLen sCap : Nat) (cur : Array Value) (t : TypeId) (cs : List Value)
  (hu : P.underlying dT = some (.slice elem)) (hs : (P.info? elem).map (·.size) = some 2)
  (hg : w.heap[g]? = some (.cells cur t (0, 0))) (hn : cs.length = Nat.min sLen dLen * 2)
  (hsrc : ∀ j v, cs[j]? = some v -> w.cell? (a.add j) = some v) (hfit : o + cs.length <= cur.size) (h1 : ∀ v ∈ cs, v.oneCell' = true) :
  (Builtin.copy_ #[dT, sT] ty #[.slice (some ⟨g, o, none⟩) dLen dCap, .slice (some a) sLen sCap]).run P w =
   .ok (goInt (Nat.min sLen dLen)) (w.setRow g (cur.toList.take o ++ cs ++ cur.toList.drop (o + cs.length)).toArray) := by
 have hl := run_loadCells_list (P := P) w a cs hsrc
 have hst := run_storeCells_at P g o t cs 0 cur w hg (by simpa using hfit) h1
 cases hq : P.info? elem with
 | none => simp [hq] at hs
 | some i =>
  have hi : i.size = 2 := by simpa [hq] using hs
  rw [hn] at hl
  simp [Builtin.copy_, run_underlying hu, Builtin.lenOf, Builtin.firstCells, sizeOf, typeInfo, hq, hi, hl, hst]
theorem qxI {P : Program} (w : World) (dT sT ty elem : TypeId) (x ao : Option Addr) (dCap sCap : Nat) (hu : P.underlying dT = some (.slice elem)) (hs : (P.info? elem).map (·.size) = some 2) :
  (Builtin.copy_ #[dT, sT] ty #[.slice x 0 dCap, .slice ao 0 sCap]).run P w = .ok (goInt 0) w := by
 cases hq : P.info? elem with
 | none => simp [hq] at hs
 | some i =>
  have hl := fun a => run_loadCells_list (P := P) w a [] (fun j v h => by cases h)
  simp only [List.length_nil] at hl
  cases x <;> cases ao <;> simp [Builtin.copy_, run_underlying hu, Builtin.lenOf, Builtin.firstCells, sizeOf, typeInfo, hq, hl, storeCells]
theorem zbW (l : List Ce) : ∀ v ∈ ces l, v.oneCell' = true := by
 intro v hv
 obtain ⟨s, _, hs⟩ := List.mem_flatMap.1 hv
 simp only [ceC, List.mem_cons, List.not_mem_nil, or_false] at hs
 rcases hs with rfl | rfl <;> rfl
theorem qqL {w : World} {g o : Nat} {l : List Ce} (h : ∀ i (h : i < l.length), cellO w g o i l[i]) (j : Nat) (v : Value) (hv : (ces l)[j]? = some v) : w.cell? ⟨g, o + j, none⟩ = some v := by
 have hj : j < l.length * 2 := by
  have := (List.getElem?_eq_some_iff.1 hv).1
  rw [qaV] at this
  exact this
 have hi : j / 2 < l.length := by omega
 have h5 : j % 2 < 2 := Nat.mod_lt _ (by decide)
 have e := qiH l (j / 2) (j % 2) hi h5
 rw [show j / 2 * 2 + j % 2 = j by omega, hv] at e
 obtain ⟨x0, x1⟩ := h (j / 2) hi
 rw [e, show (⟨g, o + j, none⟩ : Addr) = ⟨g, o + j / 2 * 2 + j % 2, none⟩ by rw [show o + j / 2 * 2 + j % 2 = o + j by omega]]
 generalize j % 2 = k at h5 e ⊢
 match k, h5 with
 | 0, _ => exact x0
 | 1, _ => exact x1
theorem qsC (w : World) (ty : TypeId) (x ao : Option Addr) (n c ca g : Nat) (l A Z C : List Ce) (hn : l.length = n) (hZ : Z.length = n) (hx : n ≠ 0 -> x = some ⟨g, A.length * 2, none⟩) (hB : Blk w g 132 (ces (A ++ Z ++ C))) (hA : RdJ w ao l) :
  ∃ w', (Builtin.copy_ #[27, 27] ty #[.slice x n c, .slice ao n ca]).run Tryz.prog w = .ok (.int .i64 (n : Int)) w' /\ Blk w' g 132 (ces (A ++ l ++ C)) /\ (∀ k, k ≠ g -> w'.heap[k]? = w.heap[k]?) /\ w'.heap.size = w.heap.size /\ Below g w w' := by
 obtain ⟨i0, hi0, _, h2, _⟩ := info_parts Tryz.infoCell
 have hs : (Tryz.prog.info? 132).map (·.size) = some 2 := by rw [hi0]; simp [h2]
 by_cases h0 : n = 0
 ·subst h0
  have el : l = [] := List.eq_nil_of_length_eq_zero hn
  have eZ : Z = [] := List.eq_nil_of_length_eq_zero hZ
  subst el eZ
  exact ⟨w, qxI w 27 27 ty 132 x ao c ca Tryz.underlying27 hs, hB, fun _ _ => rfl, rfl, Below.refl _ _⟩
 ·rw [hx h0]
  obtain ⟨b, o, rfl, hb, _⟩ := hA 0 (by omega)
  have hAt : ∀ i (h : i < l.length), cellO w b o i l[i] := fun i hi => by obtain ⟨b', o', e, _, h⟩ := hA i hi; simp at e; obtain ⟨rfl, rfl⟩ := e; exact h
  have hBb : w.heap[g]? = some (.cells (ces (A ++ Z ++ C)).toArray 132 (0, 0)) := hB
  have hl : (ces l).length = n * 2 := by rw [qaV, hn]
  have hrun := qxH (P := Tryz.prog) w 27 27 ty 132 g (A.length * 2) n c ⟨b, o, none⟩ n ca _ _ (ces l) Tryz.underlying27 hs hBb (by rw [hl, show Nat.min n n = n from Nat.min_self n])
   (fun j v hv => by rw [Addr.add_lit]; exact qqL hAt j v hv) (by rw [List.size_toArray, hl, qaV]; simp only [List.length_append]; omega) (zbW l)
  have e : (ces (A ++ Z ++ C)).toArray.toList.take (A.length * 2) ++ ces l ++ (ces (A ++ Z ++ C)).toArray.toList.drop (A.length * 2 + (ces l).length) = ces (A ++ l ++ C) := by
   have e0 : ces (A ++ Z ++ C) = ces A ++ (ces Z ++ ces C) := by rw [qfA, qfA, List.append_assoc]
   have e1 : ces (A ++ l ++ C) = ces A ++ ces l ++ ces C := by rw [qfA, qfA]
   have hd : (ces A ++ (ces Z ++ ces C)).drop (A.length * 2 + n * 2) = ces C := by
    rw [<- List.append_assoc, List.drop_left' (by rw [List.length_append, qaV, qaV, hZ])]
   rw [List.toList_toArray, hl, e0, e1, List.take_left' (qaV A), hd]
  rw [e, show Nat.min n n = n from Nat.min_self n] at hrun
  refine ⟨_, hrun, setRow_heap w g _ _ _ _ hBb, fun k hk => setRow_other _ _ _ _ hk, by simp, ⟨rfl, rfl, rfl, by simp, fun k hk => setRow_other _ _ _ _ (by omega)⟩⟩
theorem qmO {ops : Array Oper} {o : Oper} {a : Act} {w : World} {K : Act -> World -> Prop} {Q : Exit -> Act -> World -> Prop} {E : Prop} (hgd : o.guard = none) (d s : Operand)
  (ho : o.op = .call { callee := .builtin .copy, args := #[d, s], argTypes := #[27, 27] }) (x ao : Option Addr) (n c ca g : Nat) (l A Z C : List Ce)
  (hd : a.eval d = .slice x n c) (hs : a.eval s = .slice ao n ca) (hn : l.length = n) (hZ : Z.length = n) (hx : n ≠ 0 -> x = some ⟨g, A.length * 2, none⟩) (hB : Blk w g 132 (ces (A ++ Z ++ C))) (hA : RdJ w ao l)
  (h : ∀ w', Blk w' g 132 (ces (A ++ l ++ C)) -> (∀ k, k ≠ g -> w'.heap[k]? = w.heap[k]?) -> w'.heap.size = w.heap.size -> Below g w w' -> K (a.put o.dst (.int .i64 (n : Int))) w') :
  if Region.wanted o (yielded ops a.tmps) = true then Oper.wp Tryz.prog o a w K Q else E := by
 have hw : Region.wanted o (yielded ops a.tmps) = true := by simp [Region.wanted, hgd]
 rw [if_pos hw]
 obtain ⟨w', hrun, h1, h2, h3, h4⟩ := qsC w o.type x ao n c ca g l A Z C hn hZ hx hB hA
 unfold Oper.wp
 simp only [execOp, ho, resolve, invoke, builtin, Sem.run_bind, Sem.run_pure, Result.andThen_ok, List.map_toArray, List.map_cons, List.map_nil, hd, hs, hrun]
 exact h w' h1 h2 h3 h4
theorem RdC.toJ {w : World} {a : Option Addr} {l : List Ce} (h : RdC w a l) : RdJ w a l := by
 intro i hi
 obtain ⟨g, ha, hg, hc⟩ := h.at i hi
 exact ⟨g, 0, ha, hg, by rw [Nat.zero_add]; exact hc.1, by rw [Nat.zero_add]; exact hc.2⟩
theorem Brd.set {B b g mv : Nat} {w : World} {l o : List Ce} (h : Brd B w b g l o mv) (m : Nat) : Brd B (w.setCell ⟨b, 2, none⟩ (.int .i64 (m : Int))) b g l o m :=
 ⟨h.lb, h.lg, h.ne, h.hd.set 2 _, h.tl.far _ _ (fun e => h.ne e.symm)⟩
theorem qdH (ao a' : Option Addr) (l o : List Ce) (ca ca' : Nat) (mv : Int) (w : World) (hl : l.length <= 1048576) (hl' : o.length <= 1048576) (hA : RdJ w ao l) (hA' : RdJ w a' o) :
  Calls Tryz.prog 140 #[tbV ao l.length ca a' o.length ca' mv] w fun e w' => ((∃ b g m, e = .returned (.tuple #[.pointer (some ⟨b, 0, none⟩), .bool true]) /\ mv = ((m : Nat) : Int) /\ OkT l o mv /\ Brd w.heap.size w' b g l o m) ∨ (∃ v, e = .returned (.tuple #[.pointer v, .bool false]) /\ ¬ OkT l o mv)) /\ Below w.heap.size w w' := by
 have CZ := hI (fun w => qjO (l.length : Int) w)
 have HA := hI hA
 have HA' := hI hA'
 have F0 : Hid (Blk (w.alloc (.cells #[.slice ao l.length ca, .slice a' o.length ca', .int .i64 mv] 29)) w.heap.size 29 [.slice ao l.length ca, .slice a' o.length ca', .int .i64 mv] /\ Below w.heap.size w (w.alloc (.cells #[.slice ao l.length ca, .slice a' o.length ca', .int .i64 mv] 29))) := ⟨Blk.new w _ _, bAl _ _⟩
 clear hA hA'
 unfold tbV
 go_enter Tryz.func140, Tryz.ntmps140
 go_wp2_with fail
 generalize (w.alloc (.cells #[.slice ao l.length ca, .slice a' o.length ca', .int .i64 mv] 29)) = w0 at F0 ⊢
 obtain ⟨K0, B0⟩ := F0.out
 have v0 : w0.cell? ⟨w.heap.size, 0, none⟩ = _ := cRn (K0.cell 0) rfl
 have v1 : w0.cell? ⟨w.heap.size, 1, none⟩ = _ := cRn (K0.cell 1) rfl
 have v2 : w0.cell? ⟨w.heap.size, 2, none⟩ = _ := cRn (K0.cell 2) rfl
 have K0 := hI K0
 have B0 := hI B0
 clear F0
 go_quiet (fail)
 rename_i nq
 have K1 : Hid (Blk (w0.drewN nq) w.heap.size 29 [.slice ao l.length ca, .slice a' o.length ca', .int .i64 mv]) := K0.out.below (qoZ (Below.refl _ _) nq) K0.out.lt
 have B1 := hI (qoZ B0.out nq)
 generalize w0.drewN nq = w1 at K1 B1 ⊢
 clear v0 v1 v2 K0 B0
 go_wp2_with fail
 have u2 : w1.cell? ⟨w.heap.size, 2, none⟩ = _ := cRn (K1.out.cell 2) rfl
 refine (CZ.out w1).mono ?_
 rintro e w2 ⟨x, rfl, hx, rfl⟩
 have HX := hI hx
 clear hx CZ
 rcases x with _ | _
 ·have HN := hI (show ¬ OkT l o mv from fun h => by have h1 := h.size; have := HX.out.2 (by omega); cases this)
  clear HX
  go_wp2
  go_ret2
  exact ⟨.inr ⟨none, rfl, HN.out⟩, B1.out⟩
 have HSZ := hI (show l.length = 4 ∨ l.length = 8 ∨ l.length = 16 ∨ l.length = 32 ∨ l.length = 64 by have := HX.out.1 rfl; omega)
 clear HX
 by_cases c2 : o.length = 0 ∨ 2 * o.length = l.length
 ·have hgo : Hid (((o.length : Int) != 0) = false ∨ (((o.length : Int) != 0) = true /\ ((o.length : Int) != (l.length : Int) / 2) = false)) := by
   show _ ∨ _
   by_cases h0 : o.length = 0
   ·left; simp [h0]
   ·right
    have e : (o.length : Int) = (l.length : Int) / 2 := by omega
    constructor
    ·simp; intro e; exact h0 (by rw [e]; rfl)
    ·rw [<- e]; simp
  have HC2 := hI c2
  clear c2
  by_cases c3 : mv < 0
  ·have q3 : decide (mv < 0) = true := decide_eq_true c3
   have HN := hI (show ¬ OkT l o mv from fun h => by have := h.moved.1; omega)
   clear c3
   rcases hgo.out with g1 | ⟨g1, g2⟩
   ·go_wp2
    go_ret2
    exact ⟨.inr ⟨none, rfl, HN.out⟩, B1.out⟩
   ·go_wp2
    go_ret2
    exact ⟨.inr ⟨none, rfl, HN.out⟩, B1.out⟩
  ·have q3 : decide (mv < 0) = false := decide_eq_false c3
   by_cases c4 : mv <= (o.length : Int)
   ·have q4 : decide ((o.length : Int) < mv) = false := decide_eq_false (by omega)
    obtain ⟨m, rfl⟩ := Int.eq_ofNat_of_zero_le (show 0 <= mv by omega)
    have hmo : m <= o.length := by omega
    have CN := hI (qfU l.length o.length w1 (by have := HSZ.out; have := HC2.out; omega))
    have OKI := hI (zbX (mv := m) HSZ.out HC2.out hmo)
    clear c3 c4
    rcases hgo.out with g1 | ⟨g1, g2⟩
    all_goals
     go_wp2_with fail
     refine CN.out.mono ?_
     rintro e w2 ⟨b, g, rfl, hbr, hb2⟩
     have D2 := hI hbr
     have K2 := bRn K1 hb2
     have B2 := tRn B1 hb2
     have hb0 : w1.heap.size <= b := hbr.lb
     have hg0 : w1.heap.size <= g := hbr.lg
     have hws : w.heap.size < w1.heap.size := K1.out.lt
     clear hbr hb2 CN u2
     go_wp2
     have x0 : w2.cell? ⟨b, 0, none⟩ = some (.slice (some ⟨g, 0, none⟩) l.length l.length) := by have := D2.out.hd.cell 0; rw [List.length_replicate] at this; exact this
     have y0 : w2.cell? ⟨w.heap.size, 0, none⟩ = _ := cRn (K2.out.cell 0) rfl
     have XY := hI (And.intro x0 y0)
     have A2 := hI (HA.out.later B2.out)
     go_region_held3 (fun w' => w'.cell? ⟨b, 0, none⟩ = some (.slice (some ⟨g, 0, none⟩) l.length l.length) /\ w'.cell? ⟨w.heap.size, 0, none⟩ = some (.slice ao l.length ca)) (first | go_keep | exact XY.out | exact ⟨(World.cell?_of_block (w := w2) (hne b (fun e => D2.out.ne e))).trans XY.out.1, (World.cell?_of_block (w := w2) (hne w.heap.size (by omega))).trans XY.out.2⟩) ((refine qmO rfl (.tmp 43) (.tmp 45) rfl (some ⟨g, 0, none⟩) ao l.length l.length ca g l [] (List.replicate l.length nC) (List.replicate o.length nC) (by rfl) (by rfl) rfl (by simp) (fun _ => rfl) (Blk.below D2.out.tl (Below.refl _ _).drew D2.out.tl.lt) (A2.out.later (Below.refl _ _).drew) ?_; intro w4 hcr hne0 hsz hcb; have hne : ∀ k, k ≠ g -> w4.heap[k]? = w2.heap[k]? := hne0))
     have D4 : Hid (Brd w1.heap.size w4 b g l (List.replicate o.length nC) 0) := by
      refine ⟨hb0, hg0, D2.out.ne, ?_, hcr⟩
      have := D2.out.hd
      rw [List.length_replicate] at this
      exact (hne b D2.out.ne).trans this
     have hcc : Hid (Below w1.heap.size w2 w4) := ((Below.refl _ _).drew.trans hcb).mono hg0
     have K4 := hI (K2.out.below hcc.out hws)
     have B4 := hI (B2.out.trans (hcc.out.mono B1.out.size))
     have A4 := hI (HA'.out.later B4.out)
     clear hcr hne0 hne hsz hcb XY A2 x0 y0 K2 D2 hcc
     have x1 : w4.cell? ⟨b, 1, none⟩ = some (.slice (qmY g l.length o.length) o.length o.length) := by have := D4.out.hd.cell 1; rw [List.length_replicate] at this; exact this
     have y1 : w4.cell? ⟨w.heap.size, 1, none⟩ = _ := cRn (K4.out.cell 1) rfl
     have XY := hI (And.intro x1 y1)
     obtain ⟨op, hop⟩ : ∃ op, qmY g l.length o.length = op := ⟨_, rfl⟩
     have HOP := hI (fun (h : o.length ≠ 0) => show op = some ⟨g, l.length * 2, none⟩ by rw [<- hop]; exact if_neg h)
     rw [hop] at x1 XY
     have HOP0 := hI hop
     clear hop
     go_wp2
     go_region_held3 (fun w' => w'.cell? ⟨b, 1, none⟩ = some (.slice op o.length o.length) /\ w'.cell? ⟨w.heap.size, 1, none⟩ = some (.slice a' o.length ca')) (first | go_keep | exact XY.out | exact ⟨(World.cell?_of_block (w := w4) (hne b (fun e => D4.out.ne e))).trans XY.out.1, (World.cell?_of_block (w := w4) (hne w.heap.size (by omega))).trans XY.out.2⟩) ((refine qmO rfl (.tmp 50) (.tmp 52) rfl op a' o.length o.length ca' g o l (List.replicate o.length nC) [] (by rfl) (by rfl) rfl (by simp) HOP.out (by rw [List.append_nil]; exact Blk.below D4.out.tl (Below.refl _ _).drew D4.out.tl.lt) (A4.out.later (Below.refl _ _).drew) ?_; intro w5 hcr hne0 hsz hcb; have hne : ∀ k, k ≠ g -> w5.heap[k]? = w4.heap[k]? := hne0))
     have D5 : Hid (Brd w1.heap.size w5 b g l o 0) := by
      refine ⟨hb0, hg0, D4.out.ne, ?_, by rw [List.append_nil] at hcr; exact hcr⟩
      have := D4.out.hd
      rw [List.length_replicate] at this
      exact (hne b D4.out.ne).trans this
     have hcc : Hid (Below w1.heap.size w4 w5) := ((Below.refl _ _).drew.trans hcb).mono hg0
     have K5 := hI (K4.out.below hcc.out hws)
     have B5 := hI (B4.out.trans (hcc.out.mono B1.out.size))
     clear hcr hne0 hne hsz hcb XY A4 x1 y1 K4 D4 hcc HOP HOP0
     have x2 : w5.cell? ⟨b, 2, none⟩ = _ := cRn (D5.out.hd.cell 2) rfl
     have f2 := D5.out.hd.froz 2
     have y2 : w5.cell? ⟨w.heap.size, 2, none⟩ = _ := cRn (K5.out.cell 2) rfl
     have D6 := hI (D5.out.set m)
     have B6 : Hid (Below w.heap.size w (w5.setCell ⟨b, 2, none⟩ (.int .i64 (m : Int)))) := B5.out.setCell (p := ⟨b, 2, none⟩) (by have := B1.out.size; dsimp only; omega) _
     clear D5 K5
     go_wp2_with fail
     generalize (w5.setCell ⟨b, 2, none⟩ (.int .i64 (m : Int))) = w6 at D6 B6 ⊢
     have CR := hI (qxJ (some ⟨g, 0, none⟩) (qmY g l.length o.length) l o l.length o.length m D6.out.hd hl hl' hmo (Nat.le_refl _) D6.out.cells D6.out.olds)
     refine CR.out.mono ?_
     rintro e w7 ⟨x, rfl, hx, hb7⟩
     have HX := hI hx
     have D7 := hI (D6.out.later hb7)
     have B7 := tRn B6 hb7
     clear hx hb7 D6 B6 x2 f2 y2
     rcases x with _ | _
     ·have HN := hI (show ¬ OkT l o (m : Int) from fun h => by have := HX.out.2 (OKI.out.1 h); cases this)
      clear HX
      go_wp2
      go_ret2
      exact ⟨.inr ⟨_, rfl, HN.out⟩, B7.out⟩
     ·have HY := hI (show OkT l o (m : Int) from OKI.out.2 (HX.out.1 rfl))
      clear HX
      go_wp2
      go_ret2
      exact ⟨.inl ⟨b, g, m, rfl, rfl, HY.out, ⟨by have := B1.out.size; omega, by have := B1.out.size; omega, D7.out.ne, D7.out.hd, D7.out.tl⟩⟩, B7.out⟩
   ·have q4 : decide ((o.length : Int) < mv) = true := decide_eq_true (by omega)
    have HN := hI (show ¬ OkT l o mv from fun h => by have := h.moved.2; omega)
    clear c4
    rcases hgo.out with g1 | ⟨g1, g2⟩
    ·go_wp2
     go_ret2
     exact ⟨.inr ⟨none, rfl, HN.out⟩, B1.out⟩
    ·go_wp2
     go_ret2
     exact ⟨.inr ⟨none, rfl, HN.out⟩, B1.out⟩
 ·have g1 : ((o.length : Int) != 0) = true := by simp; intro e; exact c2 (.inl (by rw [e]; rfl))
  have g2 : ((o.length : Int) != (l.length : Int) / 2) = true := by simp; have := HSZ.out; omega
  have HN := hI (show ¬ OkT l o mv from fun h => c2 h.half)
  clear c2
  go_wp2
  go_ret2
  exact ⟨.inr ⟨none, rfl, HN.out⟩, B1.out⟩
theorem qjS (ao : Option Addr) (l : List Ce) (ca : Nat) (w : World) (hl : l.length <= 1048576) (hA : RdJ w ao l) :
  Calls Tryz.prog 163 #[.slice ao l.length ca] w fun e w' => ∃ b, e = .returned (.slice (some ⟨b, 0, none⟩) l.length l.length) /\ w'.ownsRow w.heap.size 132 2 (.slice (some ⟨b, 0, none⟩) l.length l.length) l.length (ces l) /\ Below w.heap.size w w' := by
 obtain ⟨i0, hi, hz0, hz1, hz2⟩ := info_parts Tryz.infoCell
 have HA := hI hA
 clear hA
 go_enter Tryz.func163, Tryz.ntmps163
 go_wp2_with (first | (at_make; refine wpList_make_full _ rfl _ _ 27 rfl w.heap.size 132 i0 (ceV zC) 2 Tryz.underlying27 hi hz0 hz1 _ _ _ _ l.length rfl rfl rfl rfl (by rw [hz2]; omega) (by unfold maxLen; omega) (Nat.le_refl _) ?_; intro w0 hown0 hg0; rw [zdZ] at hown0; have K0 := hI (qnG hown0).1; have B0 : Hid (Below w.heap.size w w0) := Below.grown (Below.refl _ _) hg0 (Nat.le_refl _) (by intro k hk; cases hk); have A0 := hI (HA.out.later B0.out); obtain ⟨w1, hrun, hcr, hne, hsz, hcb⟩ := qsC w0 3 (some ⟨w.heap.size, 0, none⟩) ao l.length l.length ca w.heap.size l [] (List.replicate l.length zC) [] rfl (by simp) (fun _ => rfl) (by simpa using K0.out) A0.out; have K1 : Hid (Blk w1 w.heap.size 132 (ces l)) := (by show Blk _ _ _ _; simpa using hcr); have B1 := hI (B0.out.trans hcb); clear hown0 hg0 hcr hne hsz hcb))
 clear A0 K0 B0
 go_loopw [13] (fun iv wr => ∃ i : Nat, i <= l.length /\ iv = .int .i64 (i : Int) /\ Hid (Blk wr w.heap.size 132 (ces l)) /\ Hid (Below w.heap.size w wr)) (fun iv _ => l.length - (intOf iv).toNat)
 case atStart => exact ⟨0, by omega, rfl, K1, B1⟩
 case round =>
  obtain ⟨i, hi, rfl, hK, hbel⟩ := hrel
  by_cases hlt : i < l.length
  ·have k1 : (i : Int) < (l.length : Int) := by omega
   have x0 : wr.cell? ⟨w.heap.size, i * 2, none⟩ = some (.string l[i].key) := by rw [hK.out.cell, qjB hlt]
   have CN := hI (fun w => qkL l[i].key w)
   have HS : Hid (∀ w', Blk w' w.heap.size 132 (ces l) -> Blk (w'.setCell ⟨w.heap.size, i * 2, none⟩ (.string l[i].key)) w.heap.size 132 (ces l)) := by
    intro w' h
    have := h.set (i * 2) (.string l[i].key)
    rw [zaN hlt] at this
    have e : l.set i ⟨l[i].key, l[i].h⟩ = l := List.set_getElem_self hlt
    rw [e] at this
    exact this
   have HC : Hid (∀ w', Blk w' w.heap.size 132 (ces l) -> w'.cell? ⟨w.heap.size, i * 2, none⟩ = some (.string l[i].key)) := fun w' h => by rw [h.cell, qjB hlt]
   generalize l[i].key = ky at *
   go_wp2_with fail
   refine (CN.out _).mono ?_
   rintro e w2 ⟨rfl, hb2⟩
   have K2 := bRn hK hb2
   have B2 := tRn hbel hb2
   have y0 := HC.out w2 K2.out
   have f0 := K2.out.froz (i * 2)
   have K3 := hI (HS.out w2 K2.out)
   have B3 : Hid (Below w.heap.size w (w2.setCell ⟨w.heap.size, i * 2, none⟩ (.string ky))) := B2.out.setCell (p := ⟨w.heap.size, i * 2, none⟩) (Nat.le_refl _) _
   clear hb2 x0 hK hbel HS HC K2 B2
   go_wp2
   go_roundw
   case rel => exact ⟨i + 1, by omega, by go_num, K3, B3⟩
   case measure => simp [intOf]; omega
  ·obtain rfl : i = l.length := by omega
   have HO := hI (qvS (n := l.length) (size := 2) (base := w.heap.size) hK.out (by rw [qaV]) (Nat.le_refl _) (by unfold maxLen; omega))
   clear hK
   go_wp2
   go_ret
   exact ⟨_, rfl, HO.out, hbel.out⟩
def qtS (w w' : World) (v : Value) (l o : List Ce) (mv : Int) : Prop := ∃ (b c b' c' : Nat), v = tbV (some ⟨b, 0, none⟩) l.length c (some ⟨b', 0, none⟩) o.length c' mv /\ w'.ownsRow w.heap.size 132 2 (.slice (some ⟨b, 0, none⟩) l.length c) l.length (ces l) /\ w'.ownsRow w.heap.size 132 2 (.slice (some ⟨b', 0, none⟩) o.length c') o.length (ces o) /\ b ≠ b' /\ Below w.heap.size w w'
theorem qjR (ao a' : Option Addr) (l o : List Ce) (ca ca' : Nat) (mv : Int) (w : World) (hl : l.length <= 1048576) (hl' : o.length <= 1048576) (hA : RdJ w ao l) (hA' : RdJ w a' o) :
  Calls Tryz.prog 124 #[tbV ao l.length ca a' o.length ca' mv] w fun e w' => ∃ v, e = .returned v /\ qtS w w' v l o mv := by
 have C1 := hI (fun w' (hb : Below w.heap.size w w') => qjS ao l ca w' hl (hA.later hb))
 have C2 := hI (fun w' (hb : Below w.heap.size w w') => qjS a' o ca' w' hl' (hA'.later hb))
 have F0 : Hid (Blk ((w.alloc (.cells #[.slice ao l.length ca, .slice a' o.length ca', .int .i64 mv] 29)).alloc (.cells #[.slice none 0 0, .slice none 0 0, .int .i64 0] 29)) w.heap.size 29 [.slice ao l.length ca, .slice a' o.length ca', .int .i64 mv] /\ Blk ((w.alloc (.cells #[.slice ao l.length ca, .slice a' o.length ca', .int .i64 mv] 29)).alloc (.cells #[.slice none 0 0, .slice none 0 0, .int .i64 0] 29)) (w.heap.size + 1) 29 [.slice none 0 0, .slice none 0 0, .int .i64 0] /\ Below w.heap.size w ((w.alloc (.cells #[.slice ao l.length ca, .slice a' o.length ca', .int .i64 mv] 29)).alloc (.cells #[.slice none 0 0, .slice none 0 0, .int .i64 0] 29))) := by
  refine ⟨Blk.more (Blk.new w _ _) _, ?_, qcF w _ _⟩
  have := Blk.new (w.alloc (.cells #[.slice ao l.length ca, .slice a' o.length ca', .int .i64 mv] 29)) 29 #[.slice none 0 0, .slice none 0 0, .int .i64 0]
  rw [World.size_alloc] at this
  exact this
 clear hA hA'
 unfold tbV
 go_enter Tryz.func124, Tryz.ntmps124
 go_wp2_with fail
 generalize ((w.alloc (.cells #[.slice ao l.length ca, .slice a' o.length ca', .int .i64 mv] 29)).alloc (.cells #[.slice none 0 0, .slice none 0 0, .int .i64 0] 29)) = w0 at F0 ⊢
 obtain ⟨K0, R0, B0⟩ := F0.out
 have x0 : w0.cell? ⟨w.heap.size, 0, none⟩ = _ := cRn (K0.cell 0) rfl
 have x1 : w0.cell? ⟨w.heap.size, 1, none⟩ = _ := cRn (K0.cell 1) rfl
 have x2 : w0.cell? ⟨w.heap.size, 2, none⟩ = _ := cRn (K0.cell 2) rfl
 have X := hI (And.intro x0 (And.intro x1 x2))
 have hs0 : w.heap.size < w0.heap.size := K0.lt
 have hs1 : w.heap.size + 1 < w0.heap.size := R0.lt
 have R0 := hI R0
 have B0 := hI B0
 clear F0 K0
 go_region_held3 (fun w' => w'.cell? ⟨w.heap.size, 0, none⟩ = some (.slice ao l.length ca) /\ w'.cell? ⟨w.heap.size, 1, none⟩ = some (.slice a' o.length ca') /\ w'.cell? ⟨w.heap.size, 2, none⟩ = some (.int .i64 mv)) (first | go_keep | exact ⟨(D4.out.cell hs0).trans X.out.1, (D4.out.cell hs0).trans X.out.2.1, (D4.out.cell hs0).trans X.out.2.2⟩ | exact ⟨(D3.out.cell hs0).trans X.out.1, (D3.out.cell hs0).trans X.out.2.1, (D3.out.cell hs0).trans X.out.2.2⟩) ((first | (go_at_call 163; have D3' := D3.out; refine (C2.out _ (B0.out.trans ((D3.out.trans (show Below w0.heap.size w3 _ by go_grown)).mono B0.out.size))).mono ?_; rintro e w4 ⟨b4, rfl, ho4, hb4⟩; have D4 : Hid (Below w0.heap.size w0 w4) := (D3.out.trans (show Below w0.heap.size w3 _ by go_grown)).trans (hb4.mono (by have := D3.out.size; go_size)); have O4 : Hid (w4.ownsRow w3.heap.size 132 2 (.slice (some ⟨b4, 0, none⟩) o.length o.length) o.length (ces o)) := ho4; have E4 : Hid (Below w3.heap.size w3 w4) := (show Below w3.heap.size w3 _ by go_grown).trans hb4; have r4 := R0.out.below D4.out hs1; have y0 : w4.cell? ⟨w.heap.size + 1, 0, none⟩ = some (.slice none 0 0) := r4.cell 0; have y1 : w4.cell? ⟨w.heap.size + 1, 1, none⟩ = some (.slice none 0 0) := r4.cell 1; have y2 : w4.cell? ⟨w.heap.size + 1, 2, none⟩ = some (.int .i64 0) := r4.cell 2; have yf : ∀ j, w4.frozen? ⟨w.heap.size + 1, j, none⟩ = false := fun j => r4.froz j; have R4 := hI r4; clear r4) | (go_at_call 163; refine (C1.out _ (B0.out.trans ((show Below w0.heap.size w0 _ by go_grown).mono B0.out.size))).mono ?_; rintro e w3 ⟨b3, rfl, ho3, hb3⟩; have D3 : Hid (Below w0.heap.size w0 w3) := (show Below w0.heap.size w0 _ by go_grown).trans hb3; have O3 : Hid (w3.ownsRow w0.heap.size 132 2 (.slice (some ⟨b3, 0, none⟩) l.length l.length) l.length (ces l)) := ho3)))
 go_wp2
 have hh : Blk (((w4.setCell ⟨w.heap.size + 1, 0, none⟩ (.slice (some ⟨b3, 0, none⟩) l.length l.length)).setCell ⟨w.heap.size + 1, 1, none⟩ (.slice (some ⟨b4, 0, none⟩) o.length o.length)).setCell ⟨w.heap.size + 1, 2, none⟩ (.int .i64 mv)) (w.heap.size + 1) 29 [.slice (some ⟨b3, 0, none⟩) l.length l.length, .slice (some ⟨b4, 0, none⟩) o.length o.length, .int .i64 mv] :=
  Blk.set (Blk.set (Blk.set R4.out 0 _) 1 _) 2 _
 have l3 := O3.out.lt b3 rfl
 have l4 := O4.out.lt b4 rfl
 refine bodyPost_ret (results_cell_row Tryz.results124 _ _ (w.heap.size + 1) 29 #[.slice (some ⟨b3, 0, none⟩) l.length l.length, .slice (some ⟨b4, 0, none⟩) o.length o.length, .int .i64 mv] (0, 0) _ rfl hh Tryz.underlying29 rfl (by kernel_rfl)) rfl ?_
 refine ⟨_, rfl, b3, l.length, b4, o.length, rfl, ?_, ?_, by omega, ?_⟩
 ·refine qaB (qaA (qaA (qaA (qaE O3.out E4.out) _ _ ?_) _ _ ?_) _ _ ?_) (by have := B0.out.size; omega)
  all_goals
   intro k hk
   have ek : b3 = k := Option.some.inj hk
   dsimp only
   omega
 ·refine qaB (qaA (qaA (qaA O4.out _ _ ?_) _ _ ?_) _ _ ?_) (by have := B0.out.size; have := D3.out.size; omega)
  all_goals
   intro k hk
   have ek : b4 = k := Option.some.inj hk
   have := D3.out.size
   dsimp only
   omega
 ·exact (((B0.out.trans (D4.out.mono B0.out.size)).setCell (p := ⟨w.heap.size + 1, 0, none⟩) (by dsimp only; omega) _).setCell (p := ⟨w.heap.size + 1, 1, none⟩) (by dsimp only; omega) _).setCell (p := ⟨w.heap.size + 1, 2, none⟩) (by dsimp only; omega) _
theorem qmC {w : World} {s r j : Nat} {a b c : Value} (h : r ≠ s) : (((w.setCell ⟨s, 0, none⟩ a).setCell ⟨s, 1, none⟩ b).setCell ⟨s, 2, none⟩ c).cell? ⟨r, j, none⟩ = w.cell? ⟨r, j, none⟩ :=
 World.cell?_of_block (w := w) (((Below.heap_setCell _ ⟨s, 2, none⟩ c r h).trans (Below.heap_setCell _ ⟨s, 1, none⟩ b r h)).trans (Below.heap_setCell w ⟨s, 0, none⟩ a r h))
theorem qdY {w : World} {r : Nat} (ao a' : Option Addr) (l o : List Ce) (ca ca' : Nat) (mv : Int) (hK : Blk w r 181 [.slice ao l.length ca, .slice a' o.length ca', .int .i64 mv]) (hl : l.length <= 1048576) (hl' : o.length <= 1048576) (hA : RdJ w ao l) (hA' : RdJ w a' o) :
  Calls Tryz.prog 119 #[.pointer (some ⟨r, 0, none⟩)] w fun e w' => ∃ v, e = .returned v /\ qtS w w' v l o mv := by
 have C1 := hI (fun w' (hb : Below w.heap.size w w') => qjR ao a' l o ca ca' mv w' hl hl' (hA.later hb) (hA'.later hb))
 have F0 : Hid (Blk (w.alloc (.cells #[.slice none 0 0, .slice none 0 0, .int .i64 0] 29)) r 181 [.slice ao l.length ca, .slice a' o.length ca', .int .i64 mv] /\ Blk (w.alloc (.cells #[.slice none 0 0, .slice none 0 0, .int .i64 0] 29)) w.heap.size 29 [.slice none 0 0, .slice none 0 0, .int .i64 0] /\ Below w.heap.size w (w.alloc (.cells #[.slice none 0 0, .slice none 0 0, .int .i64 0] 29))) := ⟨Blk.more hK _, Blk.new w _ _, bAl _ _⟩
 have hrl := hK.lt
 clear hA hA' hK
 unfold tbV at C1
 go_enter Tryz.func119, Tryz.ntmps119
 go_wp2_with fail
 generalize (w.alloc (.cells #[.slice none 0 0, .slice none 0 0, .int .i64 0] 29)) = w0 at F0 ⊢
 obtain ⟨K0, R0, B0⟩ := F0.out
 have x0 : w0.cell? ⟨r, 0, none⟩ = _ := cRn (K0.cell 0) rfl
 have x1 : w0.cell? ⟨r, 1, none⟩ = _ := cRn (K0.cell 1) rfl
 have x2 : w0.cell? ⟨r, 2, none⟩ = _ := cRn (K0.cell 2) rfl
 have X := hI (And.intro x0 (And.intro x1 x2))
 have hs0 : r < w0.heap.size := K0.lt
 have hs1 : w.heap.size < w0.heap.size := R0.lt
 have hrn : r ≠ w.heap.size := by omega
 have R0 := hI R0
 have B0 := hI B0
 clear F0 K0
 go_region_held3 (fun w' => w'.cell? ⟨r, 0, none⟩ = some (.slice ao l.length ca) /\ w'.cell? ⟨r, 1, none⟩ = some (.slice a' o.length ca') /\ w'.cell? ⟨r, 2, none⟩ = some (.int .i64 mv)) (first | go_keep | exact ⟨(D4.out.cell hs0).trans X.out.1, (D4.out.cell hs0).trans X.out.2.1, (D4.out.cell hs0).trans X.out.2.2⟩ | exact ⟨(qmC hrn).trans ((D4.out.cell hs0).trans X.out.1), (qmC hrn).trans ((D4.out.cell hs0).trans X.out.2.1), (qmC hrn).trans ((D4.out.cell hs0).trans X.out.2.2)⟩) ((go_at_call 124; refine (C1.out _ (B0.out.trans ((show Below w0.heap.size w0 _ by go_grown).mono B0.out.size))).mono ?_; rintro e w4 ⟨v, rfl, b3, c3, b4, c4, rfl, ho3, ho4, hne, hb4⟩; unfold tbV; have D4 : Hid (Below w0.heap.size w0 w4) := (show Below w0.heap.size w0 _ by go_grown).trans hb4; have O3 : Hid (w4.ownsRow w0.heap.size 132 2 (.slice (some ⟨b3, 0, none⟩) l.length c3) l.length (ces l)) := ho3; have O4 : Hid (w4.ownsRow w0.heap.size 132 2 (.slice (some ⟨b4, 0, none⟩) o.length c4) o.length (ces o)) := ho4; have r4 := R0.out.below D4.out hs1; have y0 : w4.cell? ⟨w.heap.size, 0, none⟩ = some (.slice none 0 0) := r4.cell 0; have y1 : w4.cell? ⟨w.heap.size, 1, none⟩ = some (.slice none 0 0) := r4.cell 1; have y2 : w4.cell? ⟨w.heap.size, 2, none⟩ = some (.int .i64 0) := r4.cell 2; have yf : ∀ j, w4.frozen? ⟨w.heap.size, j, none⟩ = false := fun j => r4.froz j; have R4 := hI r4; clear r4 ho3 ho4))
 go_wp2
 have hh : Blk (((w4.setCell ⟨w.heap.size, 0, none⟩ (.slice (some ⟨b3, 0, none⟩) l.length c3)).setCell ⟨w.heap.size, 1, none⟩ (.slice (some ⟨b4, 0, none⟩) o.length c4)).setCell ⟨w.heap.size, 2, none⟩ (.int .i64 mv)) w.heap.size 29 [.slice (some ⟨b3, 0, none⟩) l.length c3, .slice (some ⟨b4, 0, none⟩) o.length c4, .int .i64 mv] :=
  Blk.set (Blk.set (Blk.set R4.out 0 _) 1 _) 2 _
 have l3 := O3.out.lt b3 rfl
 have l4 := O4.out.lt b4 rfl
 refine bodyPost_ret (results_cell_row Tryz.results119 _ _ w.heap.size 29 #[.slice (some ⟨b3, 0, none⟩) l.length c3, .slice (some ⟨b4, 0, none⟩) o.length c4, .int .i64 mv] (0, 0) _ rfl hh Tryz.underlying29 rfl (by kernel_rfl)) rfl ?_
 refine ⟨_, rfl, b3, c3, b4, c4, rfl, ?_, ?_, hne, ?_⟩
 ·refine qaB (qaA (qaA (qaA O3.out _ _ ?_) _ _ ?_) _ _ ?_) (by have := B0.out.size; omega)
  all_goals
   intro k hk
   have ek : b3 = k := Option.some.inj hk
   dsimp only
   omega
 ·refine qaB (qaA (qaA (qaA O4.out _ _ ?_) _ _ ?_) _ _ ?_) (by have := B0.out.size; omega)
  all_goals
   intro k hk
   have ek : b4 = k := Option.some.inj hk
   dsimp only
   omega
 ·exact (((B0.out.trans (D4.out.mono B0.out.size)).setCell (p := ⟨w.heap.size, 0, none⟩) (by dsimp only; omega) _).setCell (p := ⟨w.heap.size, 1, none⟩) (by dsimp only; omega) _).setCell (p := ⟨w.heap.size, 2, none⟩) (by dsimp only; omega) _
end Go.Proofs.YtigpjmmfelndkaaGreatDoor
