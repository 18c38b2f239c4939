/- The laws' functions on lists of texts; right queues in variables. -/
import Derived.Test.YtaafofgfeaodhaaDrawQ
namespace Go.Proofs.Ytaafofgfeaodhaa
open Go.RowKit

set_option maxRecDepth 100000 in
set_option maxHeartbeats 400000 in
theorem sameTQ_any (a b : Option Addr) (l m : List ByteArray) (ca cb : Nat) (w : World) (hl : l.length ≤ 1048576) (ha : RdQ w a l) (hb : RdQ w b m) :
    Calls Try.prog 18 #[.slice a l.length ca, .slice b m.length cb] w fun e w' => ∃ x : Bool, e = .returned (.bool x) ∧ (x = true ↔ l = m) ∧ Below w.heap.size w w' := by
  by_cases c0 : l.length = m.length
  · have q0 : ((l.length : Int) != (m.length : Int)) = false := by simp [c0]
    have HA := hide1 ha
    have HB := hide1 hb
    have C0 := hide1 c0
    clear ha hb c0
    go_enter Try.func18, Try.ntmps18
    go_wp2
    go_loopw [5] (fun iv wr => ∃ i : Nat, i ≤ l.length ∧ iv = .int .i64 (i : Int) ∧ Hid (∀ j, j < i → l[j]? = m[j]?) ∧ Below w.heap.size w wr) (fun iv _ => l.length - (intOf iv).toNat)
    case atStart => exact ⟨0, by omega, rfl, fun j hj => by omega, Below.refl _ _⟩
    case round =>
      obtain ⟨i, hi, rfl, hsame, hbel⟩ := hrel
      by_cases hlt : i < l.length
      · have hltm : i < m.length := by have := C0.out; omega
        obtain ⟨g, o, rfl, hg, h1⟩ := HA.out i hlt
        obtain ⟨g', o', rfl, hg', h2⟩ := HB.out i hltm
        have x0 := (hbel.cell (p := ⟨g, o + i, none⟩) hg).trans h1
        have y0 := (hbel.cell (p := ⟨g', o' + i, none⟩) hg').trans h2
        clear h1 h2
        have k1 : (i : Int) < (l.length : Int) := by omega
        have k2 : (i : Int) < (m.length : Int) := by omega
        have e1 := hide1 (List.getElem?_eq_getElem hlt)
        have e2 := hide1 (List.getElem?_eq_getElem hltm)
        generalize l[i] = s at *
        generalize m[i] = t at *
        by_cases ce : s = t
        · obtain ⟨q, q'⟩ := text_eq ce
          have CE := hide1 ce
          clear ce
          go_wp2_with fail
          go_quiet (fail)
          go_wp2
          go_roundw
          case rel =>
            refine ⟨i + 1, by omega, by go_num, fun j hj => ?_, below_drewN hbel _⟩
            by_cases hj2 : j < i
            · exact hsame.out j hj2
            · rw [show j = i by omega, e1.out, e2.out, CE.out]
          case measure => simp [intOf]; omega
        · obtain ⟨q, q'⟩ := text_ne ce
          have CE := hide1 ce
          clear ce
          go_wp2_with fail
          go_quiet (fail)
          go_wp2
          go_ret
          refine ⟨false, rfl, ⟨(fun h => by cases h), fun h => ?_⟩, below_drewN hbel _⟩
          rw [h] at e1
          exact absurd (Option.some.inj (e1.out.symm.trans e2.out)) CE.out
      · go_wp2
        go_ret
        refine ⟨true, rfl, ⟨fun _ => ?_, fun _ => rfl⟩, hbel⟩
        refine List.ext_getElem? fun j => ?_
        by_cases hj : j < i
        · exact hsame.out j hj
        · have := C0.out
          rw [List.getElem?_eq_none (by omega), List.getElem?_eq_none (by omega)]
  · have q0 : ((l.length : Int) != (m.length : Int)) = true := by simp; omega
    clear ha hb
    go_enter Try.func18, Try.ntmps18
    go_wp2
    go_ret
    exact ⟨false, rfl, by simp; intro h; exact c0 (by rw [h]), Below.refl _ _⟩

set_option maxRecDepth 100000 in
set_option maxHeartbeats 800000 in
theorem lawWthQ_any (ao : Option Addr) (l : List ByteArray) (ca : Nat) (k : ByteArray) (w : World) (hl : l.length ≤ 65536) (hA : RdQ w ao l) :
    Calls Try.prog 17 #[.slice ao l.length ca, .string k] w fun e w' => ∃ po pc, e = .returned (.slice po (wthQ l k).length pc) ∧ OwnQ w' w.heap.size po pc (wthQ l k) ∧ Below w.heap.size w w' := by
  obtain ⟨i0, hi0, hz0, hz1, hz2⟩ := info_parts Try.infoQ
  have HA := hide1 hA
  clear hA
  go_enter Try.func17, Try.ntmps17
  go_wp2
  go_loopw [5, 6] (fun lv iv wr => ∃ (i : Nat) (R : List ByteArray) (po : Option Addr) (pc : Nat), i ≤ l.length ∧ R.length ≤ i ∧ iv = .int .i64 (i : Int) ∧ lv = .slice po R.length pc ∧ Hid (R = wthQ (l.take i) k) ∧ Hid (wr.ownsRow w.heap.size 9 1 (.slice po R.length pc) R.length (sc R)) ∧ Hid (Below w.heap.size w wr)) (fun _ iv _ => l.length - (intOf iv).toNat)
  case atStart => exact ⟨0, [], _, _, by omega, Nat.le_refl _, rfl, rfl, rfl, owns_empty w 9, (Below.refl _ _).alloc (Nat.le_refl _) _⟩
  case round =>
    obtain ⟨i, R, po, pc, hi, hRi, rfl, rfl, hR, hown, hbel⟩ := hrel
    by_cases hlt : i < l.length
    · have k1 : (i : Int) < (l.length : Int) := by omega
      obtain ⟨g, o, hlo, hg, h1⟩ := HA.out i hlt
      have x0 : wr.cell? ⟨g, o + i, none⟩ = some (.string l[i]) := (hbel.out.cell (p := ⟨g, o + i, none⟩) hg).trans h1
      have hft := hide1 (wthQ_take (k := k) hlt)
      generalize l[i] = y at *
      have hbs := hbel.out.size
      rw [hlo]
      clear h1 hlo
      cases e : (y.toList != k.toList) with
      | true =>
        have b1 : (y.toList == k.toList) = false := by rw [bne] at e; simpa using e
        have HR2 := hide1 (show R ++ [y] = wthQ (l.take (i + 1)) k by rw [hft.out, if_pos e, hR.out])
        clear hft
        go_wp2_with (at_builtin; (refine wpList_push1 rfl _ _ 24 rfl w.heap.size 9 i0 (.string ⟨#[]⟩) 16 Try.underlying24 hi0 hz0 hz1 hz2 rfl (by decide) _ R.length (sc R) rfl hown.out (.string y) rfl rfl (by omega) hbs ?_; intro v' w6 hown6 hb6))
        have O6 : Hid (w6.ownsRow w.heap.size 9 1 v' (R ++ [y]).length (sc (R ++ [y]))) := by
          show World.ownsRow _ _ _ _ _ _ _
          rw [sc_append, List.length_append]
          exact hown6
        obtain ⟨lo2, lc2, rfl⟩ := own_slice O6.out
        have B6 := hide1 (hbel.out.trans hb6)
        have hll : (R ++ [y]).length = R.length + 1 := by simp
        clear hown6 hb6
        go_wp2
        go_roundw
        case rel => exact ⟨i + 1, R ++ [y], lo2, lc2, by omega, by omega, by go_num, rfl, HR2, O6, B6⟩
        case measure => simp [intOf]; omega
      | false =>
        have b1 : (y.toList == k.toList) = true := by rw [bne] at e; simpa using e
        have HR2 := hide1 (show R = wthQ (l.take (i + 1)) k by rw [hft.out, if_neg (by rw [e]; simp), hR.out, List.append_nil])
        clear hft
        go_wp2
        go_roundw
        case rel => exact ⟨i + 1, R, po, pc, by omega, by omega, by go_num, rfl, HR2, hown, hbel⟩
        case measure => simp [intOf]; omega
    · obtain rfl : i = l.length := by omega
      have HR1 := hide1 (show R = wthQ l k by rw [hR.out, List.take_length])
      go_wp2
      go_ret
      refine ⟨po, pc, ?_, ?_, hbel.out⟩
      · rw [← HR1.out]; rfl
      · rw [← HR1.out]; exact hown.out

set_option maxRecDepth 100000 in
set_option maxHeartbeats 800000 in
theorem lawHasQ_any (ao : Option Addr) (l : List ByteArray) (ca : Nat) (k : ByteArray) (w : World) (hl : l.length ≤ 1048576) (hA : RdQ w ao l) :
    Calls Try.prog 16 #[.slice ao l.length ca, .string k] w fun e w' => e = .returned (.bool (hasQ l k)) ∧ w' = w := by
  have HA := hide1 hA
  clear hA
  go_enter Try.func16, Try.ntmps16
  go_wp2
  go_loop [5] (fun iv => ∃ i : Nat, i ≤ l.length ∧ iv = .int .i64 (i : Int) ∧ Hid (¬ k ∈ l.take i)) (fun iv => l.length - (intOf iv).toNat)
  case atStart => exact ⟨0, by omega, rfl, by show ¬ k ∈ l.take 0; simp⟩
  case round =>
    obtain ⟨i, hi, rfl, hno⟩ := hrel
    by_cases hlt : i < l.length
    · have k1 : (i : Int) < (l.length : Int) := by omega
      obtain ⟨b, o, rfl, hb, h1⟩ := HA.out i hlt
      obtain ⟨s, hs⟩ : ∃ s, l[i] = s := ⟨_, rfl⟩
      rw [hs] at h1
      have HS := hide1 hs
      clear hs
      by_cases ce : s = k
      · obtain ⟨q, q'⟩ := text_eq ce
        have HM := hide1 ((hasQ_iff l k).2 (show k ∈ l by rw [← ce, ← HS.out]; exact List.getElem_mem _))
        clear ce
        go_wp2
        go_ret
        exact ⟨by rw [HM.out]; rfl, rfl⟩
      · obtain ⟨q, q'⟩ := text_ne ce
        have HM := hide1 (mem_take_succ hlt hno.out (fun e => ce (by rw [← HS.out, e])))
        clear ce
        go_wp2
        go_round
        case rel => exact ⟨i + 1, by omega, by go_num, HM⟩
        case measure => simp [intOf]; omega
    · obtain rfl : i = l.length := by omega
      have HM := hide1 (hasQ_not (show ¬ k ∈ l by have := hno.out; rwa [List.take_length] at this))
      go_wp2
      go_ret
      exact ⟨by rw [HM.out]; rfl, rfl⟩

theorem step_appC {ops : Array Oper} {o : Oper} {a : Act} {w : World} {K : Act → World → Prop} {Q : Exit → Act → World → Prop} {E : Prop} (hw : Region.wanted o (yielded ops a.tmps) = true) (s x : Operand) (t : TypeId)
    (ho : o.op = .call { callee := .builtin .append, args := #[s, x], argTypes := #[t, t] }) (ht : Try.prog.underlying t = some (.slice 9)) (base : Nat) (v : Value) (n : Nat) (l1 : List ByteArray) (hs : a.eval s = v) (hown : w.ownsRow base 9 1 v n (sc l1)) (ao : Option Addr) (m c : Nat) (l2 : List ByteArray) (hx : a.eval x = .slice ao m c) (hm : l2.length = m) (hA : RdQ w ao l2) (hlen : n + m ≤ 1048576) (hbase : base ≤ w.heap.size)
    (h : ∀ b' c' w', OwnQ w' base b' c' (l1 ++ l2) → Below base w w' → K (a.put o.dst (.slice b' (l1 ++ l2).length c')) w') :
    if Region.wanted o (yielded ops a.tmps) = true then Oper.wp Try.prog o a w K Q else E := by
  rw [if_pos hw]
  obtain ⟨v', w', hrun, h1, h2⟩ := appQ_run w t o.type ht base v n l1 hown ao m c l2 hm hA hlen hbase
  have hl1 : l1.length = n := by have := hown.1; rw [qc_length] at this; omega
  have e : n + m = (l1 ++ l2).length := by rw [List.length_append, hl1, hm]
  rw [e] at h1
  obtain ⟨b', c', rfl⟩ := own_slice h1
  unfold Oper.wp
  simp only [execOp, ho, resolve, invoke, builtin, Sem.run_bind, Sem.run_pure, Result.andThen_ok, List.map_toArray, List.map_cons, List.map_nil, hs, hx, hrun]
  exact h b' c' w' h1 (gbelow h2 (fun g hg => (hown.lt g hg).1) hbase)

/-- A queue in a variable. -/
structure OneQ (w : World) (A : Nat) (ao : Option Addr) (l : List ByteArray) (ca : Nat) (m : Int) : Prop where
  var : Blk w A 26 [.int .i64 m, .slice ao l.length ca]
  rd : RdQ w ao l
  cap : l.length ≤ ca ∧ ca ≤ maxLen
theorem OneQ.later {w w' : World} {A ca : Nat} {ao : Option Addr} {l : List ByteArray} {m : Int} (h : OneQ w A ao l ca m) (hb : Below w.heap.size w w') : OneQ w' A ao l ca m := ⟨h.var.below hb h.var.lt, h.rd.later hb, h.cap⟩
theorem OneQ.cells {w : World} {A ca : Nat} {ao : Option Addr} {l : List ByteArray} {m : Int} (h : OneQ w A ao l ca m) : A < w.heap.size ∧ w.cell? ⟨A, 0, none⟩ = some (.int .i64 m) ∧ w.cell? ⟨A, 1, none⟩ = some (.slice ao l.length ca) := ⟨h.var.lt, h.var.cell 0, h.var.cell 1⟩
theorem OneQ.box {w : World} {base ca : Nat} {ao : Option Addr} {l : List ByteArray} {m : Int} (ho : OwnQ w base ao ca l) : OneQ (w.alloc (.cells #[.int .i64 m, .slice ao l.length ca] 26)) w.heap.size ao l ca m :=
  ⟨Blk.new w _ _, rdQ_of_own (World.ownsRow.alloc ho _), ho.cap⟩
theorem OneQ.ok {w w' : World} {A ca : Nat} {ao : Option Addr} {l : List ByteArray} {m : Int} (h : OneQ w A ao l ca m) (hok : OkQ l m) (hb : Below w.heap.size w w') :
    Calls Try.prog 15 #[.agg #[.int .i64 m, .slice ao l.length ca]] w' fun e w'' => e = .returned (.bool true) ∧ Below w'.heap.size w' w'' := by
  have := hok.small
  refine (implQOk_any ao l ca m w' (by omega) h.cap.1 h.cap.2 (h.rd.later hb)).mono ?_
  rintro e w'' ⟨x, rfl, hx, hb⟩
  obtain rfl : x = true := hx.2 hok
  exact ⟨rfl, hb⟩
theorem OneQ.hasI {w w' : World} {A ca : Nat} {ao : Option Addr} {l : List ByteArray} {m : Int} (h : OneQ w A ao l ca m) (k : ByteArray) (hl : l.length ≤ 1048576) (hb : Below w.heap.size w w') :
    Calls Try.prog 14 #[.agg #[.int .i64 m, .slice ao l.length ca], .string k] w' fun e w'' => e = .returned (.bool (hasQ l k)) ∧ Below w'.heap.size w' w'' := implHas_any ao l ca m k w' hl (h.rd.later hb)
theorem sameYes (a b : Option Addr) (l : List ByteArray) (n ca cb : Nat) (w : World) (hn : l.length = n) (hl : n ≤ 1048576) (ha : RdQ w a l) (hb : RdQ w b l) :
    Calls Try.prog 18 #[.slice a n ca, .slice b n cb] w fun e w' => e = .returned (.bool true) ∧ Below w.heap.size w w' := by
  subst hn
  refine (sameTQ_any a b l l ca cb w hl ha hb).mono ?_
  rintro e w' ⟨x, rfl, hx, hb⟩
  obtain rfl : x = true := hx.2 rfl
  exact ⟨rfl, hb⟩
end Go.Proofs.Ytaafofgfeaodhaa
