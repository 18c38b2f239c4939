/- What the laws of rings that lose a node need: plain, and lists of texts. -/
import Derived.Test.YtdgpencendphbaaDoorLawG
import Derived.Test.YtdgpencendphbaaDoorRiK
namespace Go.Proofs.YtdgpencendphbaaDoor
open Go.RowKit
set_option linter.unusedVariables false

/-- Whether a text is there. -/
def hasT (l : List ByteArray) (k : ByteArray) : Bool := l.any (fun s => s.toList == k.toList)
theorem hasT_iff {l : List ByteArray} {k : ByteArray} : hasT l k = true ↔ k ∈ l := by
  unfold hasT
  rw [List.any_eq_true]
  constructor
  · rintro ⟨s, hs, e⟩
    have e2 : s = k := textEq (by simpa using e)
    rw [← e2]
    exact hs
  · intro h
    exact ⟨k, h, by simp⟩
theorem hasT_not {l : List ByteArray} {k : ByteArray} (h : ¬ k ∈ l) : hasT l k = false := by
  cases e : hasT l k with
  | false => rfl
  | true => exact absurd (hasT_iff.1 e) h
/-- Without a node. -/
def restL (L : List Int) (x : Int) : List Int := L.filter (fun v => v != x)
theorem restL_next {L : List Int} {x : Int} {i : Nat} (h : i < L.length) : restL (L.take (i + 1)) x = if (L[i] != x) = true then restL (L.take i) x ++ [L[i]] else restL (L.take i) x := by
  unfold restL
  rw [List.take_succ_eq_append_getElem h, List.filter_append]
  by_cases c : (L[i] != x) = true
  · rw [if_pos c, List.filter_cons, if_pos c]
    rfl
  · rw [if_neg c, List.filter_cons, if_neg c, List.filter_nil, List.append_nil]
theorem restL_length {L : List Int} (hn : L.Nodup) {x : Int} (hx : x ∈ L) : (restL L x).length + 1 = L.length := by
  have := offV_length hn x
  rw [if_pos hx] at this
  exact this
theorem rest_ok {L : List Int} {x : Int} (h : okNds L) (h2 : 2 ≤ L.length) (hx : x ∈ L) : okNds (restL L x) := by
  have hl := restL_length h.nodup hx
  have := h.1.2
  exact okNds_of ⟨by omega, by omega⟩ (h.asc.filter _) (fun v hv => h.rng v (List.mem_filter.1 hv).1)
theorem ring_restE (L : List Int) (x : Int) : ringL spotF (restL L x) = (ringL spotF L).filter (fun s => s.2 != x) := (ringL_rest spotF x L).symm
/-- Just the keys of the node that goes have another home. -/
theorem home_iff {L : List Int} {x : Int} (h : okNds L) (h2 : 2 ≤ L.length) (hx : x ∈ L) (n : Int) : (homeS (ringL spotF L) n != homeS (ringL spotF (restL L x)) n) = (homeS (ringL spotF L) n == x) := by
  rw [ring_restE]
  by_cases c : homeS (ringL spotF L) n = x
  · have hg := home_gone (ringL_srt spotF L) n x (by
      have hr := rest_ok h h2 hx
      obtain ⟨y, hy⟩ : ∃ y, y ∈ restL L x := by
        have := hr.1.1
        exact ⟨(restL L x)[0], List.getElem_mem (by omega)⟩
      have hy2 := List.mem_filter.1 hy
      obtain ⟨s, hs, e⟩ := (ringL_node spotF L y).2 hy2.1
      exact ⟨s, hs, by rw [e]; simpa using hy2.2⟩)
    rw [c, beq_self_eq_true, bne_iff_ne]
    exact fun e => hg e.symm
  · rw [home_rest (ringL_srt spotF L) n x c]
    have : (homeS (ringL spotF L) n == x) = false := by rw [beq_eq_false_iff_ne]; exact c
    rw [this]
    simp
theorem moved_comm (la lb : List Sp) (ks : List ByteArray) : movedS la lb ks = movedS lb la ks := by
  unfold movedS
  exact List.filter_congr (fun k _ => by simp only [bne]; rw [Bool.beq_comm])
theorem moved_self (la : List Sp) (ks : List ByteArray) : movedS la la ks = [] := by
  unfold movedS
  exact List.filter_eq_nil_iff.2 (fun k _ => by simp)
theorem moved_has {L : List Int} {x : Int} (h : okNds L) (h2 : 2 ≤ L.length) (hx : x ∈ L) {ks : List ByteArray} {z : ByteArray} (hz : z ∈ ks) : hasT (movedS (ringL spotF L) (ringL spotF (restL L x)) ks) z = (homeS (ringL spotF L) (hashN z 0 : Int) == x) := by
  have e : z ∈ movedS (ringL spotF L) (ringL spotF (restL L x)) ks ↔ (homeS (ringL spotF L) (hashN z 0 : Int) == x) = true := by
    unfold movedS
    rw [List.mem_filter, home_iff h h2 hx]
    exact ⟨fun h => h.2, fun h => ⟨hz, h⟩⟩
  rw [Bool.eq_iff_iff, hasT_iff, e]
theorem moved_len (la lb : List Sp) (ks : List ByteArray) : (movedS la lb ks).length ≤ ks.length := List.length_filter_le _ _
/-- All homes, within nine. -/
theorem homes9 {L : List Int} (h : okNds L) (n : Int) : homesS (ringL spotF L) n 9 = allH (ringL spotF L) n := by
  have hl := allH_len spotF h.nodup n
  have := h.1.2
  exact List.take_of_length_le (by show (allH (ringL spotF L) n).length ≤ 9; omega)
theorem homes9_len {L : List Int} (h : okNds L) (n : Int) : (homesS (ringL spotF L) n 9).length = L.length := by rw [homes9 h, allH_len spotF h.nodup]
theorem homes9_rest {L : List Int} {x : Int} (h : okNds L) (h2 : 2 ≤ L.length) (hx : x ∈ L) (n : Int) : homesS (ringL spotF (restL L x)) n 9 = restL (homesS (ringL spotF L) n 9) x := by
  rw [homes9 (rest_ok h h2 hx), homes9 h, ring_restE]
  exact homes_rest (ringL_srt spotF L) n x
/-- Two rings in boxes. -/
structure StH (w0 w : World) (A B : Nat) (bn : Option Addr) (L : List Int) (ba : Option Addr) (RA : List Sp) (ca : Nat) (bb : Option Addr) (RB : List Sp) (cb : Nat) : Prop where
  rn : RdZ w bn L
  ra : RdP w ba RA
  rb : RdP w bb RB
  va : VarR w 28 A ba RA.length ca
  vb : VarR w 28 B bb RB.length cb
  bel : Below w0.heap.size w0 w
theorem StH.later {w0 w w' : World} {A B : Nat} {bn ba bb : Option Addr} {L : List Int} {RA RB : List Sp} {ca cb : Nat} (h : StH w0 w A B bn L ba RA ca bb RB cb) (hb : Below w.heap.size w w') : StH w0 w' A B bn L ba RA ca bb RB cb :=
  ⟨h.rn.later hb, h.ra.later hb, h.rb.later hb, h.va.later hb, h.vb.later hb, h.bel.trans (hb.mono h.bel.size)⟩
theorem Wds.toK {w : World} {wo : Option Addr} {ws : List ByteArray} (h : Wds w wo ws) : RdK w wo ws := fun i hi => by
  obtain ⟨g, h1, h2, h3⟩ := h i hi
  exact ⟨g, 0, h1, h2, by simpa using h3⟩
theorem mem_take_succT {l : List ByteArray} {k : ByteArray} {i : Nat} (h : i < l.length) (hk : ¬ k ∈ l.take i) (hn : ¬ l[i] = k) : ¬ k ∈ l.take (i + 1) := by
  rw [List.take_succ_eq_append_getElem h]
  intro hm
  rcases List.mem_append.1 hm with h1 | h1
  · exact hk h1
  · exact hn (List.mem_singleton.1 h1).symm
/-- 'append(row, texts...)', row the call's own. -/
theorem appT_run (w : World) (t ty : TypeId) (ht : Tryd.prog.underlying t = some (.slice 9)) (base : Nat) (v : Value) (n : Nat) (l1 : List ByteArray) (hown : w.ownsRow base 9 1 v n (sc l1)) (ao : Option Addr) (m c : Nat) (l2 : List ByteArray) (hm : l2.length = m) (hA : RdQ w ao l2) (hlen : n + m ≤ 1048576) (hbase : base ≤ w.heap.size) :
    ∃ v' w', (Builtin.append_ #[t, t] ty #[v, .slice ao m c]).run Tryd.prog w = .ok v' w' ∧ w'.ownsRow base 9 1 v' (n + m) (sc (l1 ++ l2)) ∧ w.grownBy w' v.ownBlock := by
  obtain ⟨i0, hi, hz0, hz1, hz2⟩ := info_parts Tryd.infoQ
  by_cases h0 : m = 0
  · subst h0
    have e : l2 = [] := List.eq_nil_of_length_eq_zero hm
    subst e
    refine ⟨v, w, ?_, by simpa using hown, gnew (Below.refl _ _)⟩
    rcases hown.2 with ⟨rfl, rfl⟩ | ⟨g, cap, cur, rfl, _, _, hnc, _⟩
    · cases ao <;> simp [Builtin.append_, run_underlying ht, sizeOf, typeInfo, hi, Builtin.lenOf, Builtin.firstCells, loadCells, loadCellsFrom]
    · cases ao <;> simp [Builtin.append_, run_underlying ht, sizeOf, typeInfo, hi, Builtin.lenOf, Builtin.firstCells, loadCells, loadCellsFrom, hnc, storeCells]
  · obtain ⟨g, o, rfl, hg, _⟩ := hA 0 (by omega)
    have hAt : ∀ j v, (sc l2)[j]? = some v → w.cell? ((⟨g, o, none⟩ : Addr).add j) = some v := fun j v hj => by
      have hj' : j < l2.length := by have := (List.getElem?_eq_some_iff.1 hj).1; rwa [qc_length] at this
      obtain ⟨b', o', e, _, h⟩ := hA j hj'
      simp only [Option.some.injEq, Addr.mk.injEq, and_true] at e
      obtain ⟨rfl, rfl⟩ := e
      rw [qc_get l2 j hj'] at hj
      rw [Addr.add_lit, ← hj]
      exact h
    obtain ⟨v', w', h1, h2, h3, _⟩ := run_append_own (P := Tryd.prog) w base t ty 9 i0 (.string ⟨#[]⟩) 1 16 ht hi hz0 hz1 hz2 rfl (by decide) v n (sc l1) hown ⟨g, o, none⟩ m c (sc l2) (by rw [qc_length]; omega) hAt (qc_one _) (by unfold maxLen; omega) (by omega) hbase
    exact ⟨v', w', h1, by rw [sc_append]; exact h2, h3⟩
theorem wpList_appT {ops : Array Oper} {rest : List Oper} {o : Oper} {a : Act} {w : World} {Q : Exit → Act → World → Prop} (hgd : o.guard = none) (s x : Operand) (t : TypeId)
    (ho : o.op = .call { callee := .builtin .append, args := #[s, x], argTypes := #[t, t] }) (ht : Tryd.prog.underlying t = some (.slice 9)) (base : Nat) (v : Value) (n : Nat) (l1 : List ByteArray) (hs : a.eval s = v) (hown : w.ownsRow base 9 1 v n (sc l1)) (ao : Option Addr) (m c : Nat) (l2 : List ByteArray) (hx : a.eval x = .slice ao m c) (hm : l2.length = m) (hA : RdQ w ao l2) (hlen : n + m ≤ 1048576) (hbase : base ≤ w.heap.size)
    (h : ∀ v' w', w'.ownsRow base 9 1 v' (n + m) (sc (l1 ++ l2)) → w.grownBy w' v.ownBlock → wpList Tryd.prog ops Q rest (a.put o.dst v') w') : wpList Tryd.prog ops Q (o :: rest) a w := by
  refine wpList_plain hgd fun K hK => ?_
  obtain ⟨v', w', hrun, h1, h2⟩ := appT_run w t o.type ht base v n l1 hown ao m c l2 hm hA hlen hbase
  unfold Oper.wp
  simp only [execOp, ho, resolve, invoke, builtin, Sem.run_bind, Sem.run_pure, Result.andThen_ok, List.map_toArray, List.map_cons, List.map_nil, hs, hx, hrun]
  exact hK _ _ (h v' w' h1 h2)

set_option maxRecDepth 100000 in
theorem lawHasT_any (ao : Option Addr) (l : List ByteArray) (ca : Nat) (k : ByteArray) (w : World) (hl : l.length ≤ 1048576) (hA : RdQ w ao l) :
    Calls Tryd.prog 21 #[.slice ao l.length ca, .string k] w fun e w' => e = .returned (.bool (hasT l k)) ∧ w' = w := by
  have HA := hide1 hA
  clear hA
  go_enter Tryd.func21, Tryd.ntmps21
  go_wp2
  go_loop [5] (fun iv => ∃ i : Nat, i ≤ l.length ∧ iv = .int .i64 (i : Int) ∧ Hid (¬ k ∈ l.take i)) (fun iv => l.length - (intOf iv).toNat)
  case atStart => exact ⟨0, by omega, rfl, by show ¬ k ∈ l.take 0; simp⟩
  case round =>
    obtain ⟨i, hi, rfl, hno⟩ := hrel
    by_cases hlt : i < l.length
    · have k1 : (i : Int) < (l.length : Int) := by omega
      obtain ⟨b, o, rfl, hb, h1⟩ := HA.out i hlt
      obtain ⟨s, hs⟩ : ∃ s, l[i] = s := ⟨_, rfl⟩
      rw [hs] at h1
      have HS := hide1 hs
      clear hs
      by_cases ce : s = k
      · obtain ⟨q, q'⟩ := text_eq ce
        have HM := hide1 (hasT_iff.2 (show k ∈ l by rw [← ce, ← HS.out]; exact List.getElem_mem _))
        clear ce
        go_wp2
        go_ret
        exact ⟨by rw [HM.out]; rfl, rfl⟩
      · obtain ⟨q, q'⟩ := text_ne ce
        have HM := hide1 (mem_take_succT hlt hno.out (fun e => ce (by rw [← HS.out, e])))
        clear ce
        go_wp2
        go_round
        case rel => exact ⟨i + 1, by omega, by go_num, HM⟩
        case measure => simp [intOf]; omega
    · obtain rfl : i = l.length := by omega
      have HM := hide1 (hasT_not (show ¬ k ∈ l by have := hno.out; rwa [List.take_length] at this))
      go_wp2
      go_ret
      exact ⟨by rw [HM.out]; rfl, rfl⟩

set_option maxRecDepth 100000 in
set_option maxHeartbeats 400000 in
theorem sameT_any (a b : Option Addr) (l m : List ByteArray) (ca cb : Nat) (w : World) (hl : l.length ≤ 1048576) (ha : RdQ w a l) (hb : RdQ w b m) :
    Calls Tryd.prog 20 #[.slice a l.length ca, .slice b m.length cb] w fun e w' => ∃ x : Bool, e = .returned (.bool x) ∧ (x = true ↔ l = m) ∧ Below w.heap.size w w' := by
  by_cases c0 : l.length = m.length
  · have q0 : ((l.length : Int) != (m.length : Int)) = false := by simp [c0]
    have HA := hide1 ha
    have HB := hide1 hb
    have C0 := hide1 c0
    clear ha hb c0
    go_enter Tryd.func20, Tryd.ntmps20
    go_wp2
    go_loopw [5] (fun iv wr => ∃ i : Nat, i ≤ l.length ∧ iv = .int .i64 (i : Int) ∧ Hid (∀ j, j < i → l[j]? = m[j]?) ∧ Below w.heap.size w wr) (fun iv _ => l.length - (intOf iv).toNat)
    case atStart => exact ⟨0, by omega, rfl, fun j hj => by omega, Below.refl _ _⟩
    case round =>
      obtain ⟨i, hi, rfl, hsame, hbel⟩ := hrel
      by_cases hlt : i < l.length
      · have hltm : i < m.length := by have := C0.out; omega
        obtain ⟨g, o, rfl, hg, h1⟩ := HA.out i hlt
        obtain ⟨g', o', rfl, hg', h2⟩ := HB.out i hltm
        have x0 := (hbel.cell (p := ⟨g, o + i, none⟩) hg).trans h1
        have y0 := (hbel.cell (p := ⟨g', o' + i, none⟩) hg').trans h2
        clear h1 h2
        have k1 : (i : Int) < (l.length : Int) := by omega
        have k2 : (i : Int) < (m.length : Int) := by omega
        have e1 := hide1 (List.getElem?_eq_getElem hlt)
        have e2 := hide1 (List.getElem?_eq_getElem hltm)
        generalize l[i] = s at *
        generalize m[i] = t at *
        by_cases ce : s = t
        · obtain ⟨q, q'⟩ := text_eq ce
          have CE := hide1 ce
          clear ce
          go_wp2_with fail
          go_quiet (fail)
          go_wp2
          go_roundw
          case rel =>
            refine ⟨i + 1, by omega, by go_num, fun j hj => ?_, below_drewN hbel _⟩
            by_cases hj2 : j < i
            · exact hsame.out j hj2
            · rw [show j = i by omega, e1.out, e2.out, CE.out]
          case measure => simp [intOf]; omega
        · obtain ⟨q, q'⟩ := text_ne ce
          have CE := hide1 ce
          clear ce
          go_wp2_with fail
          go_quiet (fail)
          go_wp2
          go_ret
          refine ⟨false, rfl, ⟨(fun h => by cases h), fun h => ?_⟩, below_drewN hbel _⟩
          rw [h] at e1
          exact absurd (Option.some.inj (e1.out.symm.trans e2.out)) CE.out
      · go_wp2
        go_ret
        refine ⟨true, rfl, ⟨fun _ => ?_, fun _ => rfl⟩, hbel⟩
        refine List.ext_getElem? fun j => ?_
        by_cases hj : j < i
        · exact hsame.out j hj
        · have := C0.out
          rw [List.getElem?_eq_none (by omega), List.getElem?_eq_none (by omega)]
  · have q0 : ((l.length : Int) != (m.length : Int)) = true := by simp; omega
    clear ha hb
    go_enter Tryd.func20, Tryd.ntmps20
    go_wp2
    go_ret
    exact ⟨false, rfl, by simp; intro h; exact c0 (by rw [h]), Below.refl _ _⟩

end Go.Proofs.YtdgpencendphbaaDoor
