/- Rows of texts: comparing, marking, holding, copying and sizing them, by the statements' functions. -/
import Derived.Test.YtpjgplohlchpoaaGreatDoorUAB
import Derived.Test.YtpjgplohlchpoaaGreatDoorUAF
import Derived.Test.YtpjgplohlchpoaaGreatDoorUAE
import Derived.Deep.DeepCutAuto
namespace Go.Proofs.YtpjgplohlchpoaaGreatDoor
open Go.RowKit

theorem qc_length (l : List ByteArray) : (sc l).length = l.length := by simp [sc]
theorem qc_get (l : List ByteArray) (i : Nat) (h : i < l.length) : (sc l)[i]? = some (.string l[i]) := by simp [sc, h]
theorem qc_set (l : List ByteArray) (i : Nat) (s : ByteArray) : sc (l.set i s) = (sc l).set i (.string s) := by simp [sc, List.map_set]
theorem qc_one (l : List ByteArray) : ∀ u ∈ sc l, u.oneCell' = true := by
  intro u hu; obtain ⟨_, _, rfl⟩ := List.mem_map.1 hu; rfl
theorem textEq {a b : ByteArray} (h : a.toList = b.toList) : a = b := by
  rw [ByteArray.toList_eq, ByteArray.toList_eq] at h
  cases a; cases b; simp at h; simp [h]
theorem text_ne {s t : ByteArray} (h : ¬ s = t) : (s.toList != t.toList) = true ∧ (s.toList == t.toList) = false := by
  have : ¬ s.toList = t.toList := fun e => h (textEq e)
  exact ⟨by simpa using this, by simpa using this⟩
theorem text_eq {s t : ByteArray} (h : s = t) : (s.toList != t.toList) = false ∧ (s.toList == t.toList) = true := by simp [h]
/-- A row that reads as these texts. -/
def RdQ (w : World) (a : Option Addr) (l : List ByteArray) : Prop := ∀ i (h : i < l.length), ∃ b o, a = some ⟨b, o, none⟩ ∧ b < w.heap.size ∧ w.cell? ⟨b, o + i, none⟩ = some (.string l[i])
theorem RdQ.later {w w' : World} {a : Option Addr} {l : List ByteArray} (h : RdQ w a l) (hb : Below w.heap.size w w') : RdQ w' a l := by
  intro i hi
  obtain ⟨b, o, ha, hg, hc⟩ := h i hi
  exact ⟨b, o, ha, Nat.lt_of_lt_of_le hg hb.size, (hb.cell (p := ⟨b, o + i, none⟩) hg).trans hc⟩
theorem RdQ.below {w w' : World} {a : Option Addr} {l : List ByteArray} {B : Nat} (h : RdQ w a l) (hb : Below B w w') (hB : ∀ b f, a = some ⟨b, f, none⟩ → l ≠ [] → b < B) : RdQ w' a l := by
  intro i hi
  obtain ⟨b, o, ha, hg, hc⟩ := h i hi
  exact ⟨b, o, ha, Nat.lt_of_lt_of_le hg hb.size, (hb.cell (p := ⟨b, o + i, none⟩) (hB b o ha (fun e => by subst e; simp at hi))).trans hc⟩
theorem RdQ.inB {w : World} {a : Option Addr} {l : List ByteArray} {B : Nat} (h : RdQ w a l) (hB : w.heap.size ≤ B) : ∀ b f, a = some ⟨b, f, none⟩ → l ≠ [] → b < B := by
  intro b f ha hne
  obtain ⟨b', f', ha', hg, _⟩ := h 0 (List.length_pos_iff.2 hne)
  rw [ha] at ha'
  simp at ha'
  omega
theorem RdQ.grown {w w' : World} {a : Option Addr} {l : List ByteArray} {r : Option Nat} (h : RdQ w a l) (hb : w.grownBy w' r) (hne : ∀ b f, a = some ⟨b, f, none⟩ → r ≠ some b) : RdQ w' a l := by
  intro i hi
  obtain ⟨b, o, ha, hg, hc⟩ := h i hi
  exact ⟨b, o, ha, Nat.lt_of_lt_of_le hg hb.size, (World.cell?_of_block (w := w) (hb.block b hg (fun e => hne b o ha e.symm))).trans hc⟩
theorem RdQ.nil (w : World) (a : Option Addr) : RdQ w a [] := fun i hi => by simp at hi
theorem rdQ_of_own {w : World} {base n c : Nat} {e : TypeId} {ao : Option Addr} {l : List ByteArray} (h : w.ownsRow base e 1 (.slice ao n c) n (sc l)) : RdQ w ao l := by
  intro i hi
  have hl : l.length = n := by have := h.1; rw [qc_length] at this; omega
  rcases h.2 with ⟨hv, h0⟩ | ⟨g, cap, cur, hv, _, hh, _⟩
  · omega
  · have hg : (Value.slice ao n c).ownBlock = some g := by rw [hv]; rfl
    simp only [Value.slice.injEq] at hv
    refine ⟨g, 0, hv.1, (Array.getElem?_eq_some_iff.1 hh).1, ?_⟩
    have := h.cells hg i _ (qc_get l i hi)
    rw [Addr.add_lit] at this
    exact this

/-- Marks: texts from k on. -/
def patQ (k n : Nat) : List ByteArray := (List.range n).map fun i => mkT (k + i)
theorem patQ_length (k n : Nat) : (patQ k n).length = n := by simp [patQ]
theorem patQ_get (k n i : Nat) (h : i < n) : (patQ k n)[i]'(by rw [patQ_length]; exact h) = mkT (k + i) := by simp [patQ]
theorem patQ_fill (k n i : Nat) (l : List ByteArray) (hl : l.length = n) (hi : i < n) : ((patQ k n).take i ++ l.drop i).set i (mkT (k + i)) = (patQ k n).take (i + 1) ++ l.drop (i + 1) := by
  have ht : ((patQ k n).take i).length = i := by rw [List.length_take, patQ_length]; omega
  rw [List.set_append_right _ _ (by omega), ht, Nat.sub_self, List.drop_eq_getElem_cons (by omega), List.set_cons_zero, List.take_succ_eq_append_getElem (by rw [patQ_length]; exact hi), patQ_get k n i hi, List.append_assoc]
  rfl

theorem Tryz.infoQ : (Tryz.prog.info? 9).map (fun i => (i.zero, i.size, i.bytes)) = some (some (.string ⟨#[]⟩), 1, 16) := by kernel_rfl
theorem madeQ : ∀ n : Nat, (madeCells (Value.string ⟨#[]⟩).cells (n * 1)).toList = sc (List.replicate n ⟨#[]⟩) := by
  intro n
  refine List.ext_getElem? fun j => ?_
  by_cases hj : j < n
  · rw [qc_get _ j (by simpa using hj)]
    simp only [madeCells, Array.getElem?_toList]
    rw [Array.getElem?_map, Array.getElem?_range, if_pos (by omega)]
    simp only [Option.map_some, List.getElem_replicate]
    have : j % 1 = 0 := by omega
    show some ((#[Value.string ⟨#[]⟩] : Array Value)[j % 1]!) = _
    rw [this]; rfl
  · rw [List.getElem?_eq_none (by simp [madeCells]; omega), List.getElem?_eq_none (by rw [qc_length]; simp; omega)]
theorem fill_setQ (l : List ByteArray) (z s : ByteArray) (i : Nat) (hi : i < l.length) (hs : l[i] = s) : (l.take i ++ List.replicate (l.length - i) z).set i s = l.take (i + 1) ++ List.replicate (l.length - (i + 1)) z := by
  have hl : (l.take i).length = i := by simp; omega
  rw [List.set_append_right _ _ (by omega), hl, Nat.sub_self, show l.length - i = (l.length - (i + 1)) + 1 by omega, List.replicate_succ, List.set_cons_zero, List.take_succ_eq_append_getElem hi, hs, List.append_assoc]
  rfl

end Go.Proofs.YtpjgplohlchpoaaGreatDoor
namespace Go.Proofs.YtpjgplohlchpoaaGreatDoor
open Go.RowKit
set_option linter.unusedVariables false

theorem in_yesI {x lo hi : Int} (h : lo ≤ x ∧ x ≤ hi) : (decide (lo ≤ x) && decide (x ≤ hi)) = true := by rw [Bool.and_eq_true, decide_eq_true_iff, decide_eq_true_iff]; exact h
theorem in_noI {x lo hi : Int} (h : ¬ (lo ≤ x ∧ x ≤ hi)) : (decide (lo ≤ x) && decide (x ≤ hi)) = false := by rw [Bool.and_eq_false_iff, decide_eq_false_iff_not, decide_eq_false_iff_not]; omega
theorem in_anyR (x lo hi : Int) (w : World) : Calls Tryz.prog 23 #[.int .i64 x, .int .i64 lo, .int .i64 hi] w fun e w' => e = .returned (.bool (decide (lo ≤ x) && decide (x ≤ hi))) ∧ w' = w := (in_any x lo hi w).mono (fun e w' h => ⟨h.1, h.2.symm⟩)
theorem okIms_no {l : List Im} {i : Nat} (hi : i < l.length) (h : ¬ okIm l[i]) : decide (okIms l) = false := decide_eq_false (fun e => h (e.1 _ (List.getElem_mem hi)))
theorem okIms_no2 {l : List Im} {i m : Nat} (hi : i < l.length) (hm : m < l.length) (e : m + 1 = i) (h : tLt l[m].k l[i].k = false) : decide (okIms l) = false := decide_eq_false (fun e2 => by
  have := (stepI_of e2.1 e2.2.1 l.length i hi hi).2 m hm e
  rw [h] at this
  cases this)
theorem okIms_end {l : List Im} (h : stepI l l.length) : decide ((l.length : Int) ≤ 12) = decide (okIms l) := by
  by_cases c : l.length ≤ 12
  · rw [decide_eq_true (show (l.length : Int) ≤ 12 by omega), decide_eq_true (show okIms l from ⟨stepI_all h, stepI_asc h, c⟩)]
  · rw [decide_eq_false (show ¬ (l.length : Int) ≤ 12 by omega), decide_eq_false (fun e : okIms l => c e.2.2)]
set_option maxRecDepth 100000 in
set_option maxHeartbeats 8000000 in
theorem specItemsOk_any (a : Option Addr) (l : List Im) (ca : Nat) (w : World) (hl : l.length ≤ 4194304) (hA : RdG imC 3 w a l) :
    Calls Tryz.prog 46 #[.slice a l.length ca] w fun e w' => e = .returned (.bool (decide (okIms l))) ∧ Below w.heap.size w w' := by
  have HA := hide1 hA
  clear hA
  go_enter Tryz.func46, Tryz.ntmps46
  go_wp2
  go_loopw [3] (fun iv wr => ∃ i : Nat, i ≤ l.length ∧ iv = .int .i64 (i : Int) ∧ Hid (stepI l i) ∧ Hid (Below w.heap.size w wr)) (fun iv _ => l.length - (intOf iv).toNat)
  case atStart => exact ⟨0, Nat.zero_le _, rfl, hide1 (fun j _ h => by omega), hide1 (Below.refl _ _)⟩
  case round =>
    obtain ⟨i, hi, rfl, HS, BB⟩ := hrel
    by_cases hlt : i < l.length
    · have k1 : (i : Int) < (l.length : Int) := by omega
      obtain ⟨b, o, hab, hb, hc⟩ := HA.out i hlt
      have x0 : wr.cell? ⟨b, o + i * 3, none⟩ = some (.string l[i].k) := (BB.out.cell (p := ⟨b, o + i * 3, none⟩) hb).trans (hc 0 (by omega))
      have x1 : wr.cell? ⟨b, o + i * 3 + 1, none⟩ = some (.string l[i].v) := (BB.out.cell (p := ⟨b, o + i * 3 + 1, none⟩) hb).trans (hc 1 (by omega))
      have x2 : wr.cell? ⟨b, o + i * 3 + 2, none⟩ = some (.int .i64 l[i].n) := (BB.out.cell (p := ⟨b, o + i * 3 + 2, none⟩) hb).trans (hc 2 (by omega))
      have NO := hide1 (fun h => okIms_no hlt h)
      have YES := hide1 (fun h1 h2 => stepI_next HS.out hlt h1 h2)
      have PR := hide1 (fun m (hm : m < l.length) (e : m + 1 = i) => And.intro (fun h => okIms_no2 hlt hm e h) (show w.cell? ⟨b, o + m * 3, none⟩ = some (.string l[m].k) by obtain ⟨b', o', e', _, hc'⟩ := HA.out m hm; rw [hab] at e'; injection e' with e'; injection e' with e1 e2; subst e1; subst e2; exact hc' 0 (by omega)))
      unfold okIm at NO YES
      generalize l[i].k = ky at *
      generalize l[i].v = vy at *
      generalize l[i].n = ny at *
      subst hab
      have lb : b < wr.heap.size := Nat.lt_of_lt_of_le hb BB.out.size
      clear hc
      have FB := hide1 (And.intro (Blk.new wr 34 #[.string ky, .string vy, .int .i64 ny]) ((Below.refl wr.heap.size wr).alloc (Nat.le_refl _) (.cells #[.string ky, .string vy, .int .i64 ny] 34)))
      go_upto_region 5 with fail
      generalize (wr.alloc (.cells #[.string ky, .string vy, .int .i64 ny] 34)) = u at FB ⊢
      obtain ⟨X, hX⟩ : ∃ X, X = wr.heap.size := ⟨_, rfl⟩
      have KX := hide1 FB.out.1
      rw [← hX] at KX ⊢
      have BU := hide1 (BB.out.trans (FB.out.2.mono BB.out.size))
      have y0 : u.cell? ⟨X, 0, none⟩ = some (.string ky) := KX.out.cell 0
      have y1 : u.cell? ⟨X, 1, none⟩ = some (.string vy) := KX.out.cell 1
      have y2 : u.cell? ⟨X, 2, none⟩ = some (.int .i64 ny) := KX.out.cell 2
      have C1 := hide1 (fun w' => in_anyR (ky.size : Int) 1 12 w')
      have C2 := hide1 (fun w' => in_anyR ny 1 1000000000 w')
      clear x0 x1 x2 hX FB
      by_cases c1 : 1 ≤ ky.size ∧ ky.size ≤ 12
      · rw [in_yesI (show (1 : Int) ≤ (ky.size : Int) ∧ (ky.size : Int) ≤ 12 by omega)] at C1
        by_cases c2 : vy.size ≤ 20
        · have q2 : decide ((20 : Int) < (vy.size : Int)) = false := decide_eq_false (by omega)
          by_cases c3 : 1 ≤ ny ∧ ny ≤ 1000000000
          · rw [in_yesI c3] at C2
            by_cases c4 : 0 < i
            · have q4 : decide ((0 : Int) < (i : Int)) = true := decide_eq_true (by omega)
              obtain ⟨m, hm⟩ : ∃ m, m + 1 = i := ⟨i - 1, by omega⟩
              have hml : m < l.length := by omega
              obtain ⟨P1, P2⟩ := PR.out m hml hm
              have p0 : u.cell? ⟨b, o + m * 3, none⟩ = some (.string l[m].k) := (BU.out.cell (p := ⟨b, o + m * 3, none⟩) hb).trans P2
              have YS := hide1 (fun (h : tLt l[m].k ky = true) => YES.out ⟨c1, c2, c3⟩ (fun m' hm' e' => by have : m' = m := (by omega); subst this; exact h))
              have P1h := hide1 P1
              have hsub : IntKind.i64.wrap ((i : Int) - 1) = (m : Int) := by rw [show (i : Int) - 1 = (m : Int) by omega]; exact IntWalk.i64_in _ ⟨by omega, by omega⟩
              have hsub2 : (i : Int) - 1 = (m : Int) := by omega
              have hm0 : (m : Int) < (l.length : Int) := by omega
              generalize l[m].k = pk at *
              clear P1 P2 PR NO YES
              cases ct : tLt pk ky with
              | true =>
                have qt : Op.bytesLess pk.toList ky.toList = true := ct
                have CT := hide1 ct
                clear ct
                go_quiet ((go_at_call 23; first | (with_reducible exact Calls.quiet_of_same (C1.out _)) | (with_reducible exact Calls.quiet_of_same (C2.out _))))
                go_wp2
                go_roundw
                case rel => exact ⟨i + 1, by omega, by go_num, hide1 (YS.out CT.out), hide1 (below_drewN BU.out _)⟩
                case measure => simp [intOf]; omega
              | false =>
                have qt : Op.bytesLess pk.toList ky.toList = false := ct
                have RES := hide1 (P1h.out ct)
                clear ct P1h YS
                go_quiet ((go_at_call 23; first | (with_reducible exact Calls.quiet_of_same (C1.out _)) | (with_reducible exact Calls.quiet_of_same (C2.out _))))
                go_wp2
                go_ret
                exact ⟨by rw [RES.out]; rfl, below_drewN BU.out _⟩
            · have q4 : decide ((0 : Int) < (i : Int)) = false := decide_eq_false (by omega)
              have q5 : ¬ ((0 : Int) < (i : Int)) := by omega
              have YS := hide1 (YES.out ⟨c1, c2, c3⟩ (fun m' hm' e' => by omega))
              clear PR NO YES
              go_quiet ((go_at_call 23; first | (with_reducible exact Calls.quiet_of_same (C1.out _)) | (with_reducible exact Calls.quiet_of_same (C2.out _))))
              go_wp2
              go_roundw
              case rel => exact ⟨i + 1, by omega, by go_num, YS, hide1 (below_drewN BU.out _)⟩
              case measure => simp [intOf]; omega
          · rw [in_noI c3] at C2
            have RES := hide1 (NO.out (fun h => c3 h.2.2))
            clear PR NO YES
            go_quiet ((go_at_call 23; first | (with_reducible exact Calls.quiet_of_same (C1.out _)) | (with_reducible exact Calls.quiet_of_same (C2.out _))))
            go_wp2
            go_ret
            exact ⟨by rw [RES.out]; rfl, below_drewN BU.out _⟩
        · have q2 : decide ((20 : Int) < (vy.size : Int)) = true := decide_eq_true (by omega)
          have RES := hide1 (NO.out (fun h => c2 h.2.1))
          clear PR NO YES
          go_quiet ((go_at_call 23; first | (with_reducible exact Calls.quiet_of_same (C1.out _)) | (with_reducible exact Calls.quiet_of_same (C2.out _))))
          go_wp2
          go_ret
          exact ⟨by rw [RES.out]; rfl, below_drewN BU.out _⟩
      · rw [in_noI (show ¬ ((1 : Int) ≤ (ky.size : Int) ∧ (ky.size : Int) ≤ 12) by omega)] at C1
        have RES := hide1 (NO.out (fun h => c1 h.1))
        clear PR NO YES
        go_quiet ((go_at_call 23; first | (with_reducible exact Calls.quiet_of_same (C1.out _)) | (with_reducible exact Calls.quiet_of_same (C2.out _))))
        go_wp2
        go_ret
        exact ⟨by rw [RES.out]; rfl, below_drewN BU.out _⟩
    · obtain rfl : i = l.length := by omega
      have k1 : ¬ ((l.length : Int) < (l.length : Int)) := by omega
      go_wp2
      go_ret
      exact ⟨by rw [← okIms_end HS.out]; rfl, BB.out⟩
end Go.Proofs.YtpjgplohlchpoaaGreatDoor
namespace Go.Proofs.YtpjgplohlchpoaaGreatDoor
open Go.RowKit
set_option linter.unusedVariables false

theorem wpList_cpE {P : Program} {α : Type} {enc : α → List Value} {k : Nat} {t e : TypeId} {ops : Array Oper} {rest : List Oper} {o : Oper} {a : Act} {w : World} {Q : Exit → Act → World → Prop} (E : EncK enc k) (R : RowK P t e k) (hgd : o.guard = none) (s x : Operand)
    (ho : o.op = .call { callee := .builtin .append, args := #[s, x], argTypes := #[t, t] }) (g : Nat) (hs : a.eval s = .slice (some ⟨g, 0, none⟩) 0 0) (ao : Option Addr) (m c : Nat) (l : List α) (hx : a.eval x = .slice ao m c) (hm : l.length = m) (hA : RdG enc k w ao l) (hlen : m ≤ 1048576)
    (h : ∀ b' c' w', RdG enc k w' b' l → Below w.heap.size w w' → (∀ b o, b' = some ⟨b, o, none⟩ → 0 < m → w.heap.size ≤ b) → m ≤ c' → wpList P ops Q rest (a.put o.dst (.slice b' m c')) w') : wpList P ops Q (o :: rest) a w := by
  refine wpList_plain hgd fun K hK => ?_
  obtain ⟨b', c', w', hrun, h1, h2, h3, h4⟩ := cpE_run E R w o.type g ao m c l hm hA hlen
  unfold Oper.wp
  simp only [execOp, ho, resolve, invoke, builtin, Sem.run_bind, Sem.run_pure, Result.andThen_ok, List.map_toArray, List.map_cons, List.map_nil, hs, hx, hrun]
  exact hK _ _ (h b' c' w' h1 h2 h3 h4)
theorem RdG.ltI {α : Type} {enc : α → List Value} {k : Nat} {w : World} {a : Option Addr} {l : List α} (h : RdG enc k w a l) {b o : Nat} (ha : a = some ⟨b, o, none⟩) (hl : 0 < l.length) : b < w.heap.size := by
  obtain ⟨b', o', e, hg, _⟩ := h 0 hl
  rw [ha] at e
  injection e with e
  injection e with e1 e2
  omega
theorem RdG.laterI {α : Type} {enc : α → List Value} {k B : Nat} {w w' : World} {a : Option Addr} {l : List α} (h : RdG enc k w a l) (hb : Below B w w') (hB : ∀ b o, a = some ⟨b, o, none⟩ → 0 < l.length → b < B) : RdG enc k w' a l := by
  intro i hi
  obtain ⟨b, o, ha, hg, hc⟩ := h i hi
  refine ⟨b, o, ha, Nat.lt_of_lt_of_le hg hb.size, fun j hj => ?_⟩
  rw [← hc j hj]
  exact World.cell?_of_block (hb.block b (hB b o ha (by omega)))
end Go.Proofs.YtpjgplohlchpoaaGreatDoor
namespace Go.Proofs.YtpjgplohlchpoaaGreatDoor
open Go.RowKit
set_option linter.unusedVariables false

theorem imOf_at {l : List Im} {k : ByteArray} {i : Nat} (hi : i < l.length) (h1 : ∀ j (h : j < l.length), j < i → ¬ l[j].k = k) (h2 : l[i].k = k) : imOf l k = l[i] := by
  unfold imOf
  have : l.find? (fun y => decide (y.k = k)) = some l[i] := by
    rw [List.find?_eq_some_iff_getElem]
    exact ⟨by simpa using h2, i, hi, rfl, fun j hj => by simpa using h1 j (by omega) hj⟩
  rw [this]
  rfl
theorem imOf_nil {l : List Im} {k : ByteArray} (h1 : ∀ j (h : j < l.length), j < l.length → ¬ l[j].k = k) : imOf l k = zeroIm := imOf_none (fun y hy e => by
  obtain ⟨j, hj, rfl⟩ := List.getElem_of_mem hy
  exact h1 j hj hj e)
theorem filt_next {p : Im → Bool} {l : List Im} {i : Nat} (hi : i < l.length) : (l.take (i + 1)).filter p = (l.take i).filter p ++ (if p l[i] = true then [l[i]] else []) := by
  rw [List.take_succ_eq_append_getElem hi, List.filter_append, List.filter_cons]
  rfl
/-- None of the first i is as new. -/
def oldTo (l : List Im) (x : Im) (i : Nat) : Prop := ∀ j (h : j < l.length), j < i → ¬ (l[j].k = x.k ∧ x.n ≤ l[j].n)
theorem oldTo_all {l : List Im} {x : Im} (h : oldTo l x l.length) : newI l x = false := by
  cases e : newI l x with
  | false => rfl
  | true =>
    obtain ⟨y, hy, h2⟩ := newI_of e
    obtain ⟨j, hj, rfl⟩ := List.getElem_of_mem hy
    exact absurd h2 (h j hj hj)
theorem newI_at {l : List Im} {x : Im} {i : Nat} (hi : i < l.length) (h : l[i].k = x.k ∧ x.n ≤ l[i].n) : newI l x = true := by
  unfold newI
  rw [List.any_eq_true]
  exact ⟨l[i], List.getElem_mem hi, by rw [decide_eq_true h.1, decide_eq_true h.2]; rfl⟩
theorem oldTo_next {l : List Im} {x : Im} {i : Nat} (h : oldTo l x i) (hi : i < l.length) (h2 : ¬ (l[i].k = x.k ∧ x.n ≤ l[i].n)) : oldTo l x (i + 1) := fun j hj hlt => by
  by_cases c : j < i
  · exact h j hj c
  · have : j = i := (by omega)
    subst this
    exact h2
theorem put_new {l : List Im} {x : Im} (h : newI l x = true) : putI l x = l := by unfold putI; rw [if_pos h]
theorem put_bad {l : List Im} {x : Im} (h : ¬ (okIms l ∧ okIms (insI l x))) : putI l x = l := by unfold putI; rw [if_neg h]; split <;> rfl
theorem put_ok {l : List Im} {x : Im} (h0 : newI l x = false) (h : okIms l ∧ okIms (insI l x)) : putI l x = insI l x := by unfold putI; rw [if_neg (by rw [h0]; simp), if_pos h]
end Go.Proofs.YtpjgplohlchpoaaGreatDoor
namespace Go.Proofs.YtpjgplohlchpoaaGreatDoor
open Go.RowKit
set_option linter.unusedVariables false

structure Ms where
  k : Int
  f : Int
  o : Int
  e : Int
  n : Int
  is : List Im
/-- How many items a message of a kind may have. -/
def manyOk (k : Int) (c : Nat) : Prop := if k = 2 ∨ k = 3 then True else if k = 5 then c = 1 else c = 0
instance (k : Int) (c : Nat) : Decidable (manyOk k c) := by unfold manyOk; split; infer_instance; split <;> infer_instance
def okMs (m : Ms) : Prop := (1 ≤ m.k ∧ m.k ≤ 8) ∧ (1 ≤ m.f ∧ m.f ≤ 6) ∧ (1 ≤ m.o ∧ m.o ≤ 6) ∧ (1 ≤ m.e ∧ m.e ≤ 9) ∧ (0 ≤ m.n ∧ m.n ≤ 1000000000) ∧ okIms m.is ∧ manyOk m.k m.is.length
instance (m : Ms) : Decidable (okMs m) := by unfold okMs; infer_instance
end Go.Proofs.YtpjgplohlchpoaaGreatDoor
