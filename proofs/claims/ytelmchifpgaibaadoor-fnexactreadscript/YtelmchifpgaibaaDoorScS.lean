/- The model's ReadScript. -/
import Derived.Test.YtelmchifpgaibaaDoorScE
import Derived.Test.YtelmchifpgaibaaDoorScR
import Derived.Test.YtelmchifpgaibaaDoorEvS
namespace Go.Proofs.YtelmchifpgaibaaDoor
open Go.RowKit
set_option linter.unusedVariables false

/-- What the model has read, in memory of its own. -/
structure ScB (S : Nat) (w : World) (a : Sca) (st : Sc) : Prop where
  hS : S ≤ w.heap.size
  vs : OwnVs w S a.va a.vc a.M
  ml : a.M.map (·.l) = st.vs
  es : w.ownsRow S 40 6 (.slice a.ea st.es.length a.ec) st.es.length (rowG evC st.es)
  ne : ∀ g, (Value.slice a.ea st.es.length a.ec).ownBlock = some g → (Value.slice a.va a.M.length a.vc).ownBlock ≠ some g ∧ ∀ x ∈ a.M, (Value.slice x.a x.l.length x.c).ownBlock ≠ some g
theorem ScB.later {S : Nat} {w w' : World} {a : Sca} {st : Sc} (h : ScB S w a st) (hb : Below w.heap.size w w') : ScB S w' a st := ⟨Nat.le_trans h.hS hb.size, h.vs.later hb, h.ml, own_kept h.es hb, h.ne⟩
theorem ScB.nv {S : Nat} {w : World} {a : Sca} {st : Sc} (h : ScB S w a st) : a.M.length = st.vs.length := by rw [← h.ml, List.length_map]
theorem ScB.event {S : Nat} {w w5 : World} {a : Sca} {st : Sc} {x : Ev} (h : ScB S w a st) {b : Option Addr} {c : Nat} (ho : w5.ownsRow S 40 6 (.slice b (st.es.length + 1) c) (st.es.length + 1) (rowG evC (st.es ++ [x])))
    (hg : w.grownBy w5 (Value.slice a.ea st.es.length a.ec).ownBlock) (hl : ∀ q, b = some q → (Value.slice a.ea st.es.length a.ec).ownBlock = some q.block ∨ w.heap.size ≤ q.block) :
    ScB S w5 ⟨a.va, a.vc, b, c, a.M⟩ ⟨st.vs, st.es ++ [x]⟩ ∧ Below S w w5 := by
  have e1 : (st.es ++ [x]).length = st.es.length + 1 := by simp
  have hnew : ∀ g, (Value.slice b (st.es.length + 1) c).ownBlock = some g → (Value.slice a.ea st.es.length a.ec).ownBlock = some g ∨ w.heap.size ≤ g := fun g hg2 => by
    obtain ⟨q, hq, rfl⟩ := own_blkEq ho hg2
    exact hl q hq
  refine ⟨⟨Nat.le_trans h.hS hg.size, ⟨gown hg h.vs.o (fun g e1 e2 => (h.ne g e2).1 e1), fun y hy => gown hg (h.vs.r y hy) (fun g e1 e2 => (h.ne g e2).2 y hy e1), h.vs.d, h.vs.n⟩, h.ml, by rw [e1]; exact ho, fun g hg2 => ?_⟩, gbelow hg (fun g hg => (h.es.lt g hg).1) h.hS⟩
  rw [e1] at hg2
  rcases hnew g hg2 with h1 | h1
  · exact h.ne g h1
  · exact ⟨fun e => by have := (h.vs.o.lt g e).2; omega, fun y hy e => by have := ((h.vs.r y hy).lt g e).2; omega⟩
theorem ScB.view {S : Nat} {w w5 : World} {a : Sca} {st : Sc} {x : Vw} (h : ScB S w a st) (hx : OwnK w S x.a x.c x.l) (hxn : ∀ g, (Value.slice x.a x.l.length x.c).ownBlock = some g → (Value.slice a.va a.M.length a.vc).ownBlock ≠ some g ∧ (Value.slice a.ea st.es.length a.ec).ownBlock ≠ some g ∧ ∀ y ∈ a.M, (Value.slice y.a y.l.length y.c).ownBlock ≠ some g)
    {b : Option Addr} {c : Nat} (ho : w5.ownsRow S 35 1 (.slice b (a.M.length + 1) c) (a.M.length + 1) (rowG vwC (a.M ++ [x])))
    (hg : w.grownBy w5 (Value.slice a.va a.M.length a.vc).ownBlock) (hl : ∀ q, b = some q → (Value.slice a.va a.M.length a.vc).ownBlock = some q.block ∨ w.heap.size ≤ q.block) :
    ScB S w5 ⟨b, c, a.ea, a.ec, a.M ++ [x]⟩ ⟨st.vs ++ [x.l], st.es⟩ ∧ Below S w w5 := by
  have e1 : (a.M ++ [x]).length = a.M.length + 1 := by simp
  have hnew : ∀ g, (Value.slice b (a.M.length + 1) c).ownBlock = some g → (Value.slice a.va a.M.length a.vc).ownBlock = some g ∨ w.heap.size ≤ g := fun g hg2 => by
    obtain ⟨q, hq, rfl⟩ := own_blkEq ho hg2
    exact hl q hq
  have mem : ∀ y ∈ a.M ++ [x], y ∈ a.M ∨ y = x := fun y hy => by
    rcases List.mem_append.1 hy with h | h
    · exact .inl h
    · exact .inr (List.mem_singleton.1 h)
  have RY : ∀ y ∈ a.M ++ [x], OwnK w S y.a y.c y.l := fun y hy => by rcases mem y hy with h1 | h1; exact h.vs.r y h1; rw [h1]; exact hx
  have NY : ∀ y ∈ a.M ++ [x], ∀ g, (Value.slice a.va a.M.length a.vc).ownBlock = some g → (Value.slice y.a y.l.length y.c).ownBlock ≠ some g := fun y hy g e1 e2 => by
    rcases mem y hy with h1 | h1
    · exact h.vs.n y h1 g e1 e2
    · rw [h1] at e2; exact (hxn g e2).1 e1
  refine ⟨⟨Nat.le_trans h.hS hg.size, ⟨by dsimp only; rw [e1]; exact ho, fun y hy => gown hg (RY y hy) (fun g e1 e2 => NY y hy g e2 e1), ?_, fun y hy g hg2 => ?_⟩, ?_, gown hg h.es (fun g e1 e2 => (h.ne g e1).1 e2), fun g hg2 => ?_⟩, gbelow hg (fun g hg => (h.vs.o.lt g hg).1) h.hS⟩
  · dsimp only
    rw [List.pairwise_append]
    refine ⟨h.vs.d, List.pairwise_singleton _ _, fun y hy z hz => ?_⟩
    rw [List.mem_singleton.1 hz]
    intro g e1 e2
    exact (hxn g e2).2.2 y hy e1
  · dsimp only at hg2 ⊢
    rw [e1] at hg2
    rcases hnew g hg2 with h1 | h1
    · exact NY y hy g h1
    · intro e; have := ((RY y hy).lt g e).2; omega
  · dsimp only; rw [List.map_append, h.ml]; rfl
  · dsimp only at hg2 ⊢
    rw [e1]
    refine ⟨fun e => ?_, fun y hy e => ?_⟩
    · rcases hnew g e with h1 | h1
      · exact (h.ne g hg2).1 h1
      · have := (h.es.lt g hg2).2; omega
    · rcases mem y hy with h1 | h1
      · exact (h.ne g hg2).2 y h1 e
      · rw [h1] at e; exact (hxn g e).2.1 hg2
theorem pS_pos (s : ByteArray) : ∀ i, i ≤ s.size + 1 → ∀ x ∈ (pS s i).2, 1 ≤ x.size
  | 0, _ => fun x hx => by simp [pS] at hx
  | i + 1, hi => fun x hx => by
    rw [pS] at hx
    split at hx
    · exact pS_pos s i (by omega) x hx
    · dsimp only at hx
      split at hx
      · rename_i hlt
        rcases List.mem_append.1 hx with h | h
        · exact pS_pos s i (by omega) x h
        · rw [List.mem_singleton.1 h, ByteArray.size_extract]; omega
      · exact pS_pos s i (by omega) x hx
theorem partsL_pos (s : ByteArray) : ∀ x ∈ partsL s, 1 ≤ x.size := by
  intro x hx
  unfold partsL at hx
  split at hx
  · exact pS_pos s _ (Nat.le_refl _) x hx
  · simp at hx
theorem wp_genW {P : Program} {c : Code} {K : Exit → Act → World → Prop} {a : Act} {w : World} (W : World) (h : W = w) (k : Code.wp P c K a W) : Code.wp P c K a w := h ▸ k
theorem evOf_view {q : List ByteArray} (h : q.length ≠ 1) : evOf (wView :: q) = none := by
  have h1 : ¬ wView = wGet := by decide
  have h2 : ¬ wView = wPut := by decide
  rcases q with _ | ⟨t0, _ | ⟨t1, _ | ⟨t2, _ | ⟨t3, q⟩⟩⟩⟩
  · rfl
  · exact absurd rfl h
  · simp [evOf, h1]
  · simp [evOf, h2]
  · rfl
/-- What the model's answer says of memory. -/
def AnsS (w : World) (A : Sc × Int) (e : Ending) (w' : World) : Prop :=
  (∃ a : Sca, e = .returned (.tuple #[.slice a.va a.M.length a.vc, .slice a.ea A.1.es.length a.ec, .int .i64 A.2]) ∧ a.M.map (·.l) = A.1.vs ∧ RdVs w' a.va a.M ∧ RdG evC 6 w' a.ea A.1.es) ∧ Below w.heap.size w w'
theorem ansS_no {w w' : World} {A : Sc × Int} (h1 : A.1 = ⟨[], []⟩) {f : Int} (h2 : A.2 = f) (q g : Option Addr) (hb : Below w.heap.size w w') : AnsS w A (.returned (.tuple #[.slice q 0 0, .slice g 0 0, .int .i64 f])) w' := by
  obtain ⟨A1, A2⟩ := A
  dsimp only at h1 h2
  subst h1 h2
  exact ⟨⟨⟨q, 0, g, 0, []⟩, rfl, rfl, ⟨fun i h => absurd h (by simp), fun x hx => by simp at hx, fun x hx => by simp at hx⟩, fun i h => absurd h (by simp)⟩, hb⟩

set_option maxRecDepth 100000 in
set_option maxHeartbeats 16000000 in
theorem specReadScript_any (s : ByteArray) (w : World) (hs : s.size ≤ 1048576) :
    Calls Tryd.prog 4 #[.string s] w fun e w' => AnsS w (scrS s) e w' := by
  have B0 := hide1 ((Below.refl w.heap.size w).alloc (Nat.le_refl _) (.cells #[] 40))
  by_cases c1 : 4000 < s.size
  · have k1 : (4000 : Int) < (s.size : Int) := by omega
    have RES := hide1 (scrS_big (s := s) (.inl c1))
    clear c1
    go_enter Tryd.func4, Tryd.ntmps4
    go_wp2
    refine bodyPost_ret (results_tmp3 Tryd.results4 _ _ _) rfl ?_
    rw [RES.out]
    exact ansS_no rfl rfl _ _ (B0.out.alloc (by rw [World.size_alloc]; omega) _)
  · have k1 : ¬ ((4000 : Int) < (s.size : Int)) := by omega
    have s4 : s.size ≤ 4000 := by omega
    have CL := hide1 (fun w' => specLines_any s w' s4)
    have LS := hide1 (linesL_size s)
    have LN := hide1 (linesL_le s)
    have BIG := hide1 (fun h => scrS_big (s := s) (.inr h))
    have ANS := hide1 (fun (h : ¬ 100 < (linesL s).length) => scrS_ans (s := s) (by omega))
    have STT := hide1 (fun (h : ¬ 100 < (linesL s).length) h0 => scrS_st (s := s) (by omega) h0)
    have NON := hide1 (scrS_none (s := s))
    clear c1
    generalize scrS s = A at *
    generalize linesL s = L at *
    obtain ⟨R, hR⟩ : ∃ R, R = scan L 0 ⟨[], []⟩ := ⟨_, rfl⟩
    rw [← hR] at ANS STT
    have HR := hide1 hR
    clear hR
    obtain ⟨n, hn⟩ : ∃ n, n = L.length := ⟨_, rfl⟩
    have HN := hide1 hn
    rw [← hn] at CL BIG ANS STT
    have nle : n ≤ 4000 := by have := LN.out; omega
    clear hn LN
    go_enter Tryd.func4, Tryd.ntmps4
    go_upto_region 2 with fail
    obtain ⟨N0, hN0⟩ : ∃ N0, N0 = w.heap.size := ⟨_, rfl⟩
    generalize (w.alloc (.cells #[] 40)) = u at B0 ⊢
    have su : w.heap.size ≤ u.heap.size := B0.out.size
    rw [← hN0]
    have HN0 := hide1 hN0
    clear hN0
    go_wp2_with fail
    refine (CL.out _).mono ?_
    rintro e w0 ⟨v0, rfl, hv0, hb0⟩
    obtain ⟨a0, c0, rfl⟩ := own_slice hv0
    have B1 := hide1 (B0.out.trans (hb0.mono su))
    have s0 : w.heap.size ≤ w0.heap.size := B1.out.size
    clear hv0 hb0
    by_cases c2 : 100 < n
    · have k2 : (100 : Int) < (n : Int) := by omega
      have RES := hide1 (BIG.out c2)
      clear c2 ANS STT BIG
      go_wp2
      refine bodyPost_ret (results_tmp3 Tryd.results4 _ _ _) rfl ?_
      rw [RES.out]
      exact ansS_no rfl rfl _ _ (B1.out.alloc s0 _)
    · have k2 : ¬ ((100 : Int) < (n : Int)) := by omega
      have AN := hide1 (ANS.out c2)
      have ST := hide1 (fun h0 => STT.out c2 h0)
      clear ANS STT BIG c2
      go_wp2_with fail
      refine (CL.out _).mono ?_
      rintro e w1 ⟨v1, rfl, hv1, hb1⟩
      obtain ⟨ap, cp, rfl⟩ := own_slice hv1
      have B2 := hide1 (B1.out.trans (hb1.mono s0))
      have RQ := hide1 (rdQ_of_own hv1)
      obtain ⟨S, hS⟩ : ∃ S, S = w1.heap.size := ⟨_, rfl⟩
      have leS : w.heap.size ≤ S := by rw [hS]; exact B2.out.size
      have RL := hide1 (show ∀ q o, ap = some ⟨q, o, none⟩ → 0 < n → q < S from fun q o e hn0 => by
        have := (hv1.lt q (by rw [e]; first | rfl | (rcases hv1.2 with ⟨h, _⟩ | ⟨g, cap, cur, h, _⟩ <;> (injection h with h1 h2 h3; rw [e] at h1; first | cases h1 | (injection h1 with h1; injection h1 with h1 h4; subst h4; rfl))))).2
        omega)
      have BW := hide1 (((Below.refl w1.heap.size w1).alloc (Nat.le_refl _) (.cells #[] 35)).alloc (by rw [World.size_alloc]; omega) (.cells #[] 40))
      have s3 : (w1.alloc (.cells #[] 35)).heap.size = w1.heap.size + 1 := World.size_alloc _ _
      have AB := hide1 (show ScB S ((w1.alloc (.cells #[] 35)).alloc (.cells #[] 40)) ⟨some ⟨w1.heap.size, 0, none⟩, 0, some ⟨w1.heap.size + 1, 0, none⟩, 0, []⟩ ⟨[], []⟩ from by
        have O2 := owns_emptyX (w1.alloc (.cells #[] 35)) 40 6
        rw [s3] at O2
        refine ⟨by rw [hS]; exact BW.out.size, ⟨own_base ((owns_emptyX w1 35 1).alloc _) (by omega), fun x hx => by simp at hx, List.Pairwise.nil, fun x hx => by simp at hx⟩, rfl, own_base O2 (by omega), fun g hg => ⟨fun e => ?_, fun x hx => by simp at hx⟩⟩
        have e1 : w1.heap.size + 1 = g := by injection hg
        have e2 : w1.heap.size = g := by injection e
        omega)
      clear hv1 hb1 CL
      go_upto_region 7 with fail
      generalize ((w1.alloc (.cells #[] 35)).alloc (.cells #[] 40)) = w2 at AB BW ⊢
      generalize (some ⟨w1.heap.size, 0, none⟩ : Option Addr) = va0 at AB ⊢
      generalize (some ⟨w1.heap.size + 1, 0, none⟩ : Option Addr) = ea0 at AB ⊢
      rw [← hS] at BW
      clear hS s3
      go_wp2
      go_loopw [7, 8, 9] (fun vv ev iv wr => ∃ (i : Nat) (st : Sc) (a : Sca) (nv ne : Nat), i ≤ n ∧ iv = .int .i64 (i : Int) ∧ vv = .slice a.va nv a.vc ∧ ev = .slice a.ea ne a.ec ∧ nv ≤ 9 ∧ ne ≤ 70 ∧ Hid (nv = a.M.length) ∧ Hid (ne = st.es.length) ∧ Hid (scan (L.drop i) i st = R) ∧ Hid (Sc.Ok st) ∧ Hid (ScB S wr a st) ∧ Hid (Below S w1 wr)) (fun _ _ iv _ => n - (intOf iv).toNat)
      case atStart => exact ⟨0, ⟨[], []⟩, _, 0, 0, Nat.zero_le _, rfl, rfl, rfl, by omega, by omega, hide1 rfl, hide1 rfl, hide1 (by rw [HR.out]; rfl), hide1 ⟨by simp, by simp, by simp⟩, AB, BW⟩
      case round =>
        obtain ⟨i, st, a, nv, ne, hi1, rfl, rfl, rfl, hnv9, hne70, HNV, HNE, HS, OK, HA, BB⟩ := hrel
        have sr : S ≤ wr.heap.size := HA.out.hS
        have BT := hide1 (B2.out.trans (BB.out.mono leS))
        have swr : w.heap.size ≤ wr.heap.size := by omega
        by_cases hlt : i < n
        · have k3 : (i : Int) < (n : Int) := by omega
          have k0 : (0 : Int) ≤ (i : Int) := by omega
          have hL : i < L.length := by have := HN.out; omega
          obtain ⟨g, o, rfl, hg, hc⟩ := RQ.out i hL
          have x0 : wr.cell? ⟨g, o + i, none⟩ = some (.string L[i]) := (BB.out.cell (p := ⟨g, o + i, none⟩) (RL.out g o rfl (by omega))).trans hc
          have hl4 : L[i].size ≤ 4000 := by have := LS.out L[i] (List.getElem_mem hL); omega
          have CP := hide1 (specParts_any L[i] wr (by omega))
          have PS := hide1 (partsL_size L[i])
          have PP := hide1 (partsL_pos L[i])
          have PL := hide1 (partsL_le L[i])
          have NXT := hide1 (fun st' (h : lineSc st L[i] = some st') => And.intro (scan_next HS.out hL h) (OK.out.line h))
          have STP := hide1 (fun (h : lineSc st L[i] = none) => show A.1 = ⟨[], []⟩ ∧ A.2 = (i : Int) + 1 from by
            have e2 : A.2 = (i : Int) + 1 := by rw [AN.out, scan_stop HS.out hL h]; unfold ansOf; rw [if_pos (by simp)]; simp
            exact ⟨NON.out (by rw [e2]; omega), e2⟩)
          have BAD := hide1 (lineSc_bad (st := st) (l := L[i]))
          have REM := hide1 (lineSc_rem (st := st) (l := L[i]))
          have DO := hide1 (lineSc_do (st := st) (l := L[i]))
          clear hc HS
          generalize lineSc st L[i] = LR at *
          cases hpb : partsB L[i] with
          | false =>
            have RES := hide1 (STP.out (BAD.out hpb))
            rw [hpb] at CP
            clear hpb STP NXT BAD REM DO PS PP PL
            generalize L[i] = l at *
            go_wp2_with fail
            refine CP.out.mono ?_
            rintro e w5 ⟨v, rfl, hv, hb5⟩
            go_wp2
            refine bodyPost_ret (results_tmp3 Tryd.results4 _ _ _) rfl ?_
            have B5 := hide1 (BT.out.trans (hb5.mono swr))
            first | exact ansS_no RES.out.1 RES.out.2 _ _ (B5.out.alloc B5.out.size _) | (refine ansS_no RES.out.1 (f := _) (by rw [RES.out.2]; go_num) _ _ (B5.out.alloc B5.out.size _))
          | true =>
            have REM2 := hide1 (REM.out hpb)
            have DO2 := hide1 (DO.out hpb)
            rw [hpb] at CP
            clear hpb BAD REM DO
            generalize partsL L[i] = p at *
            generalize L[i] = l at *
            go_wp2_with fail
            refine CP.out.mono ?_
            rintro e w5 ⟨v, rfl, hv, hb5⟩
            obtain ⟨aq, cq, rfl⟩ := own_slice hv
            have B5 := hide1 (BT.out.trans (hb5.mono swr))
            have RP := hide1 (rdQ_of_own hv)
            have HA5 := hide1 (HA.out.later hb5)
            have BB5 := hide1 (BB.out.trans (hb5.mono sr))
            have s5 : w.heap.size ≤ w5.heap.size := B5.out.size
            have wr5 : wr.heap.size ≤ w5.heap.size := hb5.size
            clear hv hb5 CP x0
            rcases p with _ | ⟨x, q⟩
            · have NX := hide1 (NXT.out st (REM2.out rfl))
              clear NXT STP REM2 DO2
              rw [List.length_nil]
              go_wp2
              go_roundw
              case rel => exact ⟨i + 1, st, a, nv, ne, by omega, by go_num, rfl, rfl, by omega, by omega, HNV, HNE, NX.out.1, NX.out.2, HA5, BB5⟩
              case measure => simp [intOf] <;> omega
            · have hx1 : 1 ≤ x.size := PP.out x (.head _)
              obtain ⟨m, hm⟩ : ∃ m, m = (x :: q).length := ⟨_, rfl⟩
              have HMQ := hide1 hm
              have PLM := hide1 (show m ≤ 10 from by rw [hm]; exact PL.out)
              have mq : m = q.length + 1 := hm
              have km : (0 : Int) < (m : Int) := by omega
              have km2 : 0 < m := by omega
              have km3 : ((m : Int) == 0) = false := by simp; omega
              rw [← hm]
              have MQ := hide1 mq
              clear hm mq PL
              obtain ⟨g2, o2, rfl, hg2, hc2⟩ := RP.out 0 (by simp)
              have y0 : w5.cell? ⟨g2, o2, none⟩ = some (.string x) := hc2
              have hb := get_byt x
              have kx : (0 : Int) < (x.size : Int) := by omega
              have kx2 : 0 < x.size := by omega
              by_cases c35 : byt x 0 = 35
              · have q35 : (((byt x 0 : Nat) : Int) == 35) = true := by simp [c35]
                have NX := hide1 (NXT.out st (REM2.out (by unfold remark; rw [show (byt ((x :: q).getD 0 ⟨#[]⟩) 0 == 35) = true from by rw [show (x :: q).getD 0 ⟨#[]⟩ = x from rfl, c35]; rfl]; simp)))
                clear NXT STP REM2 DO2 c35 hc2
                go_wp2
                go_roundw
                case rel => exact ⟨i + 1, st, a, nv, ne, by omega, by go_num, rfl, rfl, by omega, by omega, HNV, HNE, NX.out.1, NX.out.2, HA5, BB5⟩
                case measure => simp [intOf] <;> omega
              · have q35 : (((byt x 0 : Nat) : Int) == 35) = false := by simp; omega
                have LRE := hide1 (DO2.out (show remark (x :: q) = false from by
                  have : (byt ((x :: q).getD 0 ⟨#[]⟩) 0 == 35) = false := by rw [show (x :: q).getD 0 ⟨#[]⟩ = x from rfl]; simpa using c35
                  unfold remark
                  rw [this]
                  rfl))
                clear REM2 DO2 c35 hc2
                by_cases cv : x = wView
                · obtain ⟨qv, qvb⟩ := isWView cv
                  have PV := hide1 (show LR = doView st q by rw [LRE.out, cv]; exact parts_view st q)
                  by_cases c2 : m = 2
                  · obtain ⟨t, rfl⟩ : ∃ t, q = [t] := List.length_eq_one_iff.1 (by have := MQ.out; omega)
                    obtain rfl : m = 2 := c2
                    have PV2 := hide1 (show LR = viewSc st t by rw [PV.out]; rfl)
                    have y1 : w5.cell? ⟨g2, o2 + 1, none⟩ = some (.string t) := rd0 RP.out 1 (by simp)
                    have CM := hide1 (specCommas_any t w5 (by have := PS.out t (.tail _ (.head _)); omega))
                    have VLN := hide1 (fun v => viewOf_len (t := t) (v := v))
                    have tsz : t.size ≤ 4000 := by have := PS.out t (.tail _ (.head _)); omega
                    clear cv PV LRE km km2 km3
                    cases hv : viewOf t with
                    | none =>
                      have RES := hide1 (STP.out (by rw [PV2.out]; exact viewSc_bad hv))
                      rw [hv] at CM
                      clear hv NXT STP PV2
                      go_wp2_with fail
                      refine CM.out.mono ?_
                      rintro e w6 ⟨b, c, rfl, hO6, hb6⟩
                      rw [show ((none : Option (List Int)).getD []).length = ([] : List Int).length from rfl]
                      have hO6 : OwnK w6 w5.heap.size b c [] := hO6
                      have B7 := hide1 ((Below.refl w6.heap.size w6).alloc (Nat.le_refl _) (.cells #[.slice b ([] : List Int).length c] 35))
                      have H6 := hide1 (HA5.out.later hb6)
                      have O6 := hide1 hO6
                      have B6 := hide1 (B5.out.trans (hb6.mono s5))
                      have s6 : w.heap.size ≤ w6.heap.size := B6.out.size
                      have BB6 := hide1 (BB5.out.trans (hb6.mono HA5.out.hS))
                      have T1 := hide1 (own_kept H6.out.vs.o B7.out)
                      rw [← HNV.out] at T1
                      have T2 := hide1 (rd_one (y := (⟨b, c, ([] : List Int)⟩ : Vw)) encVw (Blk.new w6 35 #[.slice b ([] : List Int).length c]))
                      have T4 := hide1 (Nat.le_trans H6.out.hS B7.out.size)
                      have lt2 : ∀ g, (Value.slice b ([] : List Int).length c).ownBlock = some g → w5.heap.size ≤ g := fun g hg => (O6.out.lt g hg).1
                      have XN := hide1 (show ∀ g, (Value.slice b ([] : List Int).length c).ownBlock = some g → (Value.slice a.va a.M.length a.vc).ownBlock ≠ some g ∧ (Value.slice a.ea st.es.length a.ec).ownBlock ≠ some g ∧ ∀ y ∈ a.M, (Value.slice y.a y.l.length y.c).ownBlock ≠ some g from fun g hg => ⟨fun e => by have := (HA5.out.vs.o.lt g e).2; have := lt2 g hg; omega, fun e => by have := (HA5.out.es.lt g e).2; have := lt2 g hg; omega, fun y hy e => by have := ((HA5.out.vs.r y hy).lt g e).2; have := lt2 g hg; omega⟩)
                      clear lt2 hO6 hb6
                      go_upto_region 16 with fail
                      go_wp2_with (at_builtin; refine wpList_appA encVw rowVw rfl _ _ rfl S (.slice a.va nv a.vc) nv a.M rfl T1.out (some ⟨w6.heap.size, 0, none⟩) 1 1 [⟨b, c, ([] : List Int)⟩] rfl rfl T2.out (by omega) T4.out ?_; intro b7 c7 w7 ho7 hg7 hl7; have HA7 := hide1 ((H6.out.later B7.out).view (x := ⟨b, c, ([] : List Int)⟩) ((O6.out.later B7.out).base HA5.out.hS) XN.out (by rw [← HNV.out]; exact ho7) (by rw [← HNV.out]; exact hg7) (by rw [← HNV.out]; exact hl7)); have B8 := hide1 (B6.out.trans ((B7.out.mono s6).trans (HA7.out.2.mono leS))); have BB8 := hide1 (BB6.out.trans ((B7.out.mono H6.out.hS).trans HA7.out.2)); clear ho7 hg7 hl7 T1 T2 T4 XN)
                      go_wp2
                      refine bodyPost_ret (results_tmp3 Tryd.results4 _ _ _) rfl ?_
                      first | exact ansS_no RES.out.1 RES.out.2 _ _ (B8.out.alloc B8.out.size _) | (refine ansS_no RES.out.1 (f := _) (by rw [RES.out.2]; go_num) _ _ (B8.out.alloc B8.out.size _))
                    | some v =>
                      have vl : v.length ≤ 4001 := by have := VLN.out v hv; omega
                      have NO := hide1 (fun h => STP.out (PV2.out.trans (viewSc_no hv h)))
                      have YES := hide1 (fun h => NXT.out _ (PV2.out.trans (viewSc_yes hv h)))
                      rw [hv] at CM
                      clear hv NXT STP PV2 VLN
                      go_wp2_with fail
                      refine CM.out.mono ?_
                      rintro e w6 ⟨b, c, rfl, hO6, hb6⟩
                      rw [show ((some v).getD []).length = v.length from rfl]
                      have hO6 : OwnK w6 w5.heap.size b c v := hO6
                      by_cases c4 : 0 < ne
                      · have k4 : (0 : Int) < (ne : Int) := by omega
                        have RES := hide1 (NO.out (fun h => by have h1 := h.1; have h2 := HNE.out; rw [h1] at h2; simp at h2; omega))
                        clear c4 NO YES
                        have B7 := hide1 ((Below.refl w6.heap.size w6).alloc (Nat.le_refl _) (.cells #[.slice b v.length c] 35))
                        have H6 := hide1 (HA5.out.later hb6)
                        have O6 := hide1 hO6
                        have B6 := hide1 (B5.out.trans (hb6.mono s5))
                        have s6 : w.heap.size ≤ w6.heap.size := B6.out.size
                        have BB6 := hide1 (BB5.out.trans (hb6.mono HA5.out.hS))
                        have T1 := hide1 (own_kept H6.out.vs.o B7.out)
                        rw [← HNV.out] at T1
                        have T2 := hide1 (rd_one (y := (⟨b, c, v⟩ : Vw)) encVw (Blk.new w6 35 #[.slice b v.length c]))
                        have T4 := hide1 (Nat.le_trans H6.out.hS B7.out.size)
                        have lt2 : ∀ g, (Value.slice b v.length c).ownBlock = some g → w5.heap.size ≤ g := fun g hg => (O6.out.lt g hg).1
                        have XN := hide1 (show ∀ g, (Value.slice b v.length c).ownBlock = some g → (Value.slice a.va a.M.length a.vc).ownBlock ≠ some g ∧ (Value.slice a.ea st.es.length a.ec).ownBlock ≠ some g ∧ ∀ y ∈ a.M, (Value.slice y.a y.l.length y.c).ownBlock ≠ some g from fun g hg => ⟨fun e => by have := (HA5.out.vs.o.lt g e).2; have := lt2 g hg; omega, fun e => by have := (HA5.out.es.lt g e).2; have := lt2 g hg; omega, fun y hy e => by have := ((HA5.out.vs.r y hy).lt g e).2; have := lt2 g hg; omega⟩)
                        clear lt2 hO6 hb6
                        go_upto_region 16 with fail
                        go_wp2_with (at_builtin; refine wpList_appA encVw rowVw rfl _ _ rfl S (.slice a.va nv a.vc) nv a.M rfl T1.out (some ⟨w6.heap.size, 0, none⟩) 1 1 [⟨b, c, v⟩] rfl rfl T2.out (by omega) T4.out ?_; intro b7 c7 w7 ho7 hg7 hl7; have HA7 := hide1 ((H6.out.later B7.out).view (x := ⟨b, c, v⟩) ((O6.out.later B7.out).base HA5.out.hS) XN.out (by rw [← HNV.out]; exact ho7) (by rw [← HNV.out]; exact hg7) (by rw [← HNV.out]; exact hl7)); have B8 := hide1 (B6.out.trans ((B7.out.mono s6).trans (HA7.out.2.mono leS))); have BB8 := hide1 (BB6.out.trans ((B7.out.mono H6.out.hS).trans HA7.out.2)); clear ho7 hg7 hl7 T1 T2 T4 XN)
                        go_wp2
                        refine bodyPost_ret (results_tmp3 Tryd.results4 _ _ _) rfl ?_
                        first | exact ansS_no RES.out.1 RES.out.2 _ _ (B8.out.alloc B8.out.size _) | (refine ansS_no RES.out.1 (f := _) (by rw [RES.out.2]; go_num) _ _ (B8.out.alloc B8.out.size _))
                      · have k4 : ¬ ((0 : Int) < (ne : Int)) := by omega
                        have ES := hide1 (show st.es = [] from List.eq_nil_of_length_eq_zero (by rw [← HNE.out]; omega))
                        clear c4
                        have B7 := hide1 ((Below.refl w6.heap.size w6).alloc (Nat.le_refl _) (.cells #[.slice b v.length c] 35))
                        have H6 := hide1 (HA5.out.later hb6)
                        have O6 := hide1 hO6
                        have B6 := hide1 (B5.out.trans (hb6.mono s5))
                        have s6 : w.heap.size ≤ w6.heap.size := B6.out.size
                        have BB6 := hide1 (BB5.out.trans (hb6.mono HA5.out.hS))
                        have T1 := hide1 (own_kept H6.out.vs.o B7.out)
                        rw [← HNV.out] at T1
                        have T2 := hide1 (rd_one (y := (⟨b, c, v⟩ : Vw)) encVw (Blk.new w6 35 #[.slice b v.length c]))
                        have T4 := hide1 (Nat.le_trans H6.out.hS B7.out.size)
                        have lt2 : ∀ g, (Value.slice b v.length c).ownBlock = some g → w5.heap.size ≤ g := fun g hg => (O6.out.lt g hg).1
                        have XN := hide1 (show ∀ g, (Value.slice b v.length c).ownBlock = some g → (Value.slice a.va a.M.length a.vc).ownBlock ≠ some g ∧ (Value.slice a.ea st.es.length a.ec).ownBlock ≠ some g ∧ ∀ y ∈ a.M, (Value.slice y.a y.l.length y.c).ownBlock ≠ some g from fun g hg => ⟨fun e => by have := (HA5.out.vs.o.lt g e).2; have := lt2 g hg; omega, fun e => by have := (HA5.out.es.lt g e).2; have := lt2 g hg; omega, fun y hy e => by have := ((HA5.out.vs.r y hy).lt g e).2; have := lt2 g hg; omega⟩)
                        clear lt2 hO6 hb6
                        go_upto_region 16 with fail
                        go_wp2_with (at_builtin; refine wpList_appA encVw rowVw rfl _ _ rfl S (.slice a.va nv a.vc) nv a.M rfl T1.out (some ⟨w6.heap.size, 0, none⟩) 1 1 [⟨b, c, v⟩] rfl rfl T2.out (by omega) T4.out ?_; intro b7 c7 w7 ho7 hg7 hl7; have HA7 := hide1 ((H6.out.later B7.out).view (x := ⟨b, c, v⟩) ((O6.out.later B7.out).base HA5.out.hS) XN.out (by rw [← HNV.out]; exact ho7) (by rw [← HNV.out]; exact hg7) (by rw [← HNV.out]; exact hl7)); have B8 := hide1 (B6.out.trans ((B7.out.mono s6).trans (HA7.out.2.mono leS))); have BB8 := hide1 (BB6.out.trans ((B7.out.mono H6.out.hS).trans HA7.out.2)); clear ho7 hg7 hl7 T1 T2 T4 XN)
                        have CV := hide1 (specViews_any b7 (a.M ++ [(⟨b, c, v⟩ : Vw)]) c7 w7 (by rw [List.length_append, ← HNV.out, List.length_cons, List.length_nil]; omega) (fun z hz => by
                          rcases List.mem_append.1 hz with h1 | h1
                          · have h2 : z.l ∈ st.vs := by rw [← HA5.out.ml]; exact List.mem_map.2 ⟨z, h1, rfl⟩
                            have := OK.out.v _ h2
                            omega
                          · rw [List.mem_singleton.1 h1]
                            show v.length ≤ _
                            omega) HA7.out.1.vs.rd)
                        rw [show (a.M ++ [(⟨b, c, v⟩ : Vw)]).length = nv + 1 by rw [List.length_append, ← HNV.out]; rfl, show (a.M ++ [(⟨b, c, v⟩ : Vw)]).map (·.l) = st.vs ++ [v] from HA7.out.1.ml] at CV
                        have s7 : w.heap.size ≤ w7.heap.size := B8.out.size
                        refine CV.out.mono ?_
                        rintro e w9 ⟨rfl, hb9⟩
                        have B9 := hide1 (B8.out.trans (hb9.mono s7))
                        by_cases c5 : okViews (st.vs ++ [v])
                        · have NX := hide1 (YES.out ⟨ES.out, c5⟩)
                          have nv9 : nv + 1 ≤ 9 := by have h1 := c5.2.2; rw [List.length_append, ← HA5.out.nv, ← HNV.out] at h1; exact h1
                          rw [decide_eq_true c5]
                          clear c5 NO YES
                          go_wp2
                          go_roundw
                          case rel => exact ⟨i + 1, ⟨st.vs ++ [v], st.es⟩, ⟨b7, c7, a.ea, a.ec, a.M ++ [⟨b, c, v⟩]⟩, nv + 1, 0, by omega, by go_num, rfl, rfl, by omega, by omega, hide1 (by rw [List.length_append, ← HNV.out]; rfl), hide1 (by rw [ES.out]; rfl), NX.out.1, NX.out.2, hide1 (HA7.out.1.later hb9), hide1 (BB8.out.trans (hb9.mono HA7.out.1.hS))⟩
                          case measure => simp [intOf] <;> omega
                        · have RES := hide1 (NO.out (fun h => c5 h.2))
                          rw [decide_eq_false c5]
                          clear c5 NO YES
                          go_wp2
                          refine bodyPost_ret (results_tmp3 Tryd.results4 _ _ _) rfl ?_
                          first | exact ansS_no RES.out.1 RES.out.2 _ _ (B9.out.alloc B9.out.size _) | (refine ansS_no RES.out.1 (f := _) (by rw [RES.out.2]; go_num) _ _ (B9.out.alloc B9.out.size _))
                  · have q2 : ((m : Int) == 2) = false := by simp; omega
                    have EN := hide1 (show evOf (x :: q) = none by rw [cv]; exact evOf_view (fun h => c2 (by rw [MQ.out]; omega)))
                    have RES := hide1 (STP.out (by rw [LRE.out, partsSc]; rw [if_neg (by unfold isView; rw [← HMQ.out]; simp [c2]), EN.out]))
                    have CE := hide1 (specEvent_any (some ⟨g2, o2, none⟩) (x :: q) cq w5 (by rw [← HMQ.out]; omega) (by rw [← HMQ.out]; exact PLM.out) (fun z hz => Nat.le_trans (PS.out z hz) hl4) RP.out)
                    rw [← HMQ.out] at CE
                    rw [EN.out] at CE
                    clear NXT STP PV LRE EN cv c2
                    go_wp2_with fail
                    refine CE.out.mono ?_
                    rintro e w6 ⟨⟨y, rfl, hy⟩, hb6⟩
                    have B6 := hide1 (B5.out.trans (hb6.mono s5))
                    have HA6 := hide1 (HA5.out.later hb6)
                    have BB6 := hide1 (BB5.out.trans (hb6.mono HA5.out.hS))
                    have s6 : w.heap.size ≤ w6.heap.size := B6.out.size
                    clear hb6
                    go_upto_region 20 with fail
                    have F7 := hide1 (And.intro (Blk.new w6 40 #[.int .i64 y.k, .int .i64 y.n, .int .i64 y.pl, .int .i64 y.op, .string y.key, .string y.val]) ((Below.refl w6.heap.size w6).alloc (Nat.le_refl _) (.cells #[.int .i64 y.k, .int .i64 y.n, .int .i64 y.pl, .int .i64 y.op, .string y.key, .string y.val] 40)))
                    obtain ⟨w7, h7⟩ : ∃ W, W = (w6.alloc (.cells #[.int .i64 y.k, .int .i64 y.n, .int .i64 y.pl, .int .i64 y.op, .string y.key, .string y.val] 40)) := ⟨_, rfl⟩
                    refine wp_genW w7 h7 ?_
                    rw [← h7] at F7
                    clear h7
                    have B7 := hide1 (B6.out.trans (F7.out.2.mono s6))
                    have KY := hide1 F7.out.1
                    have HA7 := hide1 (HA6.out.later F7.out.2)
                    have BB7 := hide1 (BB6.out.trans (F7.out.2.mono HA6.out.hS))
                    have s7 : w.heap.size ≤ w7.heap.size := B7.out.size
                    obtain ⟨Y, hY⟩ : ∃ Y, Y = w6.heap.size := ⟨_, rfl⟩
                    rw [← hY] at KY ⊢
                    clear F7 hY
                    go_wp2
                    refine bodyPost_ret (results_tmp3 Tryd.results4 _ _ _) rfl ?_
                    first | exact ansS_no RES.out.1 RES.out.2 _ _ (B7.out.alloc B7.out.size _) | (refine ansS_no RES.out.1 (f := _) (by rw [RES.out.2]; go_num) _ _ (B7.out.alloc B7.out.size _))
                · obtain ⟨qv, qvb⟩ := noWView cv
                  have PE := hide1 (show LR = match evOf (x :: q) with | none => none | some e => evSc st e by rw [LRE.out]; exact partsSc_ev cv)
                  have CE := hide1 (specEvent_any (some ⟨g2, o2, none⟩) (x :: q) cq w5 (by rw [← HMQ.out]; omega) (by rw [← HMQ.out]; exact PLM.out) (fun z hz => Nat.le_trans (PS.out z hz) hl4) RP.out)
                  rw [← HMQ.out] at CE
                  clear LRE cv
                  cases hev : evOf (x :: q) with
                  | none =>
                    have RES := hide1 (STP.out (by rw [PE.out, hev]))
                    rw [hev] at CE
                    clear NXT STP PE hev
                    go_wp2_with fail
                    refine CE.out.mono ?_
                    rintro e w6 ⟨⟨y, rfl, hy⟩, hb6⟩
                    have B6 := hide1 (B5.out.trans (hb6.mono s5))
                    have HA6 := hide1 (HA5.out.later hb6)
                    have BB6 := hide1 (BB5.out.trans (hb6.mono HA5.out.hS))
                    have s6 : w.heap.size ≤ w6.heap.size := B6.out.size
                    clear hb6
                    go_upto_region 20 with fail
                    have F7 := hide1 (And.intro (Blk.new w6 40 #[.int .i64 y.k, .int .i64 y.n, .int .i64 y.pl, .int .i64 y.op, .string y.key, .string y.val]) ((Below.refl w6.heap.size w6).alloc (Nat.le_refl _) (.cells #[.int .i64 y.k, .int .i64 y.n, .int .i64 y.pl, .int .i64 y.op, .string y.key, .string y.val] 40)))
                    obtain ⟨w7, h7⟩ : ∃ W, W = (w6.alloc (.cells #[.int .i64 y.k, .int .i64 y.n, .int .i64 y.pl, .int .i64 y.op, .string y.key, .string y.val] 40)) := ⟨_, rfl⟩
                    refine wp_genW w7 h7 ?_
                    rw [← h7] at F7
                    clear h7
                    have B7 := hide1 (B6.out.trans (F7.out.2.mono s6))
                    have KY := hide1 F7.out.1
                    have HA7 := hide1 (HA6.out.later F7.out.2)
                    have BB7 := hide1 (BB6.out.trans (F7.out.2.mono HA6.out.hS))
                    have s7 : w.heap.size ≤ w7.heap.size := B7.out.size
                    obtain ⟨Y, hY⟩ : ∃ Y, Y = w6.heap.size := ⟨_, rfl⟩
                    rw [← hY] at KY ⊢
                    clear F7 hY
                    go_wp2
                    refine bodyPost_ret (results_tmp3 Tryd.results4 _ _ _) rfl ?_
                    first | exact ansS_no RES.out.1 RES.out.2 _ _ (B7.out.alloc B7.out.size _) | (refine ansS_no RES.out.1 (f := _) (by rw [RES.out.2]; go_num) _ _ (B7.out.alloc B7.out.size _))
                  | some z =>
                    have LZ := hide1 (show LR = evSc st z by rw [PE.out, hev])
                    have NO := hide1 (fun h => STP.out (LZ.out.trans (evSc_no h)))
                    have YES := hide1 (fun h => NXT.out _ (LZ.out.trans (evSc_yes h)))
                    rw [hev] at CE
                    clear NXT STP PE hev LZ
                    go_wp2_with fail
                    refine CE.out.mono ?_
                    rintro e w6 ⟨⟨y, rfl, hy⟩, hb6⟩
                    obtain rfl : y = z := hy z rfl
                    clear hy
                    have B6 := hide1 (B5.out.trans (hb6.mono s5))
                    have HA6 := hide1 (HA5.out.later hb6)
                    have BB6 := hide1 (BB5.out.trans (hb6.mono HA5.out.hS))
                    have s6 : w.heap.size ≤ w6.heap.size := B6.out.size
                    clear hb6
                    go_upto_region 20 with fail
                    have F7 := hide1 (And.intro (Blk.new w6 40 #[.int .i64 y.k, .int .i64 y.n, .int .i64 y.pl, .int .i64 y.op, .string y.key, .string y.val]) ((Below.refl w6.heap.size w6).alloc (Nat.le_refl _) (.cells #[.int .i64 y.k, .int .i64 y.n, .int .i64 y.pl, .int .i64 y.op, .string y.key, .string y.val] 40)))
                    obtain ⟨w7, h7⟩ : ∃ W, W = (w6.alloc (.cells #[.int .i64 y.k, .int .i64 y.n, .int .i64 y.pl, .int .i64 y.op, .string y.key, .string y.val] 40)) := ⟨_, rfl⟩
                    refine wp_genW w7 h7 ?_
                    rw [← h7] at F7
                    clear h7
                    have B7 := hide1 (B6.out.trans (F7.out.2.mono s6))
                    have KY := hide1 F7.out.1
                    have HA7 := hide1 (HA6.out.later F7.out.2)
                    have BB7 := hide1 (BB6.out.trans (F7.out.2.mono HA6.out.hS))
                    have s7 : w.heap.size ≤ w7.heap.size := B7.out.size
                    obtain ⟨Y, hY⟩ : ∃ Y, Y = w6.heap.size := ⟨_, rfl⟩
                    rw [← hY] at KY ⊢
                    clear F7 hY
                    have CO := hide1 (specEventOk_any y.k y.n y.pl y.op y.key y.val w7)
                    have v0 : w7.cell? ⟨Y, 0, none⟩ = some (.int .i64 y.k) := KY.out.cell 0
                    have v1 : w7.cell? ⟨Y, 1, none⟩ = some (.int .i64 y.n) := KY.out.cell 1
                    have v2 : w7.cell? ⟨Y, 2, none⟩ = some (.int .i64 y.pl) := KY.out.cell 2
                    have v3 : w7.cell? ⟨Y, 3, none⟩ = some (.int .i64 y.op) := KY.out.cell 3
                    have v4 : w7.cell? ⟨Y, 4, none⟩ = some (.string y.key) := KY.out.cell 4
                    have v5 : w7.cell? ⟨Y, 5, none⟩ = some (.string y.val) := KY.out.cell 5
                    by_cases d1 : okEv y
                    · rw [decide_eq_true d1] at CO
                      go_wp2_with fail
                      refine CO.out.mono ?_
                      rintro e w8 ⟨rfl, hb8⟩
                      have B8 := hide1 (B7.out.trans (hb8.mono s7))
                      have HA8 := hide1 (HA7.out.later hb8)
                      have BB8 := hide1 (BB7.out.trans (hb8.mono HA7.out.hS))
                      have s8 : w.heap.size ≤ w8.heap.size := B8.out.size
                      have KY8 := hide1 (KY.out.below hb8 KY.out.lt)
                      clear v0 v1 v2 v3 v4 v5 hb8 CO
                      by_cases d2 : nv = 0
                      · have qn : ((nv : Int) == 0) = true := by simp [d2]
                        have RES := hide1 (NO.out (fun h => h.1.2 (List.eq_nil_of_length_eq_zero (by rw [← HA5.out.nv, ← HNV.out]; exact d2))))
                        clear NO YES d1 d2
                        go_wp2
                        refine bodyPost_ret (results_tmp3 Tryd.results4 _ _ _) rfl ?_
                        first | exact ansS_no RES.out.1 RES.out.2 _ _ (B8.out.alloc B8.out.size _) | (refine ansS_no RES.out.1 (f := _) (by rw [RES.out.2]; go_num) _ _ (B8.out.alloc B8.out.size _))
                      · have qn : ((nv : Int) == 0) = false := by simp; omega
                        by_cases d3 : ne = 70
                        · have qm : ((ne : Int) == 70) = true := by simp [d3]
                          have RES := hide1 (NO.out (fun h => h.2 (by rw [← HNE.out]; exact d3)))
                          clear NO YES d1 d2 d3
                          go_wp2
                          refine bodyPost_ret (results_tmp3 Tryd.results4 _ _ _) rfl ?_
                          first | exact ansS_no RES.out.1 RES.out.2 _ _ (B8.out.alloc B8.out.size _) | (refine ansS_no RES.out.1 (f := _) (by rw [RES.out.2]; go_num) _ _ (B8.out.alloc B8.out.size _))
                        · have qm : ((ne : Int) == 70) = false := by simp; omega
                          have NX := hide1 (YES.out ⟨⟨d1, fun e => d2 (by rw [HNV.out, HA5.out.nv, e]; rfl)⟩, by rw [← HNE.out]; exact d3⟩)
                          clear NO YES d1 d2
                          have B9 := hide1 ((Below.refl w8.heap.size w8).alloc (Nat.le_refl _) (.cells #[.int .i64 y.k, .int .i64 y.n, .int .i64 y.pl, .int .i64 y.op, .string y.key, .string y.val] 40))
                          have T1 := hide1 (own_kept HA8.out.es B9.out)
                          rw [← HNE.out] at T1
                          have T2 := hide1 (rd_one (y := y) encEv (Blk.new w8 40 #[.int .i64 y.k, .int .i64 y.n, .int .i64 y.pl, .int .i64 y.op, .string y.key, .string y.val]))
                          have T4 := hide1 (Nat.le_trans HA8.out.hS B9.out.size)
                          have v0 : w8.cell? ⟨Y, 0, none⟩ = some (.int .i64 y.k) := KY8.out.cell 0
                          have v1 : w8.cell? ⟨Y, 1, none⟩ = some (.int .i64 y.n) := KY8.out.cell 1
                          have v2 : w8.cell? ⟨Y, 2, none⟩ = some (.int .i64 y.pl) := KY8.out.cell 2
                          have v3 : w8.cell? ⟨Y, 3, none⟩ = some (.int .i64 y.op) := KY8.out.cell 3
                          have v4 : w8.cell? ⟨Y, 4, none⟩ = some (.string y.key) := KY8.out.cell 4
                          have v5 : w8.cell? ⟨Y, 5, none⟩ = some (.string y.val) := KY8.out.cell 5
                          go_upto_region 22 with fail
                          go_wp2_with (at_builtin; refine wpList_appA encEv rowEv rfl _ _ rfl S (.slice a.ea ne a.ec) ne st.es rfl T1.out (some ⟨w8.heap.size, 0, none⟩) 1 1 [y] rfl rfl T2.out (by omega) T4.out ?_; intro b10 c10 w10 ho10 hg10 hl10; have HA10 := hide1 ((HA8.out.later B9.out).event (x := y) (by rw [← HNE.out]; exact ho10) (by rw [← HNE.out]; exact hg10) (by rw [← HNE.out]; exact hl10)); have BB10 := hide1 (BB8.out.trans ((B9.out.mono HA8.out.hS).trans HA10.out.2)); clear ho10 hg10 hl10 T1 T2 T4 v0 v1 v2 v3 v4 v5)
                          go_roundw
                          case rel => exact ⟨i + 1, ⟨st.vs, st.es ++ [y]⟩, ⟨a.va, a.vc, b10, c10, a.M⟩, nv, ne + 1, by omega, by go_num, rfl, rfl, by omega, by omega, HNV, hide1 (by rw [List.length_append, ← HNE.out]; rfl), NX.out.1, NX.out.2, hide1 HA10.out.1, BB10⟩
                          case measure => simp [intOf] <;> omega
                    · rw [decide_eq_false d1] at CO
                      have RES := hide1 (NO.out (fun h => d1 h.1.1))
                      clear NO YES d1
                      go_wp2_with fail
                      refine CO.out.mono ?_
                      rintro e w8 ⟨rfl, hb8⟩
                      have B8 := hide1 (B7.out.trans (hb8.mono s7))
                      go_wp2
                      refine bodyPost_ret (results_tmp3 Tryd.results4 _ _ _) rfl ?_
                      first | exact ansS_no RES.out.1 RES.out.2 _ _ (B8.out.alloc B8.out.size _) | (refine ansS_no RES.out.1 (f := _) (by rw [RES.out.2]; go_num) _ _ (B8.out.alloc B8.out.size _))
        · obtain rfl : i = n := by omega
          have k3 : ¬ ((i : Int) < (i : Int)) := by omega
          have EN := hide1 (scan_end HS.out HN.out)
          clear HS
          by_cases c3 : nv = 0
          · have q3 : ((nv : Int) == 0) = true := by simp [c3]
            have RE := hide1 (show A.2 = 1 by rw [AN.out, EN.out]; unfold ansOf; rw [if_neg (by simp), if_pos (List.eq_nil_of_length_eq_zero (by rw [← HA.out.nv, ← HNV.out]; exact c3))])
            have RES := hide1 (And.intro (NON.out (by rw [RE.out]; decide)) RE.out)
            clear c3
            go_wp2
            refine bodyPost_ret (results_tmp3 Tryd.results4 _ _ _) rfl ?_
            first | exact ansS_no RES.out.1 RES.out.2 _ _ (BT.out.alloc BT.out.size _) | (refine ansS_no RES.out.1 (f := _) (by rw [RES.out.2]; go_num) _ _ (BT.out.alloc BT.out.size _))
          · have q3 : ((nv : Int) == 0) = false := by simp; omega
            have RE := hide1 (show A.2 = 0 by rw [AN.out, EN.out]; unfold ansOf; rw [if_neg (by simp), if_neg (fun e => c3 (by rw [HNV.out, HA.out.nv, e]; rfl))])
            have RST := hide1 (show A.1 = st by rw [ST.out RE.out, EN.out])
            clear c3
            go_wp2
            refine bodyPost_ret (results_tmp3 Tryd.results4 _ _ _) rfl ?_
            refine ⟨⟨a, ?_, by rw [RST.out]; exact HA.out.ml, HA.out.vs.rd, by rw [RST.out]; exact rdG_of_own encEv.len HA.out.es rfl⟩, BT.out⟩
            rw [RST.out, RE.out, ← HNV.out, ← HNE.out]
            rfl
end Go.Proofs.YtelmchifpgaibaaDoor
