/- Rows of views marked, and looked at for the marks. -/
import Derived.Test.YtelmchifpgaibaaDoorSAO
import Derived.Test.YtelmchifpgaibaaDoorScS
import Derived.Test.YtelmchifpgaibaaDoorSAU
namespace Go.Proofs.YtelmchifpgaibaaDoor
open Go.ChangeShapes Go.WideShapes Go.ChangeAt Go.RowKit
set_option linter.unusedVariables false

set_option maxRecDepth 100000 in
set_option maxHeartbeats 2000000 in
theorem markIntSS_pat (a : Option Addr) (M : List Vw) (ca B : Nat) (w : World) (hl : M.length ≤ 1048576) (hs : ∀ x ∈ M, x.l.length ≤ 1048576) (hsum : sumV M M.length ≤ 1048576) (hB : B ≤ w.heap.size) (hO : OwnVs w B a ca M) :
    Calls Tryd.prog 8 #[.slice a M.length ca, .int .i64 1] w fun e w' => (∃ q : Nat, q = 1 + sumV M M.length ∧ e = .returned (.int .i64 (q : Int))) ∧ (∀ j (h : j < M.length), w'.ownsRow B 3 1 (.slice M[j].a M[j].l.length M[j].c) M[j].l.length (iz (patZ (1 + sumV M j) M[j].l.length))) ∧ RdG vwC 1 w' a M ∧ Below B w w' ∧ (∀ g, (∀ x ∈ M, (Value.slice x.a x.l.length x.c).ownBlock ≠ some g) → g < w.heap.size → w'.heap[g]? = w.heap[g]?) := by
  have HS := hide1 hs
  have HD := hide1 (List.pairwise_iff_getElem.1 hO.d)
  have HN := hide1 hO.n
  have HO := hide1 hO
  have MN := hide1 (fun i (h : i < M.length) => (show sumV M i + M[i].l.length ≤ 1048576 by
    have h1 := sumV_next M i h
    have h2 : sumV M (i + 1) ≤ sumV M M.length := by
      unfold sumV
      have e : M.take M.length = M.take (i + 1) ++ M.drop (i + 1) := by rw [List.take_length, List.take_append_drop]
      rw [e, List.map_append, List.sum_append]
      omega
    omega))
  clear hs hO hsum
  go_enter Tryd.func8, Tryd.ntmps8
  go_wp2
  go_loopw [1, 5] (fun kv iv wr => ∃ i k : Nat, i ≤ M.length ∧ iv = .int .i64 (i : Int) ∧ kv = .int .i64 (k : Int) ∧ Hid (k = 1 + sumV M i) ∧ Hid (∀ j (h : j < M.length), ∃ l' : List Int, l'.length = M[j].l.length ∧ OwnK wr B M[j].a M[j].c l' ∧ (j < i → l' = patZ (1 + sumV M j) M[j].l.length)) ∧ Hid (RdG vwC 1 wr a M) ∧ Hid (Below B w wr) ∧ Hid (∀ g, (∀ x ∈ M, (Value.slice x.a x.l.length x.c).ownBlock ≠ some g) → g < w.heap.size → wr.heap[g]? = w.heap[g]?)) (fun _ iv _ => M.length - (intOf iv).toNat)
  case atStart => exact ⟨0, 1, Nat.zero_le _, rfl, rfl, hide1 rfl, hide1 (fun j h => ⟨M[j].l, rfl, HO.out.r _ (List.getElem_mem h), fun h => absurd h (by omega)⟩), hide1 HO.out.rd.r, hide1 (Below.refl _ _), hide1 (fun g _ _ => rfl)⟩
  case round =>
    obtain ⟨i, k, hi, rfl, rfl, HK, HV, HR, BB, HG⟩ := hrel
    by_cases hlt : i < M.length
    · have k1 : (i : Int) < (M.length : Int) := by omega
      obtain ⟨b, o, hab, hb, hc⟩ := HR.out i hlt
      have x0 : wr.cell? ⟨b, o + i, none⟩ = some (.slice M[i].a M[i].l.length M[i].c) := by have := hc 0 (by omega); rwa [Nat.mul_one, Nat.add_zero] at this
      obtain ⟨l', hl', hO', _⟩ := HV.out i hlt
      have CM := hide1 (markIntS_any M[i].a M[i].c k B l' wr (by rw [hl']; exact HS.out _ (List.getElem_mem hlt)) (by have := HK.out; have := MN.out i hlt; omega) hO')
      rw [hl'] at CM
      have hk2 : (k : Int) + (M[i].l.length : Int) = ((k + M[i].l.length : Nat) : Int) := by omega
      rw [hk2] at CM
      obtain ⟨k', hk'⟩ : ∃ z, z = k + M[i].l.length := ⟨_, rfl⟩
      rw [← hk'] at CM
      have HK' := hide1 (show k' = 1 + sumV M (i + 1) by rw [sumV_next M i hlt]; have := HK.out; omega)
      have NX := hide1 (show ∀ w2 : World, w2.ownsRow B 3 1 (.slice M[i].a M[i].l.length M[i].c) M[i].l.length (iz (patZ k M[i].l.length)) → wr.grownBy w2 (Value.slice M[i].a M[i].l.length M[i].c).ownBlock → (∀ j (h : j < M.length), ∃ l' : List Int, l'.length = M[j].l.length ∧ OwnK w2 B M[j].a M[j].c l' ∧ (j < i + 1 → l' = patZ (1 + sumV M j) M[j].l.length)) ∧ RdG vwC 1 w2 a M ∧ Below B w w2 ∧ (∀ g, (∀ x ∈ M, (Value.slice x.a x.l.length x.c).ownBlock ≠ some g) → g < w.heap.size → w2.heap[g]? = w.heap[g]?) from fun w2 h1 h2 => by
        have hbl : ∀ g, (Value.slice M[i].a M[i].l.length M[i].c).ownBlock = some g → B ≤ g := fun g hg => ((HO.out.r _ (List.getElem_mem hlt)).lt g hg).1
        refine ⟨fun j hj => ?_, fun j hj => ?_, BB.out.trans (gbelow h2 hbl (by have := BB.out.size; omega)), fun g hg hgs => ?_⟩
        · by_cases e : j = i
          · subst e
            refine ⟨patZ k M[j].l.length, patZ_length _ _, ?_, fun _ => by rw [HK.out]⟩
            unfold OwnK
            rw [patZ_length]
            exact h1
          · obtain ⟨l2, e2, o2, p2⟩ := HV.out j hj
            refine ⟨l2, e2, gown h2 o2 (fun g hg e3 => ?_), fun h => p2 (by omega)⟩
            rw [e2] at hg
            by_cases c : j < i
            · exact HD.out j i hj hlt c g hg e3
            · exact HD.out i j hlt hj (by omega) g e3 hg
        · obtain ⟨b', o', e', hb', hc'⟩ := HR.out j hj
          refine ⟨b', o', e', Nat.lt_of_lt_of_le hb' h2.size, fun q hq => ?_⟩
          rw [← hc' q hq]
          refine World.cell?_of_block (h2.block b' hb' (fun e3 => ?_))
          have h5 := HN.out M[i] (List.getElem_mem hlt) b'
          have h6 : (Value.slice a M.length ca).ownBlock = some b' := by
            have ho := HO.out.o
            rcases ho.2 with ⟨hv, h0⟩ | ⟨g, cap, cur, hv, _⟩
            · rw [show M.length = 0 from h0] at hj; omega
            · injection hv with v1 v2 v3
              rw [e'] at v1
              injection v1 with v1
              injection v1 with v1 v4
              rw [e', v1, v4]
              rfl
          exact h5 h6 e3.symm
        · exact (h2.block g (Nat.lt_of_lt_of_le hgs BB.out.size) (fun e3 => hg _ (List.getElem_mem hlt) e3.symm)).trans (HG.out g hg hgs))
      generalize M[i] = s at *
      subst hab
      clear hc hO' hl' hk2 hk'
      go_wp2_with fail
      refine CM.out.mono ?_
      rintro e w2 ⟨rfl, h1, h2⟩
      have N2 := hide1 (NX.out w2 h1 h2)
      clear h1 h2 NX CM x0
      go_wp2
      go_roundw
      case rel => exact ⟨i + 1, k', by omega, by go_num, rfl, HK', hide1 N2.out.1, hide1 N2.out.2.1, hide1 N2.out.2.2.1, hide1 N2.out.2.2.2⟩
      case measure => simp [intOf]; omega
    · go_wp2
      go_ret
      have hiM : i = M.length := by omega
      refine ⟨⟨k, by rw [← hiM]; exact HK.out, rfl⟩, fun j h => ?_, HR.out, BB.out, HG.out⟩
      obtain ⟨l', e1, o1, p1⟩ := HV.out j h
      rw [p1 (by omega)] at o1
      unfold OwnK at o1
      rw [patZ_length] at o1
      exact o1
set_option maxRecDepth 100000 in
set_option maxHeartbeats 2000000 in
theorem heldIntSS_any (a : Option Addr) (M : List Vw) (ca : Nat) (w : World) (hl : M.length ≤ 1048576) (hs : ∀ x ∈ M, x.l.length ≤ 1048576) (hsum : sumV M M.length ≤ 1048576) (hR : RdG vwC 1 w a M) (hV : ∀ j (h : j < M.length), RdZ w M[j].a (patZ (1 + sumV M j) M[j].l.length)) :
    Calls Tryd.prog 10 #[.slice a M.length ca, .int .i64 1] w fun e w' => (∃ q : Nat, q = 1 + sumV M M.length ∧ e = .returned (.int .i64 (q : Int))) ∧ w' = w := by
  have HS := hide1 hs
  have HR := hide1 hR
  have HV := hide1 hV
  have MN := hide1 (fun i (h : i < M.length) => (show sumV M i + M[i].l.length ≤ 1048576 by
    have h1 := sumV_next M i h
    have h2 : sumV M (i + 1) ≤ sumV M M.length := by
      unfold sumV
      have e : M.take M.length = M.take (i + 1) ++ M.drop (i + 1) := by rw [List.take_length, List.take_append_drop]
      rw [e, List.map_append, List.sum_append]
      omega
    omega))
  clear hs hR hV hsum
  go_enter Tryd.func10, Tryd.ntmps10
  go_wp2
  go_loopw [1, 5] (fun kv iv wr => ∃ i k : Nat, i ≤ M.length ∧ iv = .int .i64 (i : Int) ∧ kv = .int .i64 (k : Int) ∧ Hid (k = 1 + sumV M i) ∧ Hid (w = wr)) (fun _ iv _ => M.length - (intOf iv).toNat)
  case atStart => exact ⟨0, 1, Nat.zero_le _, rfl, rfl, hide1 rfl, hide1 rfl⟩
  case round =>
    obtain ⟨i, k, hi, rfl, rfl, HK, HW⟩ := hrel
    obtain rfl := HW.out
    by_cases hlt : i < M.length
    · have k1 : (i : Int) < (M.length : Int) := by omega
      obtain ⟨b, o, hab, hb, hc⟩ := HR.out i hlt
      have x0 : w.cell? ⟨b, o + i, none⟩ = some (.slice M[i].a M[i].l.length M[i].c) := by have := hc 0 (by omega); rwa [Nat.mul_one, Nat.add_zero] at this
      have CH := hide1 (heldIntS_any M[i].a M[i].l.length M[i].c k w (HS.out _ (List.getElem_mem hlt)) (by have := HK.out; have := MN.out i hlt; omega) (by rw [HK.out]; exact HV.out i hlt))
      obtain ⟨k', hk'⟩ : ∃ z, z = k + M[i].l.length := ⟨_, rfl⟩
      have hk2 : (k : Int) + (M[i].l.length : Int) = (k' : Int) := by omega
      rw [hk2] at CH
      have HK' := hide1 (show k' = 1 + sumV M (i + 1) by rw [sumV_next M i hlt]; have := HK.out; omega)
      have kn : ¬ ((k' : Int) < 0) := by omega
      generalize M[i] = s at *
      subst hab
      clear hc hk2 hk'
      go_wp2_with fail
      refine CH.out.mono ?_
      rintro e w2 ⟨rfl, rfl⟩
      go_wp2
      go_roundw
      case rel => exact ⟨i + 1, k', by omega, by go_num, rfl, HK', (by first | trivial | exact hide1 rfl)⟩
      case measure => simp [intOf]; omega
    · have hiM : i = M.length := by omega
      go_wp2
      go_ret
      have hk9 : k = 1 + sumV M M.length := by rw [← hiM]; exact HK.out
      first | exact ⟨⟨k, hk9, rfl⟩, rfl⟩ | (refine ⟨?_, rfl⟩; show Ending.returned (.int .i64 (k : Int)) = _; congr 2; omega)
end Go.Proofs.YtelmchifpgaibaaDoor
namespace Go.Proofs.YtelmchifpgaibaaDoor
open Go.RowKit
set_option linter.unusedVariables false

theorem own_blkS {w w' : World} {B n k : Nat} {e : TypeId} {v : Value} {xs : List Value} (h : w.ownsRow B e k v n xs) (hs : w.heap.size ≤ w'.heap.size) (hb : ∀ g, v.ownBlock = some g → w'.heap[g]? = w.heap[g]?) : w'.ownsRow B e k v n xs := by
  rcases h.2 with h0 | ⟨g, cap, cur, hv, h1, h2, h3⟩
  · exact ⟨h.1, .inl h0⟩
  · exact ⟨h.1, .inr ⟨g, cap, cur, hv, h1, (hb g (by rw [hv]; rfl)).trans h2, h3⟩⟩
theorem scan_ok : ∀ (L : List ByteArray) (k : Nat) (st : Sc), st.Ok → (scan L k st).1.Ok
  | [], _, st, h => h
  | l :: r, k, st, h => by
    unfold scan
    cases e : lineSc st l with
    | none => exact ⟨by simp, by simp, by simp⟩
    | some st' => exact scan_ok r (k + 1) st' (h.line e)
theorem scrS_ok (s : ByteArray) : (scrS s).1.Ok := by
  have h0 : (⟨[], []⟩ : Sc).Ok := ⟨by simp, by simp, by simp⟩
  unfold scrS
  split
  · exact h0
  · split
    · exact h0
    · split
      · exact h0
      · exact scan_ok _ _ _ h0
/-- What the model answered, as it is read. -/
structure RdSc (w : World) (a : Sca) (st : Sc) : Prop where
  v : RdVs w a.va a.M
  e : RdG evC 6 w a.ea st.es
  ml : a.M.map (·.l) = st.vs
theorem RdSc.later {w w' : World} {a : Sca} {st : Sc} (h : RdSc w a st) (hb : Below w.heap.size w w') : RdSc w' a st := ⟨h.v.later hb, h.e.later hb, h.ml⟩
theorem ScB.rd {S : Nat} {w : World} {a : Sca} {st : Sc} (h : ScB S w a st) : RdSc w a st := ⟨h.vs.rd, rdG_of_own encEv.len h.es rfl, h.ml⟩
theorem sc_len {a : Sca} {st : Sc} (h : a.M.map (·.l) = st.vs) : a.M.length = st.vs.length := by rw [← h, List.length_map]
theorem sc_small {a : Sca} {st : Sc} (h : a.M.map (·.l) = st.vs) (ok : st.Ok) : a.M.length ≤ 9 ∧ (∀ x ∈ a.M, x.l.length ≤ 4) ∧ sumV a.M a.M.length ≤ 36 := by
  have h1 : a.M.length ≤ 9 := by rw [sc_len h]; exact ok.n
  have h2 : ∀ x ∈ a.M, x.l.length ≤ 4 := fun x hx => ok.v _ (by rw [← h]; exact List.mem_map.2 ⟨x, hx, rfl⟩)
  refine ⟨h1, h2, ?_⟩
  have : ∀ M : List Vw, (∀ x ∈ M, x.l.length ≤ 4) → (M.map (fun x => x.l.length)).sum ≤ 4 * M.length := by
    intro M
    induction M with
    | nil => intro _; simp
    | cons x r ih =>
      intro h
      have a1 := ih (fun y hy => h y (.tail _ hy))
      have a2 := h x (.head _)
      simp only [List.map_cons, List.sum_cons, List.length_cons]
      omega
  have h3 := this a.M h2
  unfold sumV
  rw [List.take_length]
  omega
theorem specRS_law (s : ByteArray) (w : World) (hs : s.size ≤ 1048576) :
    Calls Tryd.prog 4 #[.string s] w fun e w' => (∃ a : Sca, e = .returned (.tuple #[.slice a.va (scrS s).1.vs.length a.vc, .slice a.ea (scrS s).1.es.length a.ec, .int .i64 (scrS s).2]) ∧ RdSc w' a (scrS s).1) ∧ Below w.heap.size w w' := by
  refine (specReadScript_any s w hs).mono (fun e w' h => ?_)
  obtain ⟨⟨a, h1, h2, h3, h4⟩, hb⟩ := h
  exact ⟨⟨a, by rw [h1, sc_len h2], ⟨h3, h4, h2⟩⟩, hb⟩
theorem implRS_law (s : ByteArray) (w : World) (hs : s.size ≤ 1048576) (ht : Tens w) (hm : MaxL w) :
    Calls Tryd.prog 5 #[.string s] w fun e w' => (∃ a : Sca, e = .returned (.tuple #[.slice a.va (scrS s).1.vs.length a.vc, .slice a.ea (scrS s).1.es.length a.ec, .int .i64 (scrS s).2]) ∧ ScB w.heap.size w' a (scrS s).1) ∧ Below w.heap.size w w' := by
  refine (implReadScript_any s w hs ht hm).mono (fun e w' h => ?_)
  obtain ⟨⟨a, S, h1, h2, h3, h4, h5⟩, hb⟩ := h
  exact ⟨⟨a, by rw [h1, sc_len h2], ⟨hb.size, h3, h2, h4, h5⟩⟩, hb⟩
theorem eqV_law {st : Sc} (ok : st.Ok) (a b : Sca) (w : World) (ha : RdSc w a st) (hb : RdSc w b st) :
    Calls Tryd.prog 6 #[.slice a.va st.vs.length a.vc, .slice b.va st.vs.length b.vc] w fun e w' => e = .returned (.bool true) ∧ Below w.heap.size w w' := by
  obtain ⟨h1, h2, _⟩ := sc_small ha.ml ok
  have h := eqIntSS_same a.va b.va a.M b.M a.vc b.vc w (by omega) (fun x hx => by have := h2 x hx; omega) (ha.ml.trans hb.ml.symm) ha.v hb.v
  rw [sc_len ha.ml] at h
  exact h
theorem eqE_law {st : Sc} (ok : st.Ok) (a b : Sca) (w : World) (ha : RdSc w a st) (hb : RdSc w b st) :
    Calls Tryd.prog 7 #[.slice a.ea st.es.length a.ec, .slice b.ea st.es.length b.ec] w fun e w' => e = .returned (.bool true) ∧ Below w.heap.size w w' :=
  eqEventS_same a.ea b.ea st.es a.ec b.ec w (by have := ok.e; omega) ha.e hb.e
/-- The views bear their marks; the events are as they were. -/
structure MkV1 (S : Nat) (w : World) (a : Sca) (st : Sc) : Prop where
  hS : S ≤ w.heap.size
  ml : a.M.map (·.l) = st.vs
  r : w.ownsRow S 35 1 (.slice a.va a.M.length a.vc) a.M.length (rowG vwC a.M)
  p : ∀ j (h : j < a.M.length), w.ownsRow S 3 1 (.slice a.M[j].a a.M[j].l.length a.M[j].c) a.M[j].l.length (iz (patZ (1 + sumV a.M j) a.M[j].l.length))
  e : w.ownsRow S 40 6 (.slice a.ea st.es.length a.ec) st.es.length (rowG evC st.es)
  ne : ∀ g, (Value.slice a.ea st.es.length a.ec).ownBlock = some g → (Value.slice a.va a.M.length a.vc).ownBlock ≠ some g ∧ ∀ x ∈ a.M, (Value.slice x.a x.l.length x.c).ownBlock ≠ some g
/-- All is marked. -/
structure MkV2 (w : World) (a : Sca) (st : Sc) : Prop where
  ml : a.M.map (·.l) = st.vs
  r : RdG vwC 1 w a.va a.M
  p : ∀ j (h : j < a.M.length), RdZ w a.M[j].a (patZ (1 + sumV a.M j) a.M[j].l.length)
  e : RdG evC 6 w a.ea (patG mEv 6 (1 + sumV a.M a.M.length) st.es.length)
theorem MkV2.later {w w' : World} {a : Sca} {st : Sc} (h : MkV2 w a st) (hb : Below w.heap.size w w') : MkV2 w' a st := ⟨h.ml, h.r.later hb, fun j hj => (h.p j hj).later hb, h.e.later hb⟩
theorem markV_law {st : Sc} (ok : st.Ok) (a : Sca) (S : Nat) (w : World) (h : ScB S w a st) :
    Calls Tryd.prog 8 #[.slice a.va st.vs.length a.vc, .int .i64 1] w fun e w' => e = .returned (.int .i64 ((1 + sumV a.M a.M.length : Nat) : Int)) ∧ MkV1 S w' a st ∧ Below S w w' := by
  obtain ⟨h1, h2, h3⟩ := sc_small h.ml ok
  have c := markIntSS_pat a.va a.M a.vc S w (by omega) (fun x hx => by have := h2 x hx; omega) (by omega) h.hS h.vs
  have e0 : (Value.slice a.va st.vs.length a.vc) = Value.slice a.va a.M.length a.vc := by rw [sc_len h.ml]
  rw [e0]
  refine c.mono (fun e w' hh => ?_)
  obtain ⟨⟨q, hq, he⟩, hp, hr, hb, hf⟩ := hh
  have hsz : w.heap.size ≤ w'.heap.size := by
    by_cases c : w.heap.size ≤ w'.heap.size
    · exact c
    · exfalso
      have := hb.size
      omega
  refine ⟨by rw [he, hq], ⟨Nat.le_trans h.hS hsz, h.ml, ?_, hp, own_blkS h.es hsz (fun g hg => hf g (fun x hx e => (h.ne g hg).2 x hx e) (h.es.lt g hg).2), h.ne⟩, hb⟩
  exact own_blkS h.vs.o hsz (fun g hg => hf g (fun x hx e => h.vs.n x hx g hg e) (h.vs.o.lt g hg).2)
theorem markE_law {st : Sc} (ok : st.Ok) (a : Sca) (S : Nat) (w : World) (h : MkV1 S w a st) :
    Calls Tryd.prog 9 #[.slice a.ea st.es.length a.ec, .int .i64 ((1 + sumV a.M a.M.length : Nat) : Int)] w fun e w' => e = .returned (.int .i64 (((1 + sumV a.M a.M.length : Nat) : Int) + 6 * (st.es.length : Int))) ∧ MkV2 w' a st ∧ Below S w w' := by
  obtain ⟨h1, h2, h3⟩ := sc_small h.ml ok
  have := ok.e
  refine (markEventS_any (.slice a.ea st.es.length a.ec) st.es.length (1 + sumV a.M a.M.length) (rowG evC st.es) S w (by omega) (by omega) (by omega) h.e).mono (fun e w' hh => ?_)
  obtain ⟨he, ho, hg⟩ := hh
  refine ⟨he, ⟨h.ml, rdG_of_own encVw.len (gown hg h.r (fun k hk e => (h.ne k e).1 hk)) rfl, fun j hj => rdZ_of_own (gown hg (h.p j hj) (fun k hk e => (h.ne k e).2 _ (List.getElem_mem hj) hk)), rdG_of_own encEv.len ho (patG_length _ _ _ _)⟩, gbelow hg (fun g hg => (h.e.lt g hg).1) h.hS⟩
theorem heldV_law {st : Sc} (ok : st.Ok) (a : Sca) (w : World) (h : MkV2 w a st) :
    Calls Tryd.prog 10 #[.slice a.va st.vs.length a.vc, .int .i64 1] w fun e w' => e = .returned (.int .i64 ((1 + sumV a.M a.M.length : Nat) : Int)) ∧ w' = w := by
  obtain ⟨h1, h2, h3⟩ := sc_small h.ml ok
  have c := heldIntSS_any a.va a.M a.vc w (by omega) (fun x hx => by have := h2 x hx; omega) (by omega) h.r h.p
  have e0 : (Value.slice a.va st.vs.length a.vc) = Value.slice a.va a.M.length a.vc := by rw [sc_len h.ml]
  rw [e0]
  refine c.mono (fun e w' hh => ?_)
  obtain ⟨⟨q, hq, he⟩, hw⟩ := hh
  exact ⟨by rw [he, hq], hw⟩
theorem heldE_law {st : Sc} (ok : st.Ok) (a : Sca) (w : World) (h : MkV2 w a st) :
    Calls Tryd.prog 11 #[.slice a.ea st.es.length a.ec, .int .i64 ((1 + sumV a.M a.M.length : Nat) : Int)] w fun e w' => e = .returned (.int .i64 (((1 + sumV a.M a.M.length : Nat) : Int) + 6 * (st.es.length : Int))) ∧ Below w.heap.size w w' := by
  obtain ⟨h1, h2, h3⟩ := sc_small h.ml ok
  have := ok.e
  exact heldEventS_any a.ea st.es.length a.ec (1 + sumV a.M a.M.length) w (by omega) (by omega) (by omega) h.e
end Go.Proofs.YtelmchifpgaibaaDoor
