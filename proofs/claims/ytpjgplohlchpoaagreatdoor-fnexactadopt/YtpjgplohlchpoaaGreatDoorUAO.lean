/- Rows of views whose rows are their own: copied, marked; sized with their sum. -/
import Derived.Test.YtpjgplohlchpoaaGreatDoorUAN
import Derived.Test.YtpjgplohlchpoaaGreatDoorUAH
namespace Go.Proofs.YtpjgplohlchpoaaGreatDoor
open Go.ChangeShapes Go.WideShapes Go.ChangeAt Go.RowKit
set_option linter.unusedVariables false

def ApV (x y : Vw) : Prop := ∀ g, (Value.slice x.a x.l.length x.c).ownBlock = some g → (Value.slice y.a y.l.length y.c).ownBlock ≠ some g
/-- Views in memory of their own. -/
structure OwnVs (w : World) (B : Nat) (b : Option Addr) (c : Nat) (M : List Vw) : Prop where
  o : w.ownsRow B 22 1 (.slice b M.length c) M.length (rowG vwC M)
  r : ∀ x ∈ M, OwnK w B x.a x.c x.l
  d : M.Pairwise ApV
  n : ∀ x ∈ M, ∀ g, (Value.slice b M.length c).ownBlock = some g → (Value.slice x.a x.l.length x.c).ownBlock ≠ some g
theorem OwnVs.rd {w : World} {B c : Nat} {b : Option Addr} {M : List Vw} (h : OwnVs w B b c M) : RdVs w b M := ⟨rdG_of_own encVw.len h.o rfl, fun x hx => (h.r x hx).rd, fun x hx => own_leV (h.r x hx)⟩
theorem OwnVs.later {w w' : World} {B c : Nat} {b : Option Addr} {M : List Vw} (h : OwnVs w B b c M) (hb : Below w.heap.size w w') : OwnVs w' B b c M := ⟨own_kept h.o hb, fun x hx => (h.r x hx).later hb, h.d, h.n⟩
theorem OwnVs.base {w : World} {B B' c : Nat} {b : Option Addr} {M : List Vw} (h : OwnVs w B b c M) (hB : B' ≤ B) : OwnVs w B' b c M := ⟨own_base h.o hB, fun x hx => (h.r x hx).base hB, h.d, h.n⟩
def sumV (L : List Vw) (i : Nat) : Nat := ((L.take i).map (fun x => x.l.length)).sum
theorem sumV_next (L : List Vw) (i : Nat) (h : i < L.length) : sumV L (i + 1) = sumV L i + L[i].l.length := by
  unfold sumV
  rw [List.take_succ_eq_append_getElem h, List.map_append, List.sum_append]
  simp
set_option maxRecDepth 100000 in
set_option maxHeartbeats 1000000 in
theorem toIntSS_own (a : Option Addr) (L : List Vw) (ca : Nat) (w : World) (hl : L.length ≤ 1048576) (hs : ∀ x ∈ L, x.l.length ≤ 1048576) (hA : RdVs w a L) :
    Calls Tryz.prog 8 #[.slice a L.length ca] w fun e w' => (∃ (b : Option Addr) (c : Nat) (M : List Vw), e = .returned (.slice b L.length c) ∧ M.map (·.l) = L.map (·.l) ∧ OwnVs w' w.heap.size b c M) ∧ Below w.heap.size w w' := by
  obtain ⟨i0, hi, hz0, hz1, hz2⟩ := info_parts Tryz.infoVw
  have HA := hide1 hA
  have HS := hide1 hs
  clear hA hs
  obtain ⟨n, hn⟩ : ∃ n, L.length = n := ⟨_, rfl⟩
  have HN := hide1 hn
  rw [hn] at hl ⊢
  clear hn
  go_enter Tryz.func8, Tryz.ntmps8
  go_wp2_with (at_make; (refine wpList_make_full _ rfl _ _ 30 rfl w.heap.size 22 i0 (.slice none 0 0) 1 Tryz.underlying30 hi hz0 hz1 _ _ _ _ n rfl rfl rfl rfl (by rw [hz2]; omega) (by unfold maxLen; omega) (Nat.le_refl _) ?_; intro w0 hown0 hg0))
  rw [made_vw] at hown0
  have HO := hide1 hown0
  have G0 := hide1 (show Below w.heap.size w w0 from gbelow hg0 (by intro k hk; cases hk) (Nat.le_refl _))
  have l0 : w.heap.size < w0.heap.size := by
    rcases hown0.2 with ⟨hv, h0⟩ | ⟨g, cap, cur, hv, _, hh, _⟩
    · cases hv
    · injection hv with e1
      injection e1 with e1
      injection e1 with e1
      subst e1
      exact (Array.getElem?_eq_some_iff.1 hh).1
  clear hown0 hg0 hi hz0 hz1 hz2 i0
  obtain ⟨VB, hVB⟩ : ∃ V, V = w.heap.size := ⟨_, rfl⟩
  rw [← hVB] at HO ⊢
  have hVw : w.heap.size ≤ VB := by omega
  have hV0 : VB < w0.heap.size := by omega
  clear hVB
  go_loopw [4] (fun iv wr => ∃ i : Nat, i ≤ n ∧ iv = .int .i64 (i : Int) ∧ ∃ D : List Vw, Hid (D.length = i) ∧ Hid (D.map (·.l) = (L.take i).map (·.l)) ∧ Hid ((∀ x ∈ D, OwnK wr (VB + 1) x.a x.c x.l) ∧ D.Pairwise ApV) ∧ Hid (wr.ownsRow VB 22 1 (.slice (some ⟨VB, 0, none⟩) n n) n (rowG vwC (D ++ List.replicate (n - i) zeroVw))) ∧ Hid (Below w.heap.size w wr) ∧ Hid (VB < wr.heap.size)) (fun iv _ => n - (intOf iv).toNat)
  case atStart => exact ⟨0, Nat.zero_le _, rfl, [], hide1 rfl, hide1 (by simp), hide1 ⟨by simp, List.Pairwise.nil⟩, hide1 (by simpa using HO.out), G0, hide1 hV0⟩
  case round =>
    obtain ⟨i, hi, rfl, D, HD, HM, HV, OW, BB, LV⟩ := hrel
    by_cases hlt : i < n
    · have k1 : (i : Int) < (n : Int) := by omega
      have hlt2 : i < L.length := by rw [HN.out]; exact hlt
      obtain ⟨b, o, hab, hb, hc⟩ := HA.out.r i hlt2
      have x0 : wr.cell? ⟨b, o + i, none⟩ = some (.slice L[i].a L[i].l.length L[i].c) := (BB.out.cell (p := ⟨b, o + i, none⟩) hb).trans (by have := hc 0 (by omega); rwa [Nat.mul_one, Nat.add_zero] at this)
      have hm := List.getElem_mem hlt2
      have CT := hide1 (toIntS_own L[i].a L[i].l L[i].c wr (HS.out _ hm) ((HA.out.v _ hm).later BB.out))
      have TK := hide1 (List.take_succ_eq_append_getElem hlt2)
      generalize L[i] = s at *
      subst hab
      clear hc hm hlt2
      go_wp2_with fail
      refine CT.out.mono ?_
      rintro e w2 ⟨b2, c2, rfl, hO2, hb2⟩
      have o2 := own_kept OW.out hb2
      obtain ⟨u0, y0⟩ := own_some o2 i (by omega)
      have f0 := o2.frozenAt i
      have O2 := hide1 o2
      have N2 := hide1 hO2
      have E2 := hide1 hb2
      clear o2 hO2 hb2 CT x0
      go_wp2
      go_roundw
      case rel =>
        have gV := gset (World.grownBy.refl w2 (some VB)) i (.slice b2 s.l.length c2)
        have hlv : VB < wr.heap.size := LV.out
        refine ⟨i + 1, by omega, by go_num, D ++ [⟨b2, c2, s.l⟩], hide1 (by rw [List.length_append, HD.out]; rfl), hide1 (by rw [List.map_append, TK.out, List.map_append, HM.out]; rfl), hide1 ⟨fun x hx => ?_, ?_⟩, ?_, ?_, ?_⟩
        · rcases List.mem_append.1 hx with hx | hx
          · have h1 := HV.out.1 x hx
            exact gown gV (own_kept h1 E2.out) (fun k hk e => by injection e with e; have := (h1.lt k hk).1; omega)
          · rw [List.mem_singleton] at hx
            subst hx
            exact gown gV (own_base N2.out (by omega)) (fun k hk e => by injection e with e; have := (N2.out.lt k hk).1; omega)
        · rw [List.pairwise_append]
          refine ⟨HV.out.2, List.pairwise_singleton _ _, fun x hx y hy g hg e => ?_⟩
          rw [List.mem_singleton] at hy
          subst hy
          have h1 := ((HV.out.1 x hx).lt g hg).2
          have h2 := (N2.out.lt g e).1
          omega
        · have st := (World.ownsRow.stored O2.out i (.slice b2 s.l.length c2)).1
          have e9 : (rowG vwC (D ++ List.replicate (n - i) zeroVw)).set i (.slice b2 s.l.length c2) = rowG vwC (D ++ [⟨b2, c2, s.l⟩] ++ List.replicate (n - (i + 1)) zeroVw) := by
            rw [← fillV L D ⟨b2, c2, s.l⟩ n i HD.out hlt, row_vw, row_vw, List.map_set]
          rw [e9] at st
          exact hide1 st
        · exact hide1 ((BB.out.trans (E2.out.mono BB.out.size)).setCell (p := ⟨VB, i, none⟩) hVw _)
        · exact hide1 (by rw [World.size_setCell]; have := E2.out.size; omega)
      case measure => simp [intOf]; omega
    · obtain rfl : i = n := by omega
      have k1 : ¬ ((i : Int) < (i : Int)) := by omega
      go_wp2
      go_ret
      have hml := HM.out
      rw [← HN.out, List.take_length] at hml
      have hdl : D.length = i := HD.out
      have ow := OW.out
      rw [Nat.sub_self, List.replicate_zero, List.append_nil] at ow
      refine ⟨⟨some ⟨VB, 0, none⟩, i, rfl, D, hml, ?_, fun x hx => own_base (HV.out.1 x hx) (by omega), HV.out.2, fun x hx g hg e => ?_⟩, BB.out⟩
      · rw [hdl]; exact own_base ow hVw
      · have h1 := ((HV.out.1 x hx).lt g e).1
        rw [hdl] at hg
        have h2 : g = VB := by simpa [Value.ownBlock] using hg.symm
        omega
set_option maxRecDepth 100000 in
set_option maxHeartbeats 1000000 in
theorem szIntSS_sum (a : Option Addr) (L : List Vw) (ca left0 : Nat) (w : World) (hl0 : left0 ≤ 1048576) (hl : L.length ≤ 9223372036854775807) (hS : ∀ x ∈ L, x.l.length ≤ 9223372036854775807) (hA : RdVs w a L) :
    Calls Tryz.prog 5 #[.slice a L.length ca, .int .i64 (left0 : Int)] w fun e w' => (e = .returned (.int .i64 (-1)) ∨ ∃ r : Nat, e = .returned (.int .i64 (r : Int)) ∧ r ≤ left0 ∧ L.length ≤ left0 ∧ (∀ x ∈ L, x.l.length ≤ 1048576) ∧ sumV L L.length ≤ left0) ∧ Below w.heap.size w w' := by
  by_cases c0 : L.length ≤ left0
  · have q0 : decide ((left0 : Int) - (L.length : Int) < 0) = false := by simp; omega
    have HA := hide1 hA
    have HS := hide1 hS
    clear hA hS
    go_enter Tryz.func5, Tryz.ntmps5
    go_wp2
    go_loopw [1, 5] (fun lv iv wr => ∃ i left : Nat, i ≤ L.length ∧ iv = .int .i64 (i : Int) ∧ lv = .int .i64 (left : Int) ∧ left ≤ left0 ∧ Hid ((∀ j (h : j < L.length), j < i → L[j].l.length ≤ 1048576) ∧ left + sumV L i ≤ left0) ∧ Hid (Below w.heap.size w wr)) (fun _ iv _ => L.length - (intOf iv).toNat)
    case atStart => exact ⟨0, left0 - L.length, by omega, rfl, by rw [show ((left0 - L.length : Nat) : Int) = (left0 : Int) - (L.length : Int) by omega], by omega, hide1 ⟨fun j _ h => by omega, by show _ + 0 ≤ _; omega⟩, hide1 (Below.refl _ _)⟩
    case round =>
      obtain ⟨i, left, hi, rfl, rfl, hle, hdone, BB⟩ := hrel
      by_cases hlt : i < L.length
      · have k1 : (i : Int) < (L.length : Int) := by omega
        obtain ⟨b, o, rfl, hb, h1⟩ := HA.out.r i hlt
        have x0 : wr.cell? ⟨b, o + i, none⟩ = some (.slice L[i].a L[i].l.length L[i].c) := (BB.out.cell (p := ⟨b, o + i, none⟩) hb).trans (by have := h1 0 (by omega); rwa [Nat.mul_one, Nat.add_zero] at this)
        have m1 := HS.out _ (List.getElem_mem hlt)
        have cc := hide1 (fun w => szIntS_any L[i].a L[i].l.length L[i].c left w m1 (by omega))
        have NX := hide1 (show L[i].l.length ≤ 1048576 → ∀ j (h : j < L.length), j < i + 1 → L[j].l.length ≤ 1048576 from fun h9 j h hj => by
          by_cases e : j < i
          · exact hdone.out.1 j h e
          · have : j = i := (by omega)
            subst this
            exact h9)
        have SM := hide1 (sumV_next L i hlt)
        generalize L[i] = s at *
        clear h1 m1
        go_wp2_with fail
        refine (cc.out _).mono ?_
        rintro e w2 ⟨hr, rfl⟩
        rcases hr with ⟨rfl, _⟩ | ⟨r, rfl, hr⟩
        · go_wp2
          go_ret
          exact ⟨.inl rfl, BB.out⟩
        · have q : decide ((r : Int) < 0) = false := by simp
          have NX2 := hide1 (And.intro (NX.out (by omega)) (show r + sumV L (i + 1) ≤ left0 by have := SM.out; have := hdone.out.2; omega))
          have hr2 : r ≤ left0 := by omega
          clear hr NX
          go_wp2
          go_roundw
          case rel => exact ⟨i + 1, r, by omega, by go_num, rfl, hr2, NX2, BB⟩
          case measure => simp [intOf]; omega
      · go_wp2
        go_ret
        have h1 := hdone.out.2
        have h2 : i = L.length := by omega
        rw [h2] at h1
        exact ⟨.inr ⟨left, rfl, hle, c0, fun x hx => by obtain ⟨j, hj, rfl⟩ := List.getElem_of_mem hx; exact hdone.out.1 j hj (by omega), by omega⟩, BB.out⟩
  · have q0 : decide ((left0 : Int) - (L.length : Int) < 0) = true := by simp; omega
    clear hA hS
    go_enter Tryz.func5, Tryz.ntmps5
    go_wp2
    go_ret
    exact ⟨.inl rfl, Below.refl _ _⟩
set_option maxRecDepth 100000 in
set_option maxHeartbeats 1000000 in
/-- Views are marked; what is not theirs stays. -/
theorem markIntSS_own (a : Option Addr) (M : List Vw) (ca B : Nat) (w : World) (hl : M.length ≤ 1048576) (hs : ∀ x ∈ M, x.l.length ≤ 1048576) (hsum : sumV M M.length ≤ 1048576) (hB : B ≤ w.heap.size) (hO : OwnVs w B a ca M) :
    Calls Tryz.prog 14 #[.slice a M.length ca, .int .i64 1] w fun e w' => (∃ q : Nat, e = .returned (.int .i64 (q : Int))) ∧ Below B w w' ∧ (∀ g, (∀ x ∈ M, (Value.slice x.a x.l.length x.c).ownBlock ≠ some g) → g < w.heap.size → w'.heap[g]? = w.heap[g]?) := by
  have HS := hide1 hs
  have HD := hide1 (List.pairwise_iff_getElem.1 hO.d)
  have HN := hide1 hO.n
  have HO := hide1 hO
  have MN := hide1 (fun i (h : i < M.length) => (show sumV M i + M[i].l.length ≤ 1048576 by
    have h1 := sumV_next M i h
    have h2 : sumV M (i + 1) ≤ sumV M M.length := by
      unfold sumV
      have e : M.take M.length = M.take (i + 1) ++ M.drop (i + 1) := by rw [List.take_length, List.take_append_drop]
      rw [e, List.map_append, List.sum_append]
      omega
    omega))
  clear hs hO hsum
  go_enter Tryz.func14, Tryz.ntmps14
  go_wp2
  go_loopw [1, 5] (fun kv iv wr => ∃ i k : Nat, i ≤ M.length ∧ iv = .int .i64 (i : Int) ∧ kv = .int .i64 (k : Int) ∧ Hid (k = 1 + sumV M i) ∧ Hid (∀ j (h : j < M.length), ∃ l' : List Int, l'.length = M[j].l.length ∧ OwnK wr B M[j].a M[j].c l') ∧ Hid (RdG vwC 1 wr a M) ∧ Hid (Below B w wr) ∧ Hid (∀ g, (∀ x ∈ M, (Value.slice x.a x.l.length x.c).ownBlock ≠ some g) → g < w.heap.size → wr.heap[g]? = w.heap[g]?)) (fun _ iv _ => M.length - (intOf iv).toNat)
  case atStart => exact ⟨0, 1, Nat.zero_le _, rfl, rfl, hide1 rfl, hide1 (fun j h => ⟨M[j].l, rfl, HO.out.r _ (List.getElem_mem h)⟩), hide1 HO.out.rd.r, hide1 (Below.refl _ _), hide1 (fun g _ _ => rfl)⟩
  case round =>
    obtain ⟨i, k, hi, rfl, rfl, HK, HV, HR, BB, HG⟩ := hrel
    by_cases hlt : i < M.length
    · have k1 : (i : Int) < (M.length : Int) := by omega
      obtain ⟨b, o, hab, hb, hc⟩ := HR.out i hlt
      have x0 : wr.cell? ⟨b, o + i, none⟩ = some (.slice M[i].a M[i].l.length M[i].c) := by have := hc 0 (by omega); rwa [Nat.mul_one, Nat.add_zero] at this
      obtain ⟨l', hl', hO'⟩ := HV.out i hlt
      have CM := hide1 (markIntS_any M[i].a M[i].c k B l' wr (by rw [hl']; exact HS.out _ (List.getElem_mem hlt)) (by have := HK.out; have := MN.out i hlt; omega) hO')
      rw [hl'] at CM
      have hk2 : (k : Int) + (M[i].l.length : Int) = ((k + M[i].l.length : Nat) : Int) := by omega
      rw [hk2] at CM
      obtain ⟨k', hk'⟩ : ∃ z, z = k + M[i].l.length := ⟨_, rfl⟩
      rw [← hk'] at CM
      have HK' := hide1 (show k' = 1 + sumV M (i + 1) by rw [sumV_next M i hlt]; have := HK.out; omega)
      have NX := hide1 (show ∀ w2 : World, w2.ownsRow B 3 1 (.slice M[i].a M[i].l.length M[i].c) M[i].l.length (iz (patZ k M[i].l.length)) → wr.grownBy w2 (Value.slice M[i].a M[i].l.length M[i].c).ownBlock → (∀ j (h : j < M.length), ∃ l' : List Int, l'.length = M[j].l.length ∧ OwnK w2 B M[j].a M[j].c l') ∧ RdG vwC 1 w2 a M ∧ Below B w w2 ∧ (∀ g, (∀ x ∈ M, (Value.slice x.a x.l.length x.c).ownBlock ≠ some g) → g < w.heap.size → w2.heap[g]? = w.heap[g]?) from fun w2 h1 h2 => by
        have hbl : ∀ g, (Value.slice M[i].a M[i].l.length M[i].c).ownBlock = some g → B ≤ g := fun g hg => ((HO.out.r _ (List.getElem_mem hlt)).lt g hg).1
        refine ⟨fun j hj => ?_, fun j hj => ?_, BB.out.trans (gbelow h2 hbl (by have := BB.out.size; omega)), fun g hg hgs => ?_⟩
        · by_cases e : j = i
          · subst e
            refine ⟨patZ k M[j].l.length, patZ_length _ _, ?_⟩
            unfold OwnK
            rw [patZ_length]
            exact h1
          · obtain ⟨l2, e2, o2⟩ := HV.out j hj
            refine ⟨l2, e2, gown h2 o2 (fun g hg e3 => ?_)⟩
            rw [e2] at hg
            by_cases c : j < i
            · exact HD.out j i hj hlt c g hg e3
            · exact HD.out i j hlt hj (by omega) g e3 hg
        · obtain ⟨b', o', e', hb', hc'⟩ := HR.out j hj
          refine ⟨b', o', e', Nat.lt_of_lt_of_le hb' h2.size, fun q hq => ?_⟩
          rw [← hc' q hq]
          refine World.cell?_of_block (h2.block b' hb' (fun e3 => ?_))
          have h5 := HN.out M[i] (List.getElem_mem hlt) b'
          have h6 : (Value.slice a M.length ca).ownBlock = some b' := by
            have ho := HO.out.o
            rcases ho.2 with ⟨hv, h0⟩ | ⟨g, cap, cur, hv, _⟩
            · rw [show M.length = 0 from h0] at hj; omega
            · injection hv with v1 v2 v3
              rw [e'] at v1
              injection v1 with v1
              injection v1 with v1 v4
              rw [e', v1, v4]
              rfl
          exact h5 h6 e3.symm
        · exact (h2.block g (Nat.lt_of_lt_of_le hgs BB.out.size) (fun e3 => hg _ (List.getElem_mem hlt) e3.symm)).trans (HG.out g hg hgs))
      generalize M[i] = s at *
      subst hab
      clear hc hO' hl' hk2 hk'
      go_wp2_with fail
      refine CM.out.mono ?_
      rintro e w2 ⟨rfl, h1, h2⟩
      have N2 := hide1 (NX.out w2 h1 h2)
      clear h1 h2 NX CM x0
      go_wp2
      go_roundw
      case rel => exact ⟨i + 1, k', by omega, by go_num, rfl, HK', hide1 N2.out.1, hide1 N2.out.2.1, hide1 N2.out.2.2.1, hide1 N2.out.2.2.2⟩
      case measure => simp [intOf]; omega
    · go_wp2
      go_ret
      exact ⟨⟨k, rfl⟩, BB.out, HG.out⟩
end Go.Proofs.YtpjgplohlchpoaaGreatDoor
namespace Go.Proofs.YtpjgplohlchpoaaGreatDoor
open Go.ChangeShapes Go.WideShapes Go.ChangeAt Go.RowKit
set_option linter.unusedVariables false

set_option maxRecDepth 100000 in
set_option maxHeartbeats 1000000 in
theorem implClone_any (a : Option Addr) (l : List Int) (ca : Nat) (w : World) (hl : l.length ≤ 1048576) (hA : RdZ w a l) :
    Calls Tryz.prog 64 #[.slice a l.length ca] w fun e w' => ∃ b c, e = .returned (.slice b l.length c) ∧ OwnK w' w.heap.size b c l ∧ Below w.heap.size w w' := by
  cases a with
  | none =>
    have h0 : l = [] := by
      cases l with
      | nil => rfl
      | cons x l => obtain ⟨b, o, h, _⟩ := hA 0 (by simp); cases h
    subst h0
    have ON := hide1 (show OwnK w w.heap.size none 0 [] from World.ownsRow_nil _ _ _ _)
    have qn : ∀ w, (binOp .eql 22 (.slice none 0 ca) (.slice none 0 0)).run Tryz.prog w = .ok (.bool true) w := fun _ => by kernel_rfl
    clear hA
    go_enter Tryz.func64, Tryz.ntmps64
    go_wp2
    go_ret
    exact ⟨none, 0, rfl, ON.out, Below.refl _ _⟩
  | some x =>
    obtain ⟨xb, xo, xr⟩ := x
    have O0 := hide1 (owns_emptyX w 3 1)
    have EL := hide1 ((Below.refl w.heap.size w).alloc (Nat.le_refl _) (.cells #[] 3))
    have RR := hide1 ((hA.later EL.out).g)
    have qn : ∀ w, (binOp .eql 22 (.slice (some ⟨xb, xo, xr⟩) l.length ca) (.slice none 0 0)).run Tryz.prog w = .ok (.bool false) w := fun _ => by kernel_rfl
    have hs : w.heap.size ≤ (w.alloc (.cells #[] 3)).heap.size := EL.out.size
    clear hA
    go_enter Tryz.func64, Tryz.ntmps64
    go_wp2_with (at_builtin; refine wpList_appA encZ rowZ_k rfl _ _ rfl w.heap.size (.slice (some ⟨w.heap.size, 0, none⟩) 0 0) 0 [] rfl O0.out (some ⟨xb, xo, xr⟩) l.length ca l rfl rfl RR.out (by omega) hs ?_; intro b8 c8 w8 ho8 hg8 hp8; have H8 := hide1 ho8; have G8 := hide1 hg8; clear ho8 hg8 hp8)
    go_ret
    have h9 := H8.out
    rw [Nat.zero_add, List.nil_append, row_z] at h9
    exact ⟨b8, c8, rfl, h9, EL.out.trans (gbelow G8.out (fun q hq => by have := (O0.out.lt q hq).1; omega) hs)⟩
end Go.Proofs.YtpjgplohlchpoaaGreatDoor
