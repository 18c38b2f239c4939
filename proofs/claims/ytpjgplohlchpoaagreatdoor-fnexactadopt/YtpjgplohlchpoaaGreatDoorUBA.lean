/- Rows of Msgs (structs that have rows of their own) in the statements' words: copied, sized, compared. -/
import Derived.Test.YtpjgplohlchpoaaGreatDoorUAN
import Derived.Test.YtpjgplohlchpoaaGreatDoorUAZ
import Derived.Test.YtpjgplohlchpoaaGreatDoorUAL
import Derived.Test.YtpjgplohlchpoaaGreatDoorUAY
import Derived.Deep.RegionHeld3
import Derived.Deep.DeepCutAuto
import Derived.Test.YtpjgplohlchpoaaGreatDoorUAO
import Derived.Test.YtpjgplohlchpoaaGreatDoorAdS
import Derived.Test.YtpjgplohlchpoaaGreatDoorUAK
namespace Go.Proofs.YtpjgplohlchpoaaGreatDoor
open Go.ChangeShapes Go.WideShapes Go.ChangeAt Go.RowKit Go.Deep Go.Joins
set_option linter.unusedVariables false

def mvA (x : Mv) : Array Value := #[.int .i64 x.m.k, .int .i64 x.m.f, .int .i64 x.m.o, .int .i64 x.m.e, .int .i64 x.m.n, .slice x.a x.m.is.length x.c]
theorem mvA_C (x : Mv) : (mvA x).toList = mvC x := rfl
theorem oneMv (x : Mv) : (mvA x).all (·.oneCell') = true := by simp [mvA, Value.oneCell']
def RMv (w : World) (x : Mv) : Prop := RdG imC 3 w x.a x.m.is
def ZMv (x : Mv) : Prop := x.m.is.length ≤ 1048576
def LMv (lo : Nat) (x : Mv) : Prop := LoA lo x.a x.m.is.length
def SMv (x : Mv) : Prop := x.m.is.length ≤ maxLen ∧ ∀ s ∈ x.m.is, wfItem s
theorem RMv.later {w w' : World} {x : Mv} (h : RMv w x) (hb : Below w.heap.size w w') : RMv w' x := RdG.later h hb
theorem LMv.mono {lo lo' : Nat} {x : Mv} (h : LMv lo x) (hl : lo' ≤ lo) : LMv lo' x := LoA.mono h hl
theorem RMv.gr {w w' : World} {x : Mv} {g lo : Nat} (h : RMv w x) (hl : LMv lo x) (hg : w.grownBy w' (some g)) (hlo : g < lo) : RMv w' x :=
  RdG.gr h hg (fun b o e hn e2 => by have := hl b o e hn; injection e2 with e2; omega)
theorem eq1Msg (x y : Mv) (w : World) (hm : y.m = x.m) (hz : ZMv x) (hx : RMv w x) (hy : RMv w y) : Calls Tryz.prog 37 #[.agg (mvA x), .agg (mvA y)] w fun e w' => e = .returned (.bool true) ∧ Below w.heap.size w w' := by
  obtain ⟨m, a, ca⟩ := x
  obtain ⟨m2, b, cb⟩ := y
  obtain rfl : m2 = m := hm
  exact eqMsg_same m2.k m2.f m2.o m2.e m2.n m2.is a b ca cb w hz hx hy
theorem sizeIMsg : (Tryz.prog.info? 61).map (·.size) = some 6 := by kernel_rfl
theorem fillMsg (L1 : List Mv) (z s : Mv) (n i : Nat) (hi : i < n) (hL : L1.length = i) : (L1 ++ List.replicate (n - i) z).set i s = (L1 ++ [s]) ++ List.replicate (n - (i + 1)) z := by
  rw [List.set_append_right _ _ (by omega), hL, Nat.sub_self, show n - i = (n - (i + 1)) + 1 by omega, List.replicate_succ, List.set_cons_zero, List.append_assoc]
  rfl
/-- A row of these, read. -/
structure RdMvs (w : World) (a : Option Addr) (l : List Mv) : Prop where
  r : RdG mvC 6 w a l
  e : ∀ x ∈ l, RMv w x
theorem RdMvs.later {w w' : World} {a : Option Addr} {l : List Mv} (h : RdMvs w a l) (hb : Below w.heap.size w w') : RdMvs w' a l := ⟨h.r.later hb, fun x hx => (h.e x hx).later hb⟩
theorem RdMvs.gr {w w' : World} {a : Option Addr} {l : List Mv} {lo g : Nat} (h : RdMvs w a l) (hl : LoA lo a l.length) (he : ∀ y ∈ l, LMv lo y) (hg : w.grownBy w' (some g)) (hlo : g < lo) : RdMvs w' a l := ⟨h.r.gr hg (fun b o e hn e2 => by have := hl b o e hn; injection e2 with e2; omega), fun x hx => (h.e x hx).gr (he x hx) hg hlo⟩
set_option maxRecDepth 100000 in
set_option maxHeartbeats 2000000 in
theorem eqMsgS_same (ao bo : Option Addr) (l l2 : List Mv) (ca cb : Nat) (w : World) (hl : l.length ≤ 1048576) (hz : ∀ x ∈ l, ZMv x) (hm : l2.map (·.m) = l.map (·.m)) (hA : RdMvs w ao l) (hB : RdMvs w bo l2) :
    Calls Tryz.prog 11 #[.slice ao l.length ca, .slice bo l2.length cb] w fun e w' => e = .returned (.bool true) ∧ Below w.heap.size w w' := by
  have e1 : l2.length = l.length := by have := congrArg List.length hm; simpa using this
  have e2 : ∀ i (h : i < l.length) (h2 : i < l2.length), l2[i].m = l[i].m := fun i h h2 => by
    have h3 := congrArg (fun z => z[i]?) hm
    simpa [h, h2] using h3
  have E2 := hide1 e2
  rw [e1]
  have HA := hide1 hA
  have HB := hide1 hB
  have HZ := hide1 hz
  clear hA hB hz hm e2
  have E1 := hide1 e1
  clear e1
  have q0 : ((l.length : Int) != (l.length : Int)) = false := by simp
  go_enter Tryz.func11, Tryz.ntmps11
  go_wp2
  go_loopw [5] (fun iv wr => ∃ i : Nat, i ≤ l.length ∧ iv = .int .i64 (i : Int) ∧ Below w.heap.size w wr) (fun iv _ => l.length - (intOf iv).toNat)
  case atStart => exact ⟨0, by omega, rfl, Below.refl _ _⟩
  case round =>
    obtain ⟨i, hi, rfl, hbel⟩ := hrel
    by_cases hlt : i < l.length
    · have k1 : (i : Int) < (l.length : Int) := by omega
      have hlt2 : i < l2.length := by rw [E1.out]; exact hlt
      obtain ⟨b1, o1, rfl, hb1, h1⟩ := RdG.at encMv HA.out.r i hlt
      obtain ⟨b2, o2, rfl, hb2, h2⟩ := RdG.at encMv HB.out.r i hlt2
      have C1 := hide1 (show CsAt wr b1 (o1 + i * 6) (mvA l[i]) from h1.later hbel hb1)
      have C2 := hide1 (show CsAt wr b2 (o2 + i * 6) (mvA l2[i]) from h2.later hbel hb2)
      have lb1 : b1 < wr.heap.size := Nat.lt_of_lt_of_le hb1 hbel.size
      have lb2 : b2 < wr.heap.size := Nat.lt_of_lt_of_le hb2 hbel.size
      have CE := hide1 (fun w' (h : Below wr.heap.size wr w') => eq1Msg l[i] l2[i] w' (E2.out i hlt hlt2) (HZ.out _ (List.getElem_mem hlt)) (((HA.out.e _ (List.getElem_mem hlt)).later hbel).later h) (((HB.out.e _ (List.getElem_mem hlt2)).later hbel).later h))
      clear h1 h2
      go_upto_region 6 with fail
      refine wp_region_grown (by kernel_rfl) (by kernel_rfl) ?_
      (repeat (first | go_big_quiet_skip | (go_big_quiet_want; first | (refine quiet_loadA 61 _ rfl b1 (o1 + i * 6) rfl (mvA l[i]) (gr_loadX C1.out lb1 Tryz.underlying61 rfl sizeIMsg) ?_; go_simp; go_big_quiet_on) | (refine quiet_loadA 61 _ rfl b2 (o2 + i * 6) rfl (mvA l2[i]) (gr_loadX C2.out lb2 Tryz.underlying61 rfl sizeIMsg) ?_; go_simp; go_big_quiet_on) | (go_big_quiet_op; first | go_big_quiet_on | go_big_quiet_call ((go_at_call 37; exact quiet_grown (CE.out _ (Gr.b _))))))))
      refine wpQuiet_nil ?_
      rintro w1 ⟨m1, rfl⟩
      go_wp2
      go_roundw
      case rel => exact ⟨i + 1, by omega, by go_num, hbel.trans (m1.b.mono hbel.size)⟩
      case measure => simp [intOf]; omega
    · go_wp2
      go_ret
      exact ⟨rfl, hbel⟩
end Go.Proofs.YtpjgplohlchpoaaGreatDoor
namespace Go.Proofs.YtpjgplohlchpoaaGreatDoor
open Go.ChangeShapes Go.WideShapes Go.ChangeAt Go.RowKit
set_option linter.unusedVariables false

set_option maxRecDepth 100000 in
set_option maxHeartbeats 2000000 in
theorem markIntSS_from (k0 : Nat) (hk0 : k0 ≤ 16777216) (a : Option Addr) (M : List Vw) (ca B : Nat) (w : World) (hl : M.length ≤ 1048576) (hs : ∀ x ∈ M, x.l.length ≤ 1048576) (hsum : sumV M M.length ≤ 1048576) (hB : B ≤ w.heap.size) (hO : OwnVs w B a ca M) :
    Calls Tryz.prog 14 #[.slice a M.length ca, .int .i64 (k0 : Int)] w fun e w' => (∃ q : Nat, e = .returned (.int .i64 (q : Int))) ∧ Below B w w' ∧ (∀ g, (∀ x ∈ M, (Value.slice x.a x.l.length x.c).ownBlock ≠ some g) → g < w.heap.size → w'.heap[g]? = w.heap[g]?) := by
  have HS := hide1 hs
  have HD := hide1 (List.pairwise_iff_getElem.1 hO.d)
  have HN := hide1 hO.n
  have HO := hide1 hO
  have MN := hide1 (fun i (h : i < M.length) => (show sumV M i + M[i].l.length ≤ 1048576 by
    have h1 := sumV_next M i h
    have h2 : sumV M (i + 1) ≤ sumV M M.length := by
      unfold sumV
      have e : M.take M.length = M.take (i + 1) ++ M.drop (i + 1) := by rw [List.take_length, List.take_append_drop]
      rw [e, List.map_append, List.sum_append]
      omega
    omega))
  clear hs hO hsum
  go_enter Tryz.func14, Tryz.ntmps14
  go_wp2
  go_loopw [1, 5] (fun kv iv wr => ∃ i k : Nat, i ≤ M.length ∧ iv = .int .i64 (i : Int) ∧ kv = .int .i64 (k : Int) ∧ Hid (k = k0 + sumV M i) ∧ Hid (∀ j (h : j < M.length), ∃ l' : List Int, l'.length = M[j].l.length ∧ OwnK wr B M[j].a M[j].c l') ∧ Hid (RdG vwC 1 wr a M) ∧ Hid (Below B w wr) ∧ Hid (∀ g, (∀ x ∈ M, (Value.slice x.a x.l.length x.c).ownBlock ≠ some g) → g < w.heap.size → wr.heap[g]? = w.heap[g]?)) (fun _ iv _ => M.length - (intOf iv).toNat)
  case atStart => exact ⟨0, k0, Nat.zero_le _, rfl, rfl, hide1 rfl, hide1 (fun j h => ⟨M[j].l, rfl, HO.out.r _ (List.getElem_mem h)⟩), hide1 HO.out.rd.r, hide1 (Below.refl _ _), hide1 (fun g _ _ => rfl)⟩
  case round =>
    obtain ⟨i, k, hi, rfl, rfl, HK, HV, HR, BB, HG⟩ := hrel
    by_cases hlt : i < M.length
    · have k1 : (i : Int) < (M.length : Int) := by omega
      obtain ⟨b, o, hab, hb, hc⟩ := HR.out i hlt
      have x0 : wr.cell? ⟨b, o + i, none⟩ = some (.slice M[i].a M[i].l.length M[i].c) := by have := hc 0 (by omega); rwa [Nat.mul_one, Nat.add_zero] at this
      obtain ⟨l', hl', hO'⟩ := HV.out i hlt
      have CM := hide1 (markIntS_any M[i].a M[i].c k B l' wr (by rw [hl']; exact HS.out _ (List.getElem_mem hlt)) (by have := HK.out; have := MN.out i hlt; omega) hO')
      rw [hl'] at CM
      have hk2 : (k : Int) + (M[i].l.length : Int) = ((k + M[i].l.length : Nat) : Int) := by omega
      rw [hk2] at CM
      obtain ⟨k', hk'⟩ : ∃ z, z = k + M[i].l.length := ⟨_, rfl⟩
      rw [← hk'] at CM
      have HK' := hide1 (show k' = k0 + sumV M (i + 1) by rw [sumV_next M i hlt]; have := HK.out; omega)
      have NX := hide1 (show ∀ w2 : World, w2.ownsRow B 3 1 (.slice M[i].a M[i].l.length M[i].c) M[i].l.length (iz (patZ k M[i].l.length)) → wr.grownBy w2 (Value.slice M[i].a M[i].l.length M[i].c).ownBlock → (∀ j (h : j < M.length), ∃ l' : List Int, l'.length = M[j].l.length ∧ OwnK w2 B M[j].a M[j].c l') ∧ RdG vwC 1 w2 a M ∧ Below B w w2 ∧ (∀ g, (∀ x ∈ M, (Value.slice x.a x.l.length x.c).ownBlock ≠ some g) → g < w.heap.size → w2.heap[g]? = w.heap[g]?) from fun w2 h1 h2 => by
        have hbl : ∀ g, (Value.slice M[i].a M[i].l.length M[i].c).ownBlock = some g → B ≤ g := fun g hg => ((HO.out.r _ (List.getElem_mem hlt)).lt g hg).1
        refine ⟨fun j hj => ?_, fun j hj => ?_, BB.out.trans (gbelow h2 hbl (by have := BB.out.size; omega)), fun g hg hgs => ?_⟩
        · by_cases e : j = i
          · subst e
            refine ⟨patZ k M[j].l.length, patZ_length _ _, ?_⟩
            unfold OwnK
            rw [patZ_length]
            exact h1
          · obtain ⟨l2, e2, o2⟩ := HV.out j hj
            refine ⟨l2, e2, gown h2 o2 (fun g hg e3 => ?_)⟩
            rw [e2] at hg
            by_cases c : j < i
            · exact HD.out j i hj hlt c g hg e3
            · exact HD.out i j hlt hj (by omega) g e3 hg
        · obtain ⟨b', o', e', hb', hc'⟩ := HR.out j hj
          refine ⟨b', o', e', Nat.lt_of_lt_of_le hb' h2.size, fun q hq => ?_⟩
          rw [← hc' q hq]
          refine World.cell?_of_block (h2.block b' hb' (fun e3 => ?_))
          have h5 := HN.out M[i] (List.getElem_mem hlt) b'
          have h6 : (Value.slice a M.length ca).ownBlock = some b' := by
            have ho := HO.out.o
            rcases ho.2 with ⟨hv, h0⟩ | ⟨g, cap, cur, hv, _⟩
            · rw [show M.length = 0 from h0] at hj; omega
            · injection hv with v1 v2 v3
              rw [e'] at v1
              injection v1 with v1
              injection v1 with v1 v4
              rw [e', v1, v4]
              rfl
          exact h5 h6 e3.symm
        · exact (h2.block g (Nat.lt_of_lt_of_le hgs BB.out.size) (fun e3 => hg _ (List.getElem_mem hlt) e3.symm)).trans (HG.out g hg hgs))
      generalize M[i] = s at *
      subst hab
      clear hc hO' hl' hk2 hk'
      go_wp2_with fail
      refine CM.out.mono ?_
      rintro e w2 ⟨rfl, h1, h2⟩
      have N2 := hide1 (NX.out w2 h1 h2)
      clear h1 h2 NX CM x0
      go_wp2
      go_roundw
      case rel => exact ⟨i + 1, k', by omega, by go_num, rfl, HK', hide1 N2.out.1, hide1 N2.out.2.1, hide1 N2.out.2.2.1, hide1 N2.out.2.2.2⟩
      case measure => simp [intOf]; omega
    · go_wp2
      go_ret
      exact ⟨⟨k, rfl⟩, BB.out, HG.out⟩
end Go.Proofs.YtpjgplohlchpoaaGreatDoor
namespace Go.Proofs.YtpjgplohlchpoaaGreatDoor
open Go.RowKit
set_option linter.unusedVariables false

/-- What Adopt answers is small. -/
structure SmA (m : Mb) (ms : List Ms) : Prop where
  wl : m.wa.length ≤ 6
  il : m.is.length ≤ 12
  ll : m.tk.lf.length = 0
  ml : ms.length ≤ 6
  mi : ∀ x ∈ ms, x.is.length ≤ 12
theorem ado_small (m : Mb) (vs : List (List Int)) (e : Int) : SmA (adopt m vs e).1 (adopt m vs e).2.1 := by
  unfold adopt
  split
  · rename_i h
    have h12 : m.is.length ≤ 12 := by obtain ⟨⟨_, _, _, _, _, _, h7, _⟩, _⟩ := h; exact h7.2.2
    obtain ⟨_, hv, ⟨h3, h4⟩, _, _⟩ := h
    have vok : ∀ x : Int, 1 ≤ x → x ≤ vs.length → okView (vwA vs x) := fun x h1 h2 => by
      unfold vwA
      have hlt : (x - 1).toNat < vs.length := by omega
      rw [List.getD_eq_getElem?_getD, List.getElem?_eq_getElem hlt]
      exact hv.1 _ (List.getElem_mem hlt)
    have wle : ∀ x : Int, 1 ≤ x → x ≤ vs.length → (wthV (vwA vs x) m.id).length ≤ 6 := fun x h1 h2 => by
      have := (vok x h1 h2).1.2
      exact Nat.le_trans (wth_le _ _) (by omega)
    unfold adoM
    split
    · refine ⟨Nat.le_trans (List.length_filter_le _ _) (by decide), h12, rfl, ?_, fun x hx => ?_⟩
      · show ((wthV (vwA vs e) m.id).map _).length ≤ 6
        rw [List.length_map]
        exact wle e (by omega) h4
      · obtain ⟨t, _, rfl⟩ := List.mem_map.1 hx
        exact h12
    · refine ⟨by simp [ledM], h12, rfl, ?_, fun x hx => ?_⟩
      · rw [List.length_map]
        exact wle (e - 1) (by omega) (by omega)
      · obtain ⟨t, _, rfl⟩ := List.mem_map.1 hx
        simp
  · exact ⟨by simp [zeroMb], by simp [zeroMb], rfl, by simp, by simp⟩
theorem SmA.sz {m : Mb} {ms : List Ms} (h : SmA m ms) : SzMb m := ⟨by have := h.wl; omega, by have := h.il; omega, by have := h.ll; omega⟩
theorem SmA.mkn {m : Mb} {ms : List Ms} (h : SmA m ms) : mkN m 1 ≤ 43 := by
  unfold mkN
  have := h.wl
  have := h.il
  have := h.ll
  omega
/-- What Adopt answered, as it is read. -/
structure RdA (w : World) (m : Mb) (ms : List Ms) (B : MA) (b : Option Addr) (D : List Mv) : Prop where
  r : RdMb w m B
  d : RdMs w b D
  ml : D.map (·.m) = ms
theorem RdA.later {w w' : World} {m : Mb} {ms : List Ms} {B : MA} {b : Option Addr} {D : List Mv} (h : RdA w m ms B b D) (hb : Below w.heap.size w w') : RdA w' m ms B b D := ⟨h.r.later hb, h.d.later hb, h.ml⟩
/-- What Adopt answered, in memory of its own. -/
structure OwA (S : Nat) (w : World) (m : Mb) (ms : List Ms) (B : MA) (b : Option Addr) (c : Nat) (D : List Mv) : Prop where
  hS : S ≤ w.heap.size
  r : OwnMb w S m B
  d : OwnMs w S b c D
  ml : D.map (·.m) = ms
  md : ∀ g, InM m B g → ¬ InD b c D g
theorem OwA.rd {S c : Nat} {w : World} {m : Mb} {ms : List Ms} {B : MA} {b : Option Addr} {D : List Mv} (h : OwA S w m ms B b c D) : RdA w m ms B b D := ⟨h.r.rd, h.d.rd, h.ml⟩
theorem OwA.off {S c : Nat} {w w' : World} {m : Mb} {ms : List Ms} {B : MA} {b : Option Addr} {D : List Mv} (h : OwA S w m ms B b c D) (hs : w.heap.size ≤ w'.heap.size) (hf : ∀ g, S ≤ g → g < w.heap.size → w'.heap[g]? = w.heap[g]?) : OwA S w' m ms B b c D :=
  ⟨Nat.le_trans h.hS hs, h.r.offM hs (fun g hg => hf g (h.r.ltM hg).1 (h.r.ltM hg).2), h.d.off hs (fun g hg => hf g (h.d.lt hg).1 (h.d.lt hg).2), h.ml, h.md⟩
theorem OwA.later {S c : Nat} {w w' : World} {m : Mb} {ms : List Ms} {B : MA} {b : Option Addr} {D : List Mv} (h : OwA S w m ms B b c D) (hb : Below w.heap.size w w') : OwA S w' m ms B b c D := h.off hb.size (fun g _ hg => hb.block g hg)
theorem len_ml {D : List Mv} {ms : List Ms} (h : D.map (·.m) = ms) : D.length = ms.length := by rw [← h, List.length_map]
theorem is_ml {D : List Mv} {ms : List Ms} {m : Mb} (h : D.map (·.m) = ms) (hs : SmA m ms) : ∀ x ∈ D, x.m.is.length ≤ 12 := fun x hx => hs.mi _ (by rw [← h]; exact List.mem_map.2 ⟨x, hx, rfl⟩)
theorem mkK_small : ∀ (D : List Mv) (q : Nat), (∀ x ∈ D, x.m.is.length ≤ 12) → mkK q D ≤ q + 41 * D.length
  | [], q, _ => by simp [mkK]
  | x :: r, q, h => by
    have h1 := mkK_small r (q + 5 + 3 * x.m.is.length) (fun y hy => h y (.tail _ hy))
    have h2 := h x (.head _)
    rw [mkK, List.length_cons]
    omega
/-- A row whose block bears cells is kept where such blocks are. -/
theorem own_blkB {w w' : World} {B n k : Nat} {e : TypeId} {v : Value} {xs : List Value} (h : w.ownsRow B e k v n xs) (hs : w.heap.size ≤ w'.heap.size) (hb : ∀ g, v.ownBlock = some g → ∀ t cs, BlkA w g t cs → BlkA w' g t cs) : w'.ownsRow B e k v n xs := by
  rcases h.2 with h0 | ⟨g, cap, cur, hv, h1, h2, h3⟩
  · exact ⟨h.1, .inl h0⟩
  · exact ⟨h.1, .inr ⟨g, cap, cur, hv, h1, hb g (by rw [hv]; rfl) e cur h2, h3⟩⟩
theorem OwnMs.offB {w w' : World} {B c : Nat} {b : Option Addr} {D : List Mv} (h : OwnMs w B b c D) (hs : w.heap.size ≤ w'.heap.size) (hf : ∀ g, InD b c D g → ∀ t cs, BlkA w g t cs → BlkA w' g t cs) : OwnMs w' B b c D :=
  ⟨own_blkB h.o hs (fun g hg => hf g (.inl hg)), fun x hx => own_blkB (h.r x hx) hs (fun g hg => hf g (.inr ⟨x, hx, hg⟩)), h.d, h.n⟩
theorem OwnMb.offB {w w' : World} {B : Nat} {m : Mb} {A : MA} (h : OwnMb w B m A) (hs : w.heap.size ≤ w'.heap.size) (hf : ∀ g, InM m A g → ∀ t cs, BlkA w g t cs → BlkA w' g t cs) : OwnMb w' B m A :=
  ⟨own_blkB h.wo hs (fun g hg => hf g (.inl hg)), own_blkB h.io hs (fun g hg => hf g (.inr (.inl hg))), own_blkB h.lo hs (fun g hg => hf g (.inr (.inr hg))), h.wi, h.wl, h.il⟩
theorem OwA.offB {S c : Nat} {w w' : World} {m : Mb} {ms : List Ms} {B : MA} {b : Option Addr} {D : List Mv} (h : OwA S w m ms B b c D) (hs : w.heap.size ≤ w'.heap.size) (hf : ∀ g, S ≤ g → g < w.heap.size → ∀ t cs, BlkA w g t cs → BlkA w' g t cs) : OwA S w' m ms B b c D :=
  ⟨Nat.le_trans h.hS hs, h.r.offB hs (fun g hg => hf g (h.r.ltM hg).1 (h.r.ltM hg).2), h.d.offB hs (fun g hg => hf g (h.d.lt hg).1 (h.d.lt hg).2), h.ml, h.md⟩
theorem OwnVs.offB {w w' : World} {B c : Nat} {b : Option Addr} {M : List Vw} (h : OwnVs w B b c M) (hs : w.heap.size ≤ w'.heap.size) (hf : ∀ g, B ≤ g → g < w.heap.size → ∀ t cs, BlkA w g t cs → BlkA w' g t cs) : OwnVs w' B b c M :=
  ⟨own_blkB h.o hs (fun g hg => hf g (h.o.lt g hg).1 (h.o.lt g hg).2), fun x hx => own_blkB (h.r x hx) hs (fun g hg => hf g ((h.r x hx).lt g hg).1 ((h.r x hx).lt g hg).2), h.d, h.n⟩
theorem RdMs.vs {w : World} {b : Option Addr} {D : List Mv} (h : RdMs w b D) : RdMvs w b D := ⟨h.r, h.i⟩
theorem eqD_law {m m2 : Mb} {ms : List Ms} (hs : SmA m ms) (B B' : MA) (b b' : Option Addr) (c c' : Nat) (D D' : List Mv) (w : World) (h : RdA w m ms B b D) (h' : RdA w m ms B' b' D') :
    Calls Tryz.prog 11 #[.slice b ms.length c, .slice b' ms.length c'] w fun e w' => e = .returned (.bool true) ∧ Below w.heap.size w w' := by
  have hl := hs.ml
  have c0 := eqMsgS_same b b' D D' c c' w (by rw [len_ml h.ml]; omega) (fun x hx => by have := is_ml h.ml hs x hx; unfold ZMv; omega) (h'.ml.trans h.ml.symm) h.d.vs h'.d.vs
  rw [len_ml h.ml, len_ml h'.ml] at c0
  exact c0
/-- The member bears its marks; its messages are as they were. -/
structure MkA1 (S : Nat) (w : World) (m : Mb) (ms : List Ms) (B : MA) (b : Option Addr) (c : Nat) (D : List Mv) : Prop where
  hS : S ≤ w.heap.size
  r : OwnMb w S (mkMb m 1) B
  d : OwnMs w S b c D
  ml : D.map (·.m) = ms
  md : ∀ g, InM m B g → ¬ InD b c D g
/-- All is marked. -/
structure MkA2 (w : World) (m : Mb) (ms : List Ms) (B : MA) (b : Option Addr) (D : List Mv) : Prop where
  r : RdMb w (mkMb m 1) B
  d : RdMs w b (mkMs (mkN m 1) D)
  ml : D.map (·.m) = ms
theorem MkA2.later {w w' : World} {m : Mb} {ms : List Ms} {B : MA} {b : Option Addr} {D : List Mv} (h : MkA2 w m ms B b D) (hb : Below w.heap.size w w') : MkA2 w' m ms B b D := ⟨h.r.later hb, h.d.later hb, h.ml⟩
theorem inM_off {m : Mb} {B : MA} {g : Nat} (h : ¬ InM m B g) : OffMb m B g := ⟨fun e => h (.inl e), fun e => h (.inr (.inl e)), fun e => h (.inr (.inr e))⟩
theorem mkMb_inM {m : Mb} {B : MA} {g q : Nat} (h : InM (mkMb m q) B g) : InM m B g := by
  unfold InM mkMb at *
  dsimp only at h
  rw [patZ_length, patG_length, patZ_length] at h
  exact h
theorem markA1 {m : Mb} {ms : List Ms} (hs : SmA m ms) (S : Nat) (B : MA) (b : Option Addr) (c : Nat) (D : List Mv) (w : World) (h : OwA S w m ms B b c D) :
    Calls Tryz.prog 13 #[.agg (mbA m B), .int .i64 1] w fun r w' => r = .returned (.int .i64 (mkN m 1 : Int)) ∧ MkA1 S w' m ms B b c D ∧ Below S w w' ∧ (∀ g t cs, BlkA w g t cs → ¬ InM m B g → BlkA w' g t cs) := by
  refine (markMb_A m B 1 S w hs.sz (by omega) (by omega) h.hS h.r).mono (fun r w' hh => ?_)
  obtain ⟨h1, h2, h3, h4⟩ := hh
  have h5 : ∀ g t cs, BlkA w g t cs → ¬ InM m B g → BlkA w' g t cs := fun g t cs hb hn => h4 g t cs hb (inM_off hn)
  exact ⟨h1, ⟨Nat.le_trans h.hS h3.size, h2, h.d.offB h3.size (fun g hg t cs hb => h5 g t cs hb (fun e => h.md g e hg)), h.ml, h.md⟩, h3, h5⟩
theorem markA2 {m : Mb} {ms : List Ms} (hs : SmA m ms) (S : Nat) (B : MA) (b : Option Addr) (c : Nat) (D : List Mv) (w : World) (h : MkA1 S w m ms B b c D) :
    Calls Tryz.prog 15 #[.slice b ms.length c, .int .i64 (mkN m 1 : Int)] w fun r w' => r = .returned (.int .i64 (mkK (mkN m 1) D : Int)) ∧ MkA2 w' m ms B b D ∧ Below S w w' ∧ (∀ g, g < w.heap.size → ¬ InD b c D g → w'.heap[g]? = w.heap[g]?) := by
  have hl := hs.ml
  have hi := is_ml h.ml hs
  have hk := hs.mkn
  have hK := mkK_small D (mkN m 1) hi
  have e0 : (Value.slice b ms.length c) = .slice b D.length c := by rw [len_ml h.ml]
  have hDl := len_ml h.ml
  rw [e0]
  refine (markMsgS_any b c D (mkN m 1) S w (by omega) (by unfold mkN; omega) (by omega) (fun x hx => by have := hi x hx; omega) h.hS h.d).mono (fun r w' hh => ?_)
  obtain ⟨h1, h2, h3⟩ := hh
  exact ⟨h1, ⟨(h.r.offM h3.size (fun g hg => h3.block g ⟨(h.r.ltM hg).2, fun e => h.md g (mkMb_inM hg) e⟩)).rd, h2.rd, h.ml⟩, h3.bel (fun k hk => ⟨by have := h.hS; omega, fun e => by have := (h.d.lt e).1; omega⟩), fun g hg hn => h3.block g ⟨hg, hn⟩⟩
theorem heldA1 {m : Mb} {ms : List Ms} (hs : SmA m ms) (B : MA) (b : Option Addr) (D : List Mv) (w : World) (h : MkA2 w m ms B b D) :
    Calls Tryz.prog 16 #[.agg (mbA m B), .int .i64 1] w fun r w' => r = .returned (.int .i64 (mkN m 1 : Int)) ∧ Below w.heap.size w w' :=
  heldMb_A m B 1 w hs.sz (by omega) (by omega) h.r
theorem heldA2 {m : Mb} {ms : List Ms} (hs : SmA m ms) (B : MA) (b : Option Addr) (c : Nat) (D : List Mv) (w : World) (h : MkA2 w m ms B b D) :
    Calls Tryz.prog 17 #[.slice b ms.length c, .int .i64 (mkN m 1 : Int)] w fun r w' => r = .returned (.int .i64 (mkK (mkN m 1) D : Int)) ∧ Below w.heap.size w w' := by
  have hl := hs.ml
  have hi := is_ml h.ml hs
  have hk := hs.mkn
  have hK := mkK_small D (mkN m 1) hi
  have e0 : (Value.slice b ms.length c) = .slice b D.length c := by rw [len_ml h.ml]
  have hDl := len_ml h.ml
  rw [e0]
  exact heldMsgS_any b c D (mkN m 1) w (by omega) (by unfold mkN; omega) (by omega) (fun x hx => by have := hi x hx; omega) h.d
end Go.Proofs.YtpjgplohlchpoaaGreatDoor
