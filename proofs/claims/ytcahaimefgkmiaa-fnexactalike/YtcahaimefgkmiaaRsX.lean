/- Rows of Msgs (structs that have rows of their own) in the statements' words: copied, sized, compared. -/
import Derived.Test.YtcahaimefgkmiaaGpM
import Derived.Test.YtcahaimefgkmiaaToM
import Derived.Test.YtcahaimefgkmiaaTB
import Derived.Test.YtcahaimefgkmiaaGrX
import Derived.Deep.RegionHeld3
import Derived.Deep.DeepCutAuto
namespace Go.Proofs.Ytcahaimefgkmiaa
open Go.ChangeShapes Go.WideShapes Go.ChangeAt Go.RowKit Go.Deep Go.Joins
set_option linter.unusedVariables false

def mvA (x : Mv) : Array Value := #[.int .i64 x.m.k, .int .i64 x.m.f, .int .i64 x.m.o, .int .i64 x.m.e, .int .i64 x.m.n, .slice x.a x.m.is.length x.c]
theorem mvA_C (x : Mv) : (mvA x).toList = mvC x := rfl
theorem oneMv (x : Mv) : (mvA x).all (·.oneCell') = true := by simp [mvA, Value.oneCell']
def RMv (w : World) (x : Mv) : Prop := RdG imC 3 w x.a x.m.is
def ZMv (x : Mv) : Prop := x.m.is.length ≤ 1048576
def LMv (lo : Nat) (x : Mv) : Prop := LoA lo x.a x.m.is.length
def SMv (x : Mv) : Prop := x.m.is.length ≤ maxLen ∧ ∀ s ∈ x.m.is, wfItem s
theorem RMv.later {w w' : World} {x : Mv} (h : RMv w x) (hb : Below w.heap.size w w') : RMv w' x := RdG.later h hb
theorem LMv.mono {lo lo' : Nat} {x : Mv} (h : LMv lo x) (hl : lo' ≤ lo) : LMv lo' x := LoA.mono h hl
theorem RMv.gr {w w' : World} {x : Mv} {g lo : Nat} (h : RMv w x) (hl : LMv lo x) (hg : w.grownBy w' (some g)) (hlo : g < lo) : RMv w' x :=
  RdG.gr h hg (fun b o e hn e2 => by have := hl b o e hn; injection e2 with e2; omega)
theorem to1Msg (x : Mv) (w : World) (hz : ZMv x) (hr : RMv w x) : Calls Try.prog 66 #[.agg (mvA x)] w fun e w' => ∃ y : Mv, e = .returned (.agg (mvA y)) ∧ y.m = x.m ∧ RMv w' y ∧ LMv w.heap.size y ∧ Below w.heap.size w w' :=
  (toMsg_any x.m.k x.m.f x.m.o x.m.e x.m.n x.m.is x.a x.c w hz hr).mono (fun e w' h => by
    obtain ⟨⟨b, c, rfl, ho⟩, hb⟩ := h
    exact ⟨⟨x.m, b, c⟩, rfl, rfl, rdG_of_own encIm.len ho rfl, lo_of_own ho, hb⟩)
theorem eq1Msg (x y : Mv) (w : World) (hm : y.m = x.m) (hz : ZMv x) (hx : RMv w x) (hy : RMv w y) : Calls Try.prog 71 #[.agg (mvA x), .agg (mvA y)] w fun e w' => e = .returned (.bool true) ∧ Below w.heap.size w w' := by
  obtain ⟨m, a, ca⟩ := x
  obtain ⟨m2, b, cb⟩ := y
  obtain rfl : m2 = m := hm
  exact eqMsg_same m2.k m2.f m2.o m2.e m2.n m2.is a b ca cb w hz hx hy
theorem sz1Msg (x : Mv) (left : Nat) (w : World) (hl : left ≤ 1048576) (hs : SMv x) (hr : RMv w x) : Calls Try.prog 63 #[.agg (mvA x), .int .i64 (left : Int)] w fun e w' => (e = .returned (.int .i64 (-1)) ∨ ∃ q : Nat, e = .returned (.int .i64 (q : Int)) ∧ q ≤ left ∧ ZMv x) ∧ Below w.heap.size w w' :=
  (szMsg_any x.m.k x.m.f x.m.o x.m.e x.m.n x.m.is x.a x.c left w hl (by have := hs.1; unfold maxLen at this; omega) hr (fun i h => by obtain ⟨h1, h2, _⟩ := hs.2 _ (List.getElem_mem h); unfold maxLen at h1 h2; omega)).mono (fun e w' h => ⟨h.1.imp id (fun ⟨q, h1, h2, h3, _⟩ => ⟨q, h1, h2, Nat.le_trans h3 hl⟩), h.2⟩)
theorem sizeLMsg : (Try.prog.info? 99).map (·.size) = some 6 := by kernel_rfl
theorem sizeIMsg : (Try.prog.info? 103).map (·.size) = some 6 := by kernel_rfl
theorem fillMsg (L1 : List Mv) (z s : Mv) (n i : Nat) (hi : i < n) (hL : L1.length = i) : (L1 ++ List.replicate (n - i) z).set i s = (L1 ++ [s]) ++ List.replicate (n - (i + 1)) z := by
  rw [List.set_append_right _ _ (by omega), hL, Nat.sub_self, show n - i = (n - (i + 1)) + 1 by omega, List.replicate_succ, List.set_cons_zero, List.append_assoc]
  rfl
/-- A row of these, read. -/
structure RdMvs (w : World) (a : Option Addr) (l : List Mv) : Prop where
  r : RdG mvC 6 w a l
  e : ∀ x ∈ l, RMv w x
theorem RdMvs.later {w w' : World} {a : Option Addr} {l : List Mv} (h : RdMvs w a l) (hb : Below w.heap.size w w') : RdMvs w' a l := ⟨h.r.later hb, fun x hx => (h.e x hx).later hb⟩
theorem RdMvs.gr {w w' : World} {a : Option Addr} {l : List Mv} {lo g : Nat} (h : RdMvs w a l) (hl : LoA lo a l.length) (he : ∀ y ∈ l, LMv lo y) (hg : w.grownBy w' (some g)) (hlo : g < lo) : RdMvs w' a l := ⟨h.r.gr hg (fun b o e hn e2 => by have := hl b o e hn; injection e2 with e2; omega), fun x hx => (h.e x hx).gr (he x hx) hg hlo⟩
set_option maxRecDepth 100000 in
set_option maxHeartbeats 2000000 in
theorem toMsgS_any (ao : Option Addr) (l : List Mv) (ca : Nat) (w : World) (hl : l.length ≤ 1048576) (hz : ∀ x ∈ l, ZMv x) (hA : RdMvs w ao l) :
    Calls Try.prog 42 #[.slice ao l.length ca] w fun e w' => ∃ b c l', e = .returned (.slice b l'.length c) ∧ l'.map (·.m) = l.map (·.m) ∧ RdMvs w' b l' ∧ (LoA w.heap.size b l'.length ∧ ∀ y ∈ l', LMv w.heap.size y) ∧ Below w.heap.size w w' := by
  obtain ⟨i0, hi, hz0, hz1, hz2⟩ := info_parts Try.infoMv
  have HA := hide1 hA
  have HZ := hide1 hz
  clear hA hz
  go_enter Try.func42, Try.ntmps42
  go_wp2_with (at_make; (refine wpList_make_full _ rfl _ _ 44 rfl w.heap.size 103 i0 (.agg #[.int .i64 0, .int .i64 0, .int .i64 0, .int .i64 0, .int .i64 0, .slice none 0 0]) 6 Try.underlying44 hi hz0 hz1 _ _ _ _ l.length rfl rfl rfl rfl (by rw [hz2]; omega) (by unfold maxLen; omega) (Nat.le_refl _) ?_; intro w0 hown0 hg0))
  rw [show (madeCells ((.agg #[.int .i64 0, .int .i64 0, .int .i64 0, .int .i64 0, .int .i64 0, .slice none 0 0]) : Value).cells (l.length * 6)).toList = rowG mvC (List.replicate l.length (⟨⟨0, 0, 0, 0, 0, []⟩, none, 0⟩ : Mv)) from madeG encMv (by decide) (⟨⟨0, 0, 0, 0, 0, []⟩, none, 0⟩ : Mv) l.length] at hown0
  have HO := hide1 hown0
  clear hown0
  go_loopw [4] (fun iv wr => ∃ (i : Nat) (L1 : List Mv), i ≤ l.length ∧ iv = .int .i64 (i : Int) ∧ Hid (L1.length = i ∧ L1.map (·.m) = (l.take i).map (·.m) ∧ ∀ y ∈ L1, RMv wr y ∧ LMv (w.heap.size + 1) y) ∧ Hid (wr.ownsRow w.heap.size 103 6 (.slice (some ⟨w.heap.size, 0, none⟩) l.length l.length) l.length (rowG mvC (L1 ++ List.replicate (l.length - i) (⟨⟨0, 0, 0, 0, 0, []⟩, none, 0⟩ : Mv)))) ∧ Below w.heap.size w wr) (fun iv _ => l.length - (intOf iv).toNat)
  case atStart => exact ⟨0, [], by omega, rfl, ⟨rfl, rfl, fun y hy => by simp at hy⟩, hide1 (by simpa using HO.out), Below.grown (Below.refl _ _) hg0 (Nat.le_refl _) (by intro k hk; cases hk)⟩
  case round =>
    obtain ⟨i, L1, hi1, rfl, hL, hown, hbel⟩ := hrel
    by_cases hlt : i < l.length
    · have k1 : (i : Int) < (l.length : Int) := by omega
      obtain ⟨b, o, rfl, hb, h1⟩ := RdG.at encMv HA.out.r i hlt
      have C1 := hide1 (show CsAt wr b (o + i * 6) (mvA l[i]) from h1.later hbel hb)
      have CT := hide1 (to1Msg l[i] wr (HZ.out _ (List.getElem_mem hlt)) ((HA.out.e _ (List.getElem_mem hlt)).later hbel))
      have HB := hide1 hbel
      have hws : w.heap.size + 1 ≤ wr.heap.size := (hown.out.lt w.heap.size rfl).2
      clear h1 hbel
      go_wp2_with (refine wpList_load_at rfl 99 _ rfl b (o + i * 6) rfl (mvA l[i]) _ C1.out Try.underlying99 rfl sizeLMsg ?_)
      refine CT.out.mono ?_
      rintro e w2 ⟨y, rfl, hym, hyr, hyl, hb2⟩
      have O2 := hide1 (own_kept hown.out hb2)
      have WW : WrAt w2 w.heap.size (i * 6) (mvA y).size := wr_of_own O2.out (i * 6) 6 (by have := Nat.mul_le_mul_right 6 (Nat.succ_le_of_lt hlt); rw [Nat.succ_mul] at this; exact this)
      have HB2 := hide1 (HB.out.trans (hb2.mono HB.out.size))
      have g0 : w2.grownBy w2 (some w.heap.size) := gnew (Below.refl _ _)
      have G3 := hide1 (show w2.grownBy (putG w2 w.heap.size (i * 6) (mvA y).toList) (some w.heap.size) from grown_putG (mvA y).toList (i * 6) g0)
      have L3 := hide1 (show ∀ z ∈ L1 ++ [y], RMv (putG w2 w.heap.size (i * 6) (mvA y).toList) z ∧ LMv (w.heap.size + 1) z from fun z hz => by
        rcases List.mem_append.1 hz with h | h
        · exact ⟨((hL.out.2.2 z h).1.later hb2).gr (hL.out.2.2 z h).2 G3.out (by omega), (hL.out.2.2 z h).2⟩
        · rw [List.mem_singleton.1 h]
          exact ⟨hyr.gr (hyl.mono hws) G3.out (by omega), hyl.mono hws⟩)
      have O3 := hide1 (show (putG w2 w.heap.size (i * 6) (mvA y).toList).ownsRow w.heap.size 103 6 (.slice (some ⟨w.heap.size, 0, none⟩) l.length l.length) l.length (rowG mvC ((L1 ++ [y]) ++ List.replicate (l.length - (i + 1)) (⟨⟨0, 0, 0, 0, 0, []⟩, none, 0⟩ : Mv))) from by
        have hr := rowG_set mvC 6 encMv.len (L1 ++ List.replicate (l.length - i) (⟨⟨0, 0, 0, 0, 0, []⟩, none, 0⟩ : Mv)) i y (by simp [hL.out.1]; omega)
        rw [fillMsg L1 (⟨⟨0, 0, 0, 0, 0, []⟩, none, 0⟩ : Mv) y l.length i hlt hL.out.1] at hr
        rw [hr]
        exact own_putG (mvC y) (i * 6) O2.out)
      have B3 := hide1 (show Below w.heap.size w (putG w2 w.heap.size (i * 6) (mvA y).toList) from below_putG _ _ HB2.out (Nat.le_refl _))
      have M3 := hide1 (show (L1 ++ [y]).map (·.m) = (l.take (i + 1)).map (·.m) from by
        rw [List.map_append, hL.out.2.1, List.take_succ_eq_append_getElem hlt, List.map_append]
        simp [hym])
      have N3 := hide1 (show (L1 ++ [y]).length = i + 1 from by simp [hL.out.1])
      clear g0 G3 HB2 O2 hym hyr hyl hb2 CT C1 HB hws
      go_wp2_with (refine wpList_store_at rfl 103 _ _ rfl w.heap.size (i * 6) (mvA y) rfl rfl WW sizeIMsg (oneMv y) ?_; generalize putG w2 w.heap.size (i * 6) (mvA y).toList = w3 at L3 O3 B3 ⊢)
      go_roundw
      case rel => exact ⟨i + 1, L1 ++ [y], by omega, by go_num, hide1 ⟨N3.out, M3.out, L3.out⟩, O3, B3.out⟩
      case measure => simp [intOf]; omega
    · obtain rfl : i = l.length := by omega
      have H1 := hide1 hL.out.1
      have O1 := hide1 (show wr.ownsRow w.heap.size 103 6 (.slice (some ⟨w.heap.size, 0, none⟩) l.length l.length) l.length (rowG mvC L1) from by simpa using hown.out)
      go_wp2
      go_ret
      exact ⟨some ⟨w.heap.size, 0, none⟩, l.length, L1, by rw [H1.out]; rfl, by have := hL.out.2.1; simpa using this, ⟨rdG_of_own encMv.len O1.out H1.out, fun x hx => (hL.out.2.2 x hx).1⟩, ⟨fun q o e _ => by injection e with e; injection e with e _; omega, fun y hy => (hL.out.2.2 y hy).2.mono (by omega)⟩, hbel⟩
set_option maxRecDepth 100000 in
set_option maxHeartbeats 2000000 in
theorem szMsgS_any (ao : Option Addr) (l : List Mv) (ca left0 : Nat) (w : World) (hl0 : left0 ≤ 1048576) (hl : l.length ≤ 9223372036854775807) (hs : ∀ x ∈ l, SMv x) (hA : RdMvs w ao l) :
    Calls Try.prog 39 #[.slice ao l.length ca, .int .i64 (left0 : Int)] w fun e w' => (e = .returned (.int .i64 (-1)) ∨ ∃ r : Nat, e = .returned (.int .i64 (r : Int)) ∧ r ≤ left0 ∧ l.length ≤ left0 ∧ ∀ x ∈ l, ZMv x) ∧ Below w.heap.size w w' := by
  by_cases c0 : l.length ≤ left0
  · have q0 : decide ((left0 : Int) - (l.length : Int) < 0) = false := by simp; omega
    have HA := hide1 hA
    have HS := hide1 hs
    clear hA hs
    go_enter Try.func39, Try.ntmps39
    go_wp2
    go_loopw [1, 5] (fun lv iv wr => ∃ i left : Nat, i ≤ l.length ∧ iv = .int .i64 (i : Int) ∧ lv = .int .i64 (left : Int) ∧ left ≤ left0 ∧ Hid (∀ j (h : j < l.length), j < i → ZMv l[j]) ∧ Below w.heap.size w wr) (fun _ iv _ => l.length - (intOf iv).toNat)
    case atStart => exact ⟨0, left0 - l.length, by omega, rfl, by rw [show ((left0 - l.length : Nat) : Int) = (left0 : Int) - (l.length : Int) by omega], by omega, fun j _ h => by omega, Below.refl _ _⟩
    case round =>
      obtain ⟨i, left, hi, rfl, rfl, hle, hdone, hbel⟩ := hrel
      by_cases hlt : i < l.length
      · have k1 : (i : Int) < (l.length : Int) := by omega
        obtain ⟨b, o, rfl, hb, h1⟩ := RdG.at encMv HA.out.r i hlt
        have C1 := hide1 (show CsAt wr b (o + i * 6) (mvA l[i]) from h1.later hbel hb)
        have CT := hide1 (sz1Msg l[i] left wr (by omega) (HS.out _ (List.getElem_mem hlt)) ((HA.out.e _ (List.getElem_mem hlt)).later hbel))
        have HB := hide1 hbel
        clear h1 hbel
        go_wp2_with (refine wpList_load_at rfl 99 _ rfl b (o + i * 6) rfl (mvA l[i]) _ C1.out Try.underlying99 rfl sizeLMsg ?_)
        refine CT.out.mono ?_
        rintro e w2 ⟨hr, hb2⟩
        have B2 := hide1 (HB.out.trans (hb2.mono HB.out.size))
        clear hb2 CT
        rcases hr with rfl | ⟨r, rfl, hr, hr3⟩
        · go_wp2
          go_ret
          exact ⟨.inl rfl, B2.out⟩
        · have q : decide ((r : Int) < 0) = false := by simp
          have hr2 : r ≤ left0 := by omega
          have HR := hide1 hr3
          clear hr hr3
          go_wp2
          go_roundw
          case rel => exact ⟨i + 1, r, by omega, by go_num, rfl, hr2, hide1 (fun j h hj => by
            by_cases e : j < i
            · exact hdone.out j h e
            · obtain rfl : j = i := by omega
              exact HR.out), B2.out⟩
          case measure => simp [intOf]; omega
      · go_wp2
        go_ret
        exact ⟨.inr ⟨left, rfl, hle, c0, fun x hx => by obtain ⟨j, hj, rfl⟩ := List.getElem_of_mem hx; exact hdone.out j hj (by omega)⟩, hbel⟩
  · have q0 : decide ((left0 : Int) - (l.length : Int) < 0) = true := by simp; omega
    clear hA hs
    go_enter Try.func39, Try.ntmps39
    go_wp2
    go_ret
    exact ⟨.inl rfl, Below.refl _ _⟩
set_option maxRecDepth 100000 in
set_option maxHeartbeats 2000000 in
theorem eqMsgS_same (ao bo : Option Addr) (l l2 : List Mv) (ca cb : Nat) (w : World) (hl : l.length ≤ 1048576) (hz : ∀ x ∈ l, ZMv x) (hm : l2.map (·.m) = l.map (·.m)) (hA : RdMvs w ao l) (hB : RdMvs w bo l2) :
    Calls Try.prog 49 #[.slice ao l.length ca, .slice bo l2.length cb] w fun e w' => e = .returned (.bool true) ∧ Below w.heap.size w w' := by
  have e1 : l2.length = l.length := by have := congrArg List.length hm; simpa using this
  have e2 : ∀ i (h : i < l.length) (h2 : i < l2.length), l2[i].m = l[i].m := fun i h h2 => by
    have h3 := congrArg (fun z => z[i]?) hm
    simpa [h, h2] using h3
  have E2 := hide1 e2
  rw [e1]
  have HA := hide1 hA
  have HB := hide1 hB
  have HZ := hide1 hz
  clear hA hB hz hm e2
  have E1 := hide1 e1
  clear e1
  have q0 : ((l.length : Int) != (l.length : Int)) = false := by simp
  go_enter Try.func49, Try.ntmps49
  go_wp2
  go_loopw [5] (fun iv wr => ∃ i : Nat, i ≤ l.length ∧ iv = .int .i64 (i : Int) ∧ Below w.heap.size w wr) (fun iv _ => l.length - (intOf iv).toNat)
  case atStart => exact ⟨0, by omega, rfl, Below.refl _ _⟩
  case round =>
    obtain ⟨i, hi, rfl, hbel⟩ := hrel
    by_cases hlt : i < l.length
    · have k1 : (i : Int) < (l.length : Int) := by omega
      have hlt2 : i < l2.length := by rw [E1.out]; exact hlt
      obtain ⟨b1, o1, rfl, hb1, h1⟩ := RdG.at encMv HA.out.r i hlt
      obtain ⟨b2, o2, rfl, hb2, h2⟩ := RdG.at encMv HB.out.r i hlt2
      have C1 := hide1 (show CsAt wr b1 (o1 + i * 6) (mvA l[i]) from h1.later hbel hb1)
      have C2 := hide1 (show CsAt wr b2 (o2 + i * 6) (mvA l2[i]) from h2.later hbel hb2)
      have lb1 : b1 < wr.heap.size := Nat.lt_of_lt_of_le hb1 hbel.size
      have lb2 : b2 < wr.heap.size := Nat.lt_of_lt_of_le hb2 hbel.size
      have CE := hide1 (fun w' (h : Below wr.heap.size wr w') => eq1Msg l[i] l2[i] w' (E2.out i hlt hlt2) (HZ.out _ (List.getElem_mem hlt)) (((HA.out.e _ (List.getElem_mem hlt)).later hbel).later h) (((HB.out.e _ (List.getElem_mem hlt2)).later hbel).later h))
      clear h1 h2
      go_upto_region 6 with fail
      refine wp_region_grown (by kernel_rfl) (by kernel_rfl) ?_
      (repeat (first | go_big_quiet_skip | (go_big_quiet_want; first | (refine quiet_loadA 103 _ rfl b1 (o1 + i * 6) rfl (mvA l[i]) (gr_loadX C1.out lb1 Try.underlying103 rfl sizeIMsg) ?_; go_simp; go_big_quiet_on) | (refine quiet_loadA 103 _ rfl b2 (o2 + i * 6) rfl (mvA l2[i]) (gr_loadX C2.out lb2 Try.underlying103 rfl sizeIMsg) ?_; go_simp; go_big_quiet_on) | (go_big_quiet_op; first | go_big_quiet_on | go_big_quiet_call ((go_at_call 71; exact quiet_grown (CE.out _ (Gr.b _))))))))
      refine wpQuiet_nil ?_
      rintro w1 ⟨m1, rfl⟩
      go_wp2
      go_roundw
      case rel => exact ⟨i + 1, by omega, by go_num, hbel.trans (m1.b.mono hbel.size)⟩
      case measure => simp [intOf]; omega
    · go_wp2
      go_ret
      exact ⟨rfl, hbel⟩
end Go.Proofs.Ytcahaimefgkmiaa
