/- A member leads a view: the program's adopt. -/
import Derived.Test.YtpjgplohlchpoaaGreatDoorUAT
import Derived.Test.YtpjgplohlchpoaaGreatDoorUAU
import Derived.Test.YtpjgplohlchpoaaGreatDoorUAV
import Derived.Test.YtpjgplohlchpoaaGreatDoorLocks
import Derived.Conc.MuLone
namespace Go.Proofs.YtpjgplohlchpoaaGreatDoor
open Go.RowKit
open Go.MuLone
set_option linter.unusedVariables false

theorem SeA.own1 {S : Nat} {w : World} {X : Nat} {q : Int} {v : Value} {m : Mb} {A : MA} {b : Option Addr} {c : Nat} {D : List Mv} (h : SeA S w X q v m A b c D) (j : Nat) (u : Value) : OwnMb (w.setCell ⟨X, j, none⟩ u) S m A := by
  have g2 : w.grownBy (w.setCell ⟨X, j, none⟩ u) (some X) := gset (World.grownBy.refl w (some X)) j u
  exact ⟨gown g2 h.mo.wo (fun g hg e => h.mx (.inl (by injection e with e; rw [e]; exact hg))), gown g2 h.mo.io (fun g hg e => h.mx (.inr (.inl (by injection e with e; rw [e]; exact hg)))), gown g2 h.mo.lo (fun g hg e => h.mx (.inr (.inr (by injection e with e; rw [e]; exact hg)))), h.mo.wi, h.mo.wl, h.mo.il⟩
theorem SeA.lock {S : Nat} {w : World} {X : Nat} {q : Int} {v : Value} {m : Mb} {A : MA} {b : Option Addr} {c : Nat} {D : List Mv} (h : SeA S w X q v m A b c D) (q' : Int) :
    SeA S (w.setCell ⟨X, 0, none⟩ (.int .i32 q')) X q' v m A b c D ∧ Below S w (w.setCell ⟨X, 0, none⟩ (.int .i32 q')) := by
  have := h.grow (q' := q') (m' := m) (A' := A) (gset (World.grownBy.refl w (some X)) 0 (.int .i32 q')) (h.bx.setc 0 (.int .i32 q')) (h.own1 0 _) (fun g hg => .inl hg)
  exact ⟨this.1, this.2.belT h.hX h.size⟩
theorem SeA.leads {S : Nat} {w : World} {X : Nat} {q : Int} {v : Value} {m : Mb} {A : MA} {b : Option Addr} {c : Nat} {D : List Mv} (h : SeA S w X q v m A b c D) :
    SeA S ((w.setCell ⟨X, 7, none⟩ (.bool true)).setCell ⟨X, 11, none⟩ (.int .i64 0)) X q v { m with le := true, cn := 0 } A b c D ∧ Below S w ((w.setCell ⟨X, 7, none⟩ (.bool true)).setCell ⟨X, 11, none⟩ (.int .i64 0)) := by
  have h1 := h.grow (q' := q) (m' := { m with le := true }) (A' := A) (gset (World.grownBy.refl w (some X)) 7 (.bool true)) (h.bx.setc 7 (.bool true)) (have t := h.own1 7 (.bool true); ⟨t.wo, t.io, t.lo, t.wi, t.wl, t.il⟩) (fun g hg => .inl hg)
  have h2 := h1.1.grow (q' := q) (m' := { m with le := true, cn := 0 }) (A' := A) (gset (World.grownBy.refl _ (some X)) 11 (.int .i64 0)) (h1.1.bx.setc 11 (.int .i64 0)) (have t := h1.1.own1 11 (.int .i64 0); ⟨t.wo, t.io, t.lo, t.wi, t.wl, t.il⟩) (fun g hg => .inl hg)
  exact ⟨h2.1, (h1.2.belT h.hX h.size).trans (h2.2.belT h.hX h1.1.size)⟩
theorem SeA.enter {S : Nat} {w w' : World} {X : Nat} {q : Int} {v : Value} {m : Mb} {A : MA} {b : Option Addr} {c : Nat} {D : List Mv} (h : SeA S w X q v m A b c D) (e : Int) (hg : w.grownBy w' (some X)) (hb : BlkA w' X 94 (seatA (.int .i32 q) (.int .u32 0) v (entM m e) (entA A) (.slice b D.length c) (.slice none 0 0))) :
    SeA S w' X q v (entM m e) (entA A) b c D ∧ Below S w w' := by
  have := h.grow (q' := q) (m' := entM m e) (A' := entA A) hg hb ⟨World.ownsRow_nil _ _ _ _, gown hg h.mo.io (fun g hg e => h.mx (.inr (.inl (by injection e with e; rw [e]; exact hg)))), World.ownsRow_nil _ _ _ _, (fun g h => by cases h), (fun g h => by cases h), (fun g _ h => by cases h)⟩ (fun g hg => by
    rcases hg with h1 | h1 | h1
    · cases h1
    · exact .inl (.inr (.inl h1))
    · cases h1)
  exact ⟨this.1, this.2.belT h.hX h.size⟩
set_option maxRecDepth 100000 in
set_option maxHeartbeats 4000000 in
theorem adopt_no {S X : Nat} {va : Option Addr} {L : List Vw} {vc : Nat} {m : Mb} {A : MA} {b : Option Addr} {c : Nat} {D : List Mv} (e : Int) (w : World) (h : SeA S w X 0 (.slice va L.length vc) m A b c D) (hno : ¬ adoR m (L.map (·.l)) e)
    (hL : L.length ≤ 1048576) (hs : ∀ x ∈ L, x.l.length ≤ 1048576) (hV : ∀ u, Below S w u → RdVs u va L) (hz : SzMb m) (hzi : ∀ x ∈ m.is, x.k.size ≤ 1048576 ∧ x.v.size ≤ 1048576) :
    Calls Tryz.prog 32 #[.pointer (some ⟨X, 0, none⟩), .int .i64 e] w fun r w' => (∃ k : Int, r = .returned (refA k) ∧ (k = 1 ∨ k = 2)) ∧ Below S w w' := by
  have h0 : w.cell? ⟨X, 0, none⟩ = some (.int .i32 0) := h.bx.cell 0 rfl
  have f0 : w.frozen? ⟨X, 0, none⟩ = false := h.bx.froz 0
  obtain ⟨h1, B1⟩ := h.lock 1
  have H1 := hide1 h1
  have HB1 := hide1 B1
  have CM : Calls Tryz.prog 55 #[.pointer (some ⟨X, 0, none⟩), .int .i64 e] (w.setCell ⟨X, 0, none⟩ (.int .i32 1)) fun r w' => (∃ k : Int, r = .returned (refA k) ∧ (k = 1 ∨ k = 2)) ∧ Below (w.setCell ⟨X, 0, none⟩ (.int .i32 1)).heap.size (w.setCell ⟨X, 0, none⟩ (.int .i32 1)) w' := by
    by_cases cc : okMb m ∧ okViews (L.map (·.l)) ∧ 2 ≤ e ∧ e ≤ (L.length : Int)
    · obtain ⟨c1, c2, c3, c4⟩ := cc
      obtain ⟨k, hk⟩ : ∃ k : Nat, e = (k : Int) + 1 := ⟨(e - 1).toNat, by omega⟩
      subst hk
      have hkL : k < L.length := by omega
      refine (implMayAdopt_yes X _ _ _ _ m A va L vc k (by omega) hkL _ c1 c2 h1.bx hL hs (hV _ B1) hz hzi h1.mo.rd).mono (fun r w' hh => ?_)
      obtain ⟨h2, h3⟩ := hh
      refine ⟨⟨2, ?_, .inr rfl⟩, h3⟩
      rw [h2, if_neg]
      intro hc
      refine hno ⟨c1, c2, ⟨c3, by rw [List.length_map]; exact c4⟩, hc.1, ?_⟩
      rw [← hc.2]
      unfold vwA
      rw [show ((k : Int) + 1 - 1).toNat = k by omega, List.getD_eq_getElem?_getD, List.getElem?_map, List.getElem?_eq_getElem hkL]
      rfl
    · refine (implMayAdopt_no X _ _ _ _ m A va L vc e _ cc h1.bx hL hs (hV _ B1) hz hzi h1.mo.rd).mono (fun r w' hh => ?_)
      exact ⟨⟨1, hh.1, .inl rfl⟩, hh.2⟩
  have C := hide1 CM
  clear CM h1 B1 h hV hs hz hzi hno
  go_enter_defers Tryz.func32, Tryz.ntmps32
  go_wp2_with (first | (go_at_call 53; refine (lock_free Tryz.muLib ⟨X, 0, none⟩ _ h0 f0).mono ?_; rintro r w1 ⟨rfl, hw1⟩; rw [hw1]; clear hw1 w1) | (go_at_call 55; refine C.out.mono ?_; rintro r w2 ⟨⟨k, rfl, hk⟩, hb⟩; have HK := hide1 hk; have HB := hide1 hb; clear hk hb; unfold refA))
  have H2 := H1.out.later HB.out
  obtain ⟨h3, B3⟩ := H2.lock 0
  refine leaves_cons (f := 54) (args := #[.pointer (some ⟨X, 0, none⟩)]) (by simp) (by simp [go_sem]) ?_
  refine (unlock_deferred Tryz.muLib ⟨X, 0, none⟩ .returning _ (H2.bx.cell 0 rfl) (H2.bx.froz 0)).mono ?_
  rintro r u' w3 ⟨rfl, rfl, rfl⟩
  exact ⟨_, results_tmp rfl _ _ _, ⟨k, rfl, HK.out⟩, HB1.out.trans ((HB.out.mono H1.out.size).trans B3)⟩
end Go.Proofs.YtpjgplohlchpoaaGreatDoor
namespace Go.Proofs.YtpjgplohlchpoaaGreatDoor
open Go.RowKit
open Go.MuLone
set_option linter.unusedVariables false

theorem vwA_at {L : List Vw} {k : Nat} (hk : k < L.length) : vwA (L.map (·.l)) ((k : Int) + 1) = L[k].l := by
  unfold vwA
  rw [show ((k : Int) + 1 - 1).toNat = k by omega, List.getD_eq_getElem?_getD, List.getElem?_map, List.getElem?_eq_getElem hk]
  rfl
theorem ledM_ent (m : Mb) (e : Int) : ({ entM m e with le := true, cn := 0 } : Mb) = ledM m e := rfl
set_option maxRecDepth 100000 in
set_option maxHeartbeats 8000000 in
theorem adopt_yes {S X : Nat} {va : Option Addr} {L : List Vw} {vc : Nat} {m : Mb} {A : MA} {b : Option Addr} {c : Nat} {D : List Mv} (e : Int) (w : World) (h : SeA S w X 0 (.slice va L.length vc) m A b c D) (hD : D.length ≤ 100) (ha : adoR m (L.map (·.l)) e)
    (hL : L.length ≤ 1048576) (hs : ∀ x ∈ L, x.l.length ≤ 1048576) (hV : ∀ u, Below S w u → RdVs u va L) (hz : SzMb m) (hzi : ∀ x ∈ m.is, x.k.size ≤ 1048576 ∧ x.v.size ≤ 1048576) :
    Calls Tryz.prog 32 #[.pointer (some ⟨X, 0, none⟩), .int .i64 e] w fun r w' => r = .returned .nilIface ∧ (∃ (b' : Option Addr) (c' : Nat) (E : List Mv) (A' : MA), E.map (·.m) = (adoM m (L.map (·.l)) e).2 ∧ SeA S w' X 0 (.slice va L.length vc) (adoM m (L.map (·.l)) e).1 A' b' c' (D ++ E)) ∧ Below S w w' := by
  obtain ⟨c1, c2, ⟨c3, c4⟩, c5, c6⟩ := ha
  rw [List.length_map] at c4
  obtain ⟨j, hj⟩ : ∃ j : Nat, e = (j : Int) + 1 + 1 := ⟨(e - 2).toNat, by omega⟩
  subst hj
  have j1 : j + 1 < L.length := by omega
  have j0 : j < L.length := by omega
  have v1 : vwA (L.map (·.l)) ((j : Int) + 1 + 1) = L[j + 1].l := by have := vwA_at j1; rw [show (((j + 1 : Nat) : Int) + 1) = (j : Int) + 1 + 1 by omega] at this; exact this
  have v0 : vwA (L.map (·.l)) ((j : Int) + 1 + 1 - 1) = L[j].l := by rw [show (j : Int) + 1 + 1 - 1 = (j : Int) + 1 by omega]; exact vwA_at j0
  rw [v1] at c6
  have ok1 : okView L[j + 1].l := c2.1 _ (List.mem_map_of_mem (List.getElem_mem j1))
  have ok0 : okView L[j].l := c2.1 _ (List.mem_map_of_mem (List.getElem_mem j0))
  have AM := hide1 (show adoM m (L.map (·.l)) ((j : Int) + 1 + 1) = if m.ba = true ∧ m.ep = (j : Int) + 1 ∧ m.id ∈ L[j].l then hasM (ledM m ((j : Int) + 1 + 1)) L[j + 1].l m.is else (ledM m ((j : Int) + 1 + 1), (wthV L[j].l m.id).map (fun v => ⟨1, m.id, v, (j : Int) + 1 + 1, 0, []⟩)) from by
    have hi : hadM m (L.map (·.l)) ((j : Int) + 1 + 1) ↔ (m.ba = true ∧ m.ep = (j : Int) + 1 ∧ m.id ∈ L[j].l) := by
      unfold hadM
      rw [v0, show (j : Int) + 1 + 1 - 1 = (j : Int) + 1 by omega]
    unfold adoM
    by_cases hh : hadM m (L.map (·.l)) ((j : Int) + 1 + 1)
    · rw [if_pos hh, if_pos (hi.1 hh), v1]
    · rw [if_neg hh, if_neg (fun c => hh (hi.2 c)), v0])
  have h0 : w.cell? ⟨X, 0, none⟩ = some (.int .i32 0) := h.bx.cell 0 rfl
  have f0 : w.frozen? ⟨X, 0, none⟩ = false := h.bx.froz 0
  have sX : S ≤ X := h.hX
  obtain ⟨h1, B1⟩ := h.lock 1
  have H1 := hide1 h1
  have HB1 := hide1 B1
  have CM : Calls Tryz.prog 55 #[.pointer (some ⟨X, 0, none⟩), .int .i64 ((j : Int) + 1 + 1)] (w.setCell ⟨X, 0, none⟩ (.int .i32 1)) fun r w' => r = .returned .nilIface ∧ Below (w.setCell ⟨X, 0, none⟩ (.int .i32 1)).heap.size (w.setCell ⟨X, 0, none⟩ (.int .i32 1)) w' := by
    have hh := implMayAdopt_yes X _ _ _ _ m A va L vc (j + 1) (by omega) j1 _ c1 c2 h1.bx hL hs (hV _ B1) hz hzi h1.mo.rd
    rw [show (((j + 1 : Nat) : Int) + 1) = (j : Int) + 1 + 1 by omega, if_pos ⟨c5, c6⟩] at hh
    exact hh
  have C := hide1 CM
  have VV := hide1 hV
  have HZ := hide1 hz
  have HS := hide1 hs
  have wk : IntKind.i64.wrap ((j : Int) + 1 + 1 - 1) = (j : Int) + 1 := by rw [IntKind.wrap_i64]; omega
  clear CM h1 B1 h hV hs hz hzi c1 c2 c3 c4 c5 c6 v0 v1
  go_enter_defers Tryz.func32, Tryz.ntmps32
  go_upto_region 6 with (first | (go_at_call 53; refine (lock_free Tryz.muLib ⟨X, 0, none⟩ _ h0 f0).mono ?_; rintro r w1 ⟨rfl, hw1⟩; rw [hw1]; clear hw1 w1) | (go_at_call 55; refine C.out.mono ?_; rintro r w2 ⟨rfl, hb⟩; have HB := hide1 hb; clear hb))
  have H2 := hide1 (H1.out.later HB.out)
  have B2 := hide1 (HB1.out.trans (HB.out.mono H1.out.size))
  have CW := hide1 (implWasBase_any X _ _ _ _ m A va L vc j j0 w2 H2.out.bx hL HS.out (VV.out _ B2.out))
  obtain ⟨hd, hhd⟩ : ∃ t, t = decide (m.ba = true ∧ m.ep = (j : Int) + 1 ∧ m.id ∈ L[j].l) := ⟨_, rfl⟩
  rw [← hhd] at CW
  have HHD := hide1 hhd
  clear h0 f0 H1 HB1 HB C hhd
  go_upto_region 7 with (go_at_call 56; refine CW.out.mono ?_; rintro r w3 ⟨rfl, hb⟩; have HB := hide1 hb; clear hb)
  have H3 := hide1 (H2.out.later HB.out)
  have B3 := hide1 (B2.out.trans (HB.out.mono H2.out.size))
  have CE := hide1 (implEnter_any X _ _ _ _ _ m A ((j : Int) + 1 + 1) w3 H3.out.bx)
  clear H2 B2 CW HB
  go_upto_region 8 with (go_at_call 57; refine CE.out.mono ?_; rintro r w4 ⟨rfl, hx, hg⟩; have HX := hide1 hx; have HG := hide1 hg; clear hx hg)
  have P4 := H3.out.enter ((j : Int) + 1 + 1) HG.out HX.out
  have H4 := hide1 P4.1
  have B4 := hide1 (B3.out.trans P4.2)
  have P5 := H4.out.leads
  have c7 := H4.out.bx.cell 7 rfl
  have c11 := H4.out.bx.cell 11 rfl
  have f7 := H4.out.bx.froz 7
  have f11 := H4.out.bx.froz 11
  clear P4 H3 B3 CE HX HG
  go_upto_region 9 with fail
  generalize ((w4.setCell ⟨X, 7, none⟩ (.bool true)).setCell ⟨X, 11, none⟩ (.int .i64 0)) = w5 at P5 ⊢
  have H5 := hide1 (show SeA S w5 X 1 (.slice va L.length vc) (ledM m ((j : Int) + 1 + 1)) (entA A) b c D from P5.1)
  have B5 := hide1 (B4.out.trans P5.2)
  clear P5 c7 c11 f7 f11 H4 B4
  cases hd with
  | true =>
    have RES := hide1 (show adoM m (L.map (·.l)) ((j : Int) + 1 + 1) = hasM (ledM m ((j : Int) + 1 + 1)) L[j + 1].l m.is from by rw [AM.out, if_pos (of_decide_eq_true HHD.out.symm)])
    have CH := hide1 (haveState_any (j + 1) j1 A.ia m.is A.ic w5 H5.out (show (j : Int) + 1 + 1 = ((j + 1 : Nat) : Int) + 1 by omega) (by omega) HZ.out.il H5.out.mo.rd.ir hL (fun u hb => VV.out u (B5.out.trans hb)) ok1)
    have c10 : w5.cell? ⟨X, 10, none⟩ = some (.slice A.ia m.is.length A.ic) := H5.out.bx.cell 10 rfl
    go_wp2_with (go_at_call 58; refine CH.out.mono ?_; rintro r w6 ⟨rfl, ⟨b6, c6, E6, A6, hE, h6⟩, hb⟩; have HE := hide1 hE; have H6 := hide1 h6; have B6 := hide1 (B5.out.trans hb); clear hE h6 hb)
    obtain ⟨h7, B7⟩ := H6.out.lock 0
    refine leaves_cons (f := 54) (args := #[.pointer (some ⟨X, 0, none⟩)]) (by simp) (by simp [go_sem]) ?_
    refine (unlock_deferred Tryz.muLib ⟨X, 0, none⟩ .returning _ (H6.out.bx.cell 0 rfl) (H6.out.bx.froz 0)).mono ?_
    rintro r u' w7 ⟨rfl, rfl, rfl⟩
    exact ⟨_, results_tmp rfl _ _ _, rfl, ⟨b6, c6, E6, A6, by rw [RES.out]; exact HE.out, by rw [RES.out]; exact h7⟩, B6.out.trans B7⟩
  | false =>
    have RES := hide1 (show adoM m (L.map (·.l)) ((j : Int) + 1 + 1) = (ledM m ((j : Int) + 1 + 1), (wthV L[j].l m.id).map (fun v => ⟨1, m.id, v, (j : Int) + 1 + 1, 0, []⟩)) from by rw [AM.out, if_neg (of_decide_eq_false HHD.out.symm)])
    have CV := hide1 (implViewOf_any X _ _ _ _ _ _ va L vc j j0 w5 H5.out.bx hL (VV.out _ B5.out))
    have CO := hide1 (implOthers_any X _ _ _ _ _ _ _ L[j].a L[j].l L[j].c w5 H5.out.bx (by have := ok0.1.2; omega) ((VV.out _ B5.out).v _ (List.getElem_mem j0)))
    have vlen : L[j].l.length ≤ 4 := ok0.1.2
    generalize L[j].l = vl at *
    generalize L[j].a = vla at *
    generalize L[j].c = vlc at *
    rw [show (ledM m ((j : Int) + 1 + 1)).id = m.id from rfl] at CO
    have wl : (wthV vl m.id).length ≤ 4 := Nat.le_trans (wth_le _ _) vlen
    obtain ⟨n, hn⟩ : ∃ n, n = (wthV vl m.id).length := ⟨_, rfl⟩
    have HN := hide1 hn
    rw [← hn] at CO wl
    clear hn ok0 ok1 AM
    go_wp2_with (first | (go_at_call 60; refine CV.out.mono ?_; rintro r w6 ⟨rfl, hw6⟩; rw [hw6]; clear hw6 w6) | (go_at_call 59; refine CO.out.mono ?_; rintro r w8 ⟨oa, oc, rfl, ho, hb⟩; have HO := hide1 ho; have HB := hide1 hb; clear ho hb))
    have sw : S ≤ w5.heap.size := H5.out.size
    have H8 := hide1 (H5.out.later HB.out)
    have B8 := hide1 (B5.out.trans (HB.out.mono sw))
    have HO8 := hide1 (show w8.ownsRow S 3 1 (.slice oa n oc) n (iz (wthV vl m.id)) from by rw [HN.out]; exact HO.out.base sw)
    have NO8 := hide1 (fun g (hg : (Value.slice oa n oc).ownBlock = some g) => (show g < w8.heap.size ∧ g ≠ X ∧ ¬ InD b c D g from by
      have hl := HO.out.lt g (by rw [← HN.out]; exact hg)
      exact ⟨hl.2, fun e => by have := H5.out.bx.lt; omega, fun e => by have := (H5.out.tw.lt e).2; omega⟩))
    clear HO HB CV CO H5 B5
    go_loopw [52] (fun iv wr => ∃ (i : Nat) (td : Option Addr) (tc : Nat) (E : List Mv), i ≤ n ∧ iv = .int .i64 (i : Int) ∧ Hid (E.length = i) ∧ Hid (E.map (·.m) = ((wthV vl m.id).take i).map (fun t => (⟨1, m.id, t, (j : Int) + 1 + 1, 0, []⟩ : Ms))) ∧ Hid (SeA S wr X 1 (.slice va L.length vc) (ledM m ((j : Int) + 1 + 1)) (entA A) td tc (D ++ E)) ∧ Hid (wr.ownsRow S 3 1 (.slice oa n oc) n (iz (wthV vl m.id))) ∧ Hid (∀ g, (Value.slice oa n oc).ownBlock = some g → g < wr.heap.size ∧ g ≠ X ∧ ¬ InD td tc (D ++ E) g) ∧ Hid (Below S w wr)) (fun iv _ => n - (intOf iv).toNat)
    case atStart => exact ⟨0, b, c, [], Nat.zero_le _, rfl, hide1 rfl, hide1 rfl, hide1 (by rw [List.append_nil]; exact H8.out), HO8, hide1 (by rw [List.append_nil]; exact NO8.out), B8⟩
    case round =>
      obtain ⟨i, td, tc, E, hi, rfl, HEL, HEM, HSr, HOr, NOr, BSr⟩ := hrel
      by_cases hlt : i < n
      · have k1 : (i : Int) < (n : Int) := by omega
        have k0 : (0 : Int) ≤ (i : Int) := by omega
        have iw : i < (wthV vl m.id).length := by rw [← HN.out]; exact hlt
        obtain ⟨g, o, rfl, hg, hc⟩ := rdZ_of_own HOr.out i iw
        have x0 : wr.cell? ⟨g, o + i, none⟩ = some (.int .i64 (wthV vl m.id)[i]) := hc
        have CT := hide1 (tell_any 1 (wthV vl m.id)[i] 0 none [] 0 wr HSr.out (by rw [List.length_append, HEL.out]; omega) (by simp) (RdG.nil _ _))
        rw [show (ledM m ((j : Int) + 1 + 1)).id = m.id from rfl, show (ledM m ((j : Int) + 1 + 1)).ep = (j : Int) + 1 + 1 from rfl, show ([] : List Im).length = 0 from rfl] at CT
        clear hc
        go_wp2_with (go_at_call 61; refine CT.out.mono ?_; rintro r w9 ⟨rfl, ⟨td2, tc2, y, hy, hS9, hD9⟩, hF9⟩; have HY := hide1 hy; have S9 := hide1 hS9; have D9 := hide1 hD9; have F9 := hide1 hF9; clear hy hS9 hD9 hF9)
        go_roundw
        case rel =>
          have s9 : wr.heap.size ≤ w9.heap.size := F9.out.size
          refine ⟨i + 1, td2, tc2, E ++ [y], by omega, by go_num, hide1 (by rw [List.length_append, HEL.out]; rfl), hide1 ?_, hide1 (by rw [← List.append_assoc]; exact S9.out), hide1 (own_blkT HOr.out s9 (fun g hg => F9.out.block g (NOr.out g hg))), hide1 (fun g hg => ⟨Nat.lt_of_lt_of_le (NOr.out g hg).1 s9, (NOr.out g hg).2.1, fun e => ?_⟩), hide1 (BSr.out.trans (F9.out.belS sX HSr.out.size (fun g hg => (HSr.out.tw.lt hg).1)))⟩
          · rw [List.map_append, HEM.out, List.take_succ_eq_append_getElem iw, List.map_append]
            show _ ++ [y.m] = _
            rw [HY.out]
            rfl
          · rw [← List.append_assoc] at e
            rcases D9.out g e with h1 | h1
            · exact (NOr.out g hg).2.2 h1
            · have := (NOr.out g hg).1; omega
        case measure => simp [intOf] <;> omega
      · obtain rfl : i = n := by omega
        go_wp2
        obtain ⟨h7, B7⟩ := HSr.out.lock 0
        refine leaves_cons (f := 54) (args := #[.pointer (some ⟨X, 0, none⟩)]) (by simp) (by simp [go_sem]) ?_
        refine (unlock_deferred Tryz.muLib ⟨X, 0, none⟩ .returning _ (HSr.out.bx.cell 0 rfl) (HSr.out.bx.froz 0)).mono ?_
        rintro r u' w7 ⟨rfl, rfl, rfl⟩
        exact ⟨_, results_tmp rfl _ _ _, rfl, ⟨td, tc, E, entA A, by rw [RES.out, HEM.out, HN.out, List.take_length], by rw [RES.out]; exact h7⟩, BSr.out.trans B7⟩
end Go.Proofs.YtpjgplohlchpoaaGreatDoor
