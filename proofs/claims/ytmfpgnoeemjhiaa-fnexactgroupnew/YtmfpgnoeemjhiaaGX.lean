/- The model's l15CopyViews and GroupNew. -/
import Derived.Test.YtmfpgnoeemjhiaaGpM
import Derived.Test.YtmfpgnoeemjhiaaMbN
import Derived.Test.YtmfpgnoeemjhiaaCpE
import Derived.Test.YtmfpgnoeemjhiaaVX
import Derived.Test.YtmfpgnoeemjhiaaViI
import Derived.Laws.MakeOwn
import Derived.Test.YtmfpgnoeemjhiaaMX
namespace Go.Proofs.Ytmfpgnoeemjhiaa
open Go.RowKit
set_option linter.unusedVariables false

set_option maxRecDepth 100000 in
set_option maxHeartbeats 2000000 in
theorem specCopyVs_any (a : Option Addr) (L : List Vw) (ca : Nat) (w : World) (hl : L.length ≤ 1048576) (hs : ∀ x ∈ L, x.l.length ≤ 1048576) (hA : RdVs w a L) :
    Calls Try.prog 23 #[.slice a L.length ca] w fun e w' => (∃ (b : Option Addr) (c : Nat) (M : List Vw), e = .returned (.slice b L.length c) ∧ M.map (·.l) = L.map (·.l) ∧ RdVs w' b M ∧ LoVs w.heap.size b M) ∧ Below w.heap.size w w' := by
  have HA := hide1 hA
  have HS := hide1 hs
  clear hA hs
  obtain ⟨n, hn⟩ : ∃ n, L.length = n := ⟨_, rfl⟩
  have HN := hide1 hn
  rw [hn] at hl ⊢
  clear hn
  have O0 := hide1 (owns_emptyX w 48 1)
  have B0 := hide1 ((Below.refl w.heap.size w).alloc (Nat.le_refl _) (.cells #[] 48))
  go_enter Try.func23, Try.ntmps23
  go_wp2
  generalize (w.alloc (.cells #[] 48)) = u at O0 B0 ⊢
  go_loopw [3, 4] (fun ov iv wr => ∃ (i : Nat) (b : Option Addr) (c : Nat) (D : List Vw), i ≤ n ∧ iv = .int .i64 (i : Int) ∧ ov = .slice b i c ∧ Hid (D.length = i) ∧ Hid (D.map (·.l) = (L.take i).map (·.l)) ∧ Hid (wr.ownsRow w.heap.size 48 1 (.slice b i c) i (rowG vwC D)) ∧ Hid (∀ x ∈ D, RdZ wr x.a x.l ∧ x.l.length ≤ x.c ∧ ∀ q o, x.a = some ⟨q, o, none⟩ → 0 < x.l.length → (Value.slice b i c).ownBlock ≠ some q ∧ w.heap.size ≤ q) ∧ Hid (Below w.heap.size w wr)) (fun _ iv _ => n - (intOf iv).toNat)
  case atStart => exact ⟨0, _, _, [], Nat.zero_le _, rfl, rfl, hide1 rfl, hide1 (by simp), O0, hide1 (by simp), B0⟩
  case round =>
    obtain ⟨i, b, c, D, hi, rfl, rfl, HD, HM, OW, VR, BB⟩ := hrel
    by_cases hlt : i < n
    · have k1 : (i : Int) < (n : Int) := by omega
      have hlt2 : i < L.length := by rw [HN.out]; exact hlt
      obtain ⟨b1, o1, hab, hb1, hc1⟩ := HA.out.r i hlt2
      have x0 : wr.cell? ⟨b1, o1 + i, none⟩ = some (.slice L[i].a L[i].l.length L[i].c) := (BB.out.cell (p := ⟨b1, o1 + i, none⟩) hb1).trans (by have := hc1 0 (by omega); rwa [Nat.mul_one, Nat.add_zero] at this)
      have hm := List.getElem_mem hlt2
      have RZ := hide1 (((HA.out.v _ hm).later BB.out).g)
      have ls : L[i].l.length ≤ 1048576 := HS.out _ hm
      have TK := hide1 (List.take_succ_eq_append_getElem hlt2)
      generalize L[i] = s at *
      subst hab
      have sw : w.heap.size ≤ wr.heap.size := BB.out.size
      have EL := hide1 ((Below.refl wr.heap.size wr).alloc (Nat.le_refl _) (.cells #[] 3))
      have RZ2 := hide1 (RZ.out.later EL.out)
      have x1 : (wr.alloc (.cells #[] 3)).cell? ⟨b1, o1 + i, none⟩ = some (.slice s.a s.l.length s.c) := (EL.out.cell (p := ⟨b1, o1 + i, none⟩) (Nat.lt_of_lt_of_le hb1 sw)).trans x0
      have SU := hide1 (World.size_alloc wr (.cells #[] 3))
      clear hc1 hm hlt2 RZ
      go_wp2_with (first | (at_builtin; refine wpList_cpE encZ rowZ_k rfl _ _ rfl wr.heap.size rfl s.a s.l.length s.c s.l rfl rfl RZ2.out ls ?_; intro b7 c7 w7 hr7 hb7 hn7 hc7; have R7 := hide1 hr7; have N7 := hide1 hn7; have E7 := hide1 (EL.out.trans (hb7.mono EL.out.size)); have F7 := hide1 (And.intro (Blk.new w7 48 #[.slice b7 s.l.length c7]) ((Below.refl w7.heap.size w7).alloc (Nat.le_refl _) (.cells #[.slice b7 s.l.length c7] 48))); have O7 := hide1 (own_kept (own_kept OW.out E7.out) F7.out.2); have P7 := hide1 (rd_one (y := (⟨b7, c7, s.l⟩ : Vw)) encVw F7.out.1); have s7 : w.heap.size ≤ (w7.alloc (.cells #[.slice b7 s.l.length c7] 48)).heap.size := (by have h1 := E7.out.size; have h2 := F7.out.2.size; omega); clear hr7 hb7 hn7) | (at_builtin; refine wpList_appA encVw rowVw rfl _ _ rfl w.heap.size (.slice b i c) i D rfl O7.out (some ⟨w7.heap.size, 0, none⟩) 1 1 [⟨b7, c7, s.l⟩] rfl rfl P7.out (by omega) s7 ?_; intro b8 c8 w8 ho8 hg8 hp8; have H8 := hide1 ho8; have G8 := hide1 hg8; have P8 := hide1 hp8; clear ho8 hg8 hp8))
      go_roundw
      case rel =>
        have e8 := E7.out.size
        have ownlt : ∀ q, (Value.slice b i c).ownBlock = some q → q < wr.heap.size := fun q hq => (OW.out.lt q hq).2
        have new : ∀ q, (Value.slice b8 (i + 1) c8).ownBlock = some q → (Value.slice b i c).ownBlock = some q ∨ w7.heap.size + 1 ≤ q := fun q hq => by
          obtain ⟨x, hx, rfl⟩ := own_blkEq H8.out hq
          rcases P8.out x hx with h | h
          · exact .inl h
          · rw [World.size_alloc] at h; exact .inr h
        refine ⟨i + 1, b8, c8, D ++ [⟨b7, c7, s.l⟩], by omega, by go_num, rfl, hide1 (by rw [List.length_append, HD.out]; rfl), hide1 (by rw [List.map_append, TK.out, List.map_append, HM.out]; rfl), H8, hide1 (fun x hx => ?_), hide1 ?_⟩
        · rcases List.mem_append.1 hx with hx | hx
          · obtain ⟨h1, h2, h3⟩ := VR.out x hx
            have lt1 : ∀ q o, x.a = some ⟨q, o, none⟩ → 0 < x.l.length → q < wr.heap.size := fun q o e h => by
              obtain ⟨q', o', e', hl', _⟩ := h1 0 h
              rw [e] at e'
              injection e' with e'
              injection e' with e'
              omega
            refine ⟨((h1.later E7.out).later F7.out.2).gr G8.out (fun q o e h => (h3 q o e h).1), h2, fun q o e h => ⟨fun hq => ?_, (h3 q o e h).2⟩⟩
            rcases new q hq with h5 | h5
            · exact (h3 q o e h).1 h5
            · have := lt1 q o e h; omega
          · rw [List.mem_singleton] at hx
            subst hx
            dsimp only
            have lt7 : ∀ q o, b7 = some ⟨q, o, none⟩ → 0 < s.l.length → q < w7.heap.size := fun q o e h => by
              obtain ⟨q', o', e', hl', _⟩ := R7.out 0 h
              rw [e] at e'
              injection e' with e'
              injection e' with e'
              omega
            have ge7 : ∀ q o, b7 = some ⟨q, o, none⟩ → 0 < s.l.length → wr.heap.size ≤ q := fun q o e h => by have := N7.out q o e h; rw [SU.out] at this; omega
            refine ⟨((R7.out.later F7.out.2).gr G8.out (fun q o e h hq => by have := ownlt q hq; have := ge7 q o e h; omega)).z, hc7, fun q o e h => ⟨fun hq => ?_, by have := ge7 q o e h; omega⟩⟩
            rcases new q hq with h5 | h5
            · have := ownlt q h5; have := ge7 q o e h; omega
            · have := lt7 q o e h; omega
        · exact (BB.out.trans (E7.out.mono sw)).trans ((F7.out.2.mono (by omega)).trans (gbelow G8.out (fun q hq => (OW.out.lt q hq).1) (by rw [World.size_alloc]; omega)))
      case measure => simp [intOf]; omega
    · obtain rfl : i = n := by omega
      have k1 : ¬ ((i : Int) < (i : Int)) := by omega
      go_wp2
      go_ret
      have hml := HM.out
      rw [← HN.out, List.take_length] at hml
      exact ⟨⟨b, ⟨c, rfl⟩, D, hml, ⟨rdG_of_own encVw.len OW.out HD.out, fun x hx => (VR.out x hx).1, fun x hx => (VR.out x hx).2.1⟩, lo_of_own OW.out, fun x hx q o e h => ((VR.out x hx).2.2 q o e h).2⟩, BB.out⟩
end Go.Proofs.Ytmfpgnoeemjhiaa
namespace Go.Proofs.Ytmfpgnoeemjhiaa
open Go.RowKit
set_option linter.unusedVariables false

/-- The first members of a new group, in a row. -/
def sixR (vs : List (List Int)) (i : Nat) : List Mr := (List.range i).map (fun k : Nat => ⟨(newMb ((k : Int) + 1) vs).1, noMA⟩)
theorem six_next (vs : List (List Int)) (i : Nat) : sixR vs (i + 1) = sixR vs i ++ [⟨(newMb ((i : Int) + 1) vs).1, noMA⟩] := by unfold sixR; rw [List.range_succ, List.map_append]; rfl
theorem six_len (vs : List (List Int)) (i : Nat) : (sixR vs i).length = i := by simp [sixR]
theorem six_ms (vs : List (List Int)) : (sixR vs 6).map (·.m) = (newGp vs).ms := rfl
theorem sizeGp : (Try.prog.info? 35).map (·.size) = some 4 := by kernel_rfl
def zGp : Array Value := #[.slice none 0 0, .slice none 0 0, .slice none 0 0, .slice none 0 0]
def gpA (va : Option Addr) (vn vc : Nat) (ma : Option Addr) (mn mc : Nat) (fa : Option Addr) (fn fc : Nat) (ka : Option Addr) (kn kc : Nat) : Array Value := #[.slice va vn vc, .slice ma mn mc, .slice fa fn fc, .slice ka kn kc]
theorem resGp2 {P : Program} {fn : Func} {p u : Tmp} {ty : TypeId} (h : fn.results = #[.cell p ty, .tmp u]) (tmps : Array Value) (w : World) (g : Nat) (t : TypeId) (cs : List Value) (d : TypeDesc)
    (hp : tmps.getD p undef = .pointer (some ⟨g, 0, none⟩)) (hg : Blk w g t cs)
    (hu : P.underlying ty = some d) (hd : (match d with | .struct _ | .array _ _ => true | _ => false) = true) (hi : (P.info? ty).map (·.size) = some cs.length) :
    (results fn tmps).run P w = .ok (.tuple #[.agg cs.toArray, tmps.getD u undef]) w := resMb2 h tmps w g t cs.toArray (0, 0) d hp hg hu hd (by simpa using hi)
set_option maxRecDepth 100000 in
set_option maxHeartbeats 2000000 in
theorem specGroupNew_no (a : Option Addr) (L : List Vw) (ca : Nat) (w : World) (hl : L.length ≤ 1048576) (hs : ∀ x ∈ L, x.l.length ≤ 1048576) (hA : RdVs w a L) (ok : ¬ okViews (L.map (·.l))) :
    Calls Try.prog 10 #[.slice a L.length ca] w fun e w' => e = .returned (.tuple #[.agg #[.slice none 0 0, .slice none 0 0, .slice none 0 0, .slice none 0 0], .bool false]) ∧ Below w.heap.size w w' := by
  have CV := hide1 (fun w' (hb : Below w.heap.size w w') => specViews_any a L ca w' hl hs (hA.later hb))
  rw [decide_eq_false ok] at CV
  have F := hide1 (And.intro (Blk.new w 35 #[.slice none 0 0, .slice none 0 0, .slice none 0 0, .slice none 0 0]) ((Below.refl w.heap.size w).alloc (Nat.le_refl _) (.cells #[.slice none 0 0, .slice none 0 0, .slice none 0 0, .slice none 0 0] 35)))
  clear hA hs ok
  go_enter Try.func10, Try.ntmps10
  go_upto_region 1 with fail
  generalize (w.alloc (.cells #[.slice none 0 0, .slice none 0 0, .slice none 0 0, .slice none 0 0] 35)) = u at F ⊢
  obtain ⟨R, hR⟩ : ∃ G, G = w.heap.size := ⟨_, rfl⟩
  have KR := hide1 F.out.1
  rw [← hR] at KR ⊢
  have hRw : w.heap.size ≤ R := by omega
  clear hR
  go_wp2_with fail
  refine (CV.out _ F.out.2).mono ?_
  rintro e w1 ⟨rfl, hb⟩
  have K1 := hide1 (KR.out.below hb KR.out.lt)
  have E1 := hide1 (F.out.2.trans (hb.mono F.out.2.size))
  have z0 : w1.cell? ⟨R, 0, none⟩ = some (.slice none 0 0) := K1.out.cell 0
  have z1 : w1.cell? ⟨R, 1, none⟩ = some (.slice none 0 0) := K1.out.cell 1
  have z2 : w1.cell? ⟨R, 2, none⟩ = some (.slice none 0 0) := K1.out.cell 2
  have z3 : w1.cell? ⟨R, 3, none⟩ = some (.slice none 0 0) := K1.out.cell 3
  have zf : ∀ j, w1.frozen? ⟨R, j, none⟩ = false := fun j => K1.out.froz j
  have HH := hide1 (Blk.set (Blk.set (Blk.set (Blk.set K1.out 0 (.slice none 0 0)) 1 (.slice none 0 0)) 2 (.slice none 0 0)) 3 (.slice none 0 0))
  dsimp only [List.set_cons_zero, List.set_cons_succ] at HH
  have HB := hide1 ((((E1.out.setCell (p := ⟨R, 0, none⟩) hRw (.slice none 0 0)).setCell (p := ⟨R, 1, none⟩) hRw (.slice none 0 0)).setCell (p := ⟨R, 2, none⟩) hRw (.slice none 0 0)).setCell (p := ⟨R, 3, none⟩) hRw (.slice none 0 0))
  clear hb F KR
  go_wp2
  refine bodyPost_ret (resGp2 Try.results10 _ _ R 35 [.slice none 0 0, .slice none 0 0, .slice none 0 0, .slice none 0 0] _ rfl HH.out Try.underlying35 rfl sizeGp) rfl ?_
  exact ⟨rfl, HB.out⟩
set_option maxRecDepth 100000 in
set_option maxHeartbeats 4000000 in
theorem specGroupNew_yes (a : Option Addr) (L : List Vw) (ca : Nat) (w : World) (hl : L.length ≤ 1048576) (hs : ∀ x ∈ L, x.l.length ≤ 1048576) (hA : RdVs w a L) (ok : okViews (L.map (·.l))) :
    Calls Try.prog 10 #[.slice a L.length ca] w fun e w' => (∃ (vb : Option Addr) (vc : Nat) (M : List Vw) (mb : Option Addr) (mc : Nat), e = .returned (.tuple #[.agg #[.slice vb L.length vc, .slice mb 6 mc, .slice none 0 0, .slice none 0 0], .bool true]) ∧ M.map (·.l) = L.map (·.l) ∧ RdVs w' vb M ∧ RdG mrC 16 w' mb (sixR (L.map (·.l)) 6)) ∧ Below w.heap.size w w' := by
  have CV := hide1 (fun w' (hb : Below w.heap.size w w') => specViews_any a L ca w' hl hs (hA.later hb))
  have CC := hide1 (fun w' (hb : Below w.heap.size w w') => specCopyVs_any a L ca w' hl hs (hA.later hb))
  have CN := hide1 (fun (id : Int) w' (hb : Below w.heap.size w w') => specMemberNew_any id a L ca w' hl hs (hA.later hb))
  rw [decide_eq_true ok] at CV
  have F := hide1 (And.intro (Blk.new w 35 #[.slice none 0 0, .slice none 0 0, .slice none 0 0, .slice none 0 0]) ((Below.refl w.heap.size w).alloc (Nat.le_refl _) (.cells #[.slice none 0 0, .slice none 0 0, .slice none 0 0, .slice none 0 0] 35)))
  obtain ⟨vs, hvs⟩ : ∃ vs, vs = L.map (·.l) := ⟨_, rfl⟩
  rw [← hvs] at CN ⊢
  have CC2 := hide1 (show ∀ w', Below w.heap.size w w' → Calls Try.prog 23 #[.slice a L.length ca] w' fun e w'' => (∃ (b : Option Addr) (c : Nat) (M : List Vw), e = .returned (.slice b L.length c) ∧ Hid (M.map (·.l) = vs) ∧ RdVs w'' b M ∧ LoVs w'.heap.size b M) ∧ Below w'.heap.size w' w'' from fun w' hb => (CC.out w' hb).mono (fun e w'' ⟨⟨b, c, M, h1, h2, h3⟩, h4⟩ => ⟨⟨b, c, M, h1, hide1 (h2.trans hvs.symm), h3⟩, h4⟩))
  clear CC
  obtain ⟨n, hn⟩ : ∃ n, n = L.length := ⟨_, rfl⟩
  rw [← hn] at CV CN CC2 ⊢
  clear hA hs ok hvs hn hl
  obtain ⟨i0, hi0, hz0, hz1, hz2⟩ := info_parts Try.infoMb
  go_enter Try.func10, Try.ntmps10
  go_upto_region 1 with fail
  generalize (w.alloc (.cells #[.slice none 0 0, .slice none 0 0, .slice none 0 0, .slice none 0 0] 35)) = u at F ⊢
  obtain ⟨R, hR⟩ : ∃ G, G = w.heap.size := ⟨_, rfl⟩
  have KR := hide1 F.out.1
  rw [← hR] at KR ⊢
  have hRw : w.heap.size ≤ R := by omega
  have E0 := hide1 F.out.2
  clear F hR
  go_wp2_with fail
  refine (CV.out _ E0.out).mono ?_
  rintro e w1 ⟨rfl, hb⟩
  have K1 := hide1 (KR.out.below hb KR.out.lt)
  have E1 := hide1 (E0.out.trans (hb.mono E0.out.size))
  clear hb KR E0 CV
  go_wp2_with fail
  refine (CC2.out _ E1.out).mono ?_
  rintro e w2 ⟨⟨vb, vc, M, rfl, HM, hv, hlo⟩, hb⟩
  have LV := hide1 (hlo.mono (show R + 1 ≤ w1.heap.size by have := K1.out.lt; omega))
  clear hlo
  have K2 := hide1 (K1.out.below hb K1.out.lt)
  have E2 := hide1 (E1.out.trans (hb.mono E1.out.size))
  have V2 := hide1 hv
  clear hb hv K1 E1 CC2
  have F := hide1 (And.intro (Blk.new w2 35 #[.slice vb n vc, .slice none 0 0, .slice none 0 0, .slice none 0 0]) ((Below.refl w2.heap.size w2).alloc (Nat.le_refl _) (.cells #[.slice vb n vc, .slice none 0 0, .slice none 0 0, .slice none 0 0] 35)))
  go_upto_region 4 with fail
  generalize (w2.alloc (.cells #[.slice vb n vc, .slice none 0 0, .slice none 0 0, .slice none 0 0] 35)) = u2 at F ⊢
  obtain ⟨G, hG⟩ : ∃ G, G = w2.heap.size := ⟨_, rfl⟩
  have KG := hide1 F.out.1
  rw [← hG] at KG F ⊢
  have RG : R < G := by have := K2.out.lt; omega
  have wG : w.heap.size ≤ G := by have := E2.out.size; omega
  have KR := hide1 (K2.out.below F.out.2 (by omega))
  have VV := hide1 (show RdVs u2 vb M from V2.out.later (by rw [← hG]; exact F.out.2))
  have VL := hide1 (show ∀ W, Below G u2 W → RdVs W vb M from fun W hb => V2.out.later (by rw [← hG]; exact F.out.2.trans hb))
  have E3 := hide1 (E2.out.trans (F.out.2.mono (by have := E2.out.size; omega)))
  have lG : G < u2.heap.size := KG.out.lt
  clear F K2 V2 E2 hG
  go_wp2
  go_loopw [5] (fun iv wr => ∃ (i : Nat) (b : Option Addr) (c : Nat), i ≤ 6 ∧ iv = .int .i64 ((i : Int) + 1) ∧ Hid (Blk wr G 35 [.slice vb n vc, .slice b i c, .slice none 0 0, .slice none 0 0]) ∧ Hid (wr.ownsRow u2.heap.size 54 16 (.slice b i c) i (rowG mrC (sixR vs i))) ∧ Hid (Below G u2 wr)) (fun iv _ => 7 - (intOf iv).toNat)
  case atStart => exact ⟨0, none, 0, by omega, rfl, KG, hide1 (World.ownsRow_nil _ _ _ _), hide1 (Below.refl _ _)⟩
  case round =>
    obtain ⟨i, b, c, hi, rfl, KB, OW, BB⟩ := hrel
    by_cases hlt : i < 6
    · have k1 : (i : Int) + 1 ≤ 6 := by omega
      have ER := hide1 (E3.out.trans (BB.out.mono wG))
      have lgw : G < wr.heap.size := KB.out.lt
      have su : u2.heap.size ≤ wr.heap.size := BB.out.size
      obtain ⟨y, hy⟩ : ∃ y : Mr, y = ⟨(newMb ((i : Int) + 1) vs).1, noMA⟩ := ⟨_, rfl⟩
      have CN1 := hide1 (CN.out ((i : Int) + 1) wr ER.out)
      obtain ⟨bq, hbq⟩ : ∃ q, q = (newMb ((i : Int) + 1) vs).2 := ⟨_, rfl⟩
      rw [show mbV (newMb ((i : Int) + 1) vs).1 noMA = .agg (mbA y.m y.a) by rw [hy]; rfl, ← hbq] at CN1
      have HY := hide1 hy
      have ONE := hide1 (oneMb y.m y.a)
      have SZ := hide1 sizeMb
      clear hy hbq
      go_wp2_with fail
      refine CN1.out.mono ?_
      rintro e w4 ⟨rfl, hb4⟩
      have KB4 := hide1 (KB.out.below hb4 lgw)
      have OW4 := hide1 (own_kept OW.out hb4)
      have s4 : wr.heap.size ≤ w4.heap.size := hb4.size
      have B4 := hide1 (BB.out.trans (hb4.mono (by omega)))
      clear hb4 CN1 KB OW BB
      have FB := hide1 (And.intro (BlkA.new w4 54 (mbA y.m y.a)) ((Below.refl w4.heap.size w4).alloc (Nat.le_refl _) (.cells (mbA y.m y.a) 54)))
      go_upto_region 8 with (refine wpList_store_row rfl 54 _ _ rfl w4.heap.size (mbA y.m y.a) rfl rfl 54 _ (heap_alloc_last _ _) sizeMb rfl ONE.out ?_; rw [World.setRow_alloc_new])
      generalize (w4.alloc (.cells (mbA y.m y.a) 54)) = u5 at FB ⊢
      obtain ⟨X, hX⟩ : ∃ G, G = w4.heap.size := ⟨_, rfl⟩
      have KX := hide1 FB.out.1
      rw [← hX] at KX ⊢
      have KB5 := hide1 (KB4.out.below FB.out.2 KB4.out.lt)
      have OW5 := hide1 (own_kept OW4.out FB.out.2)
      have s5 : w4.heap.size ≤ u5.heap.size := FB.out.2.size
      have B5 := hide1 (B4.out.trans (FB.out.2.mono (by omega)))
      clear KB4 OW4 B4 FB hX
      have g1 : u5.cell? ⟨G, 1, none⟩ = some (.slice b i c) := KB5.out.cell 1
      have F7 := hide1 (And.intro (BlkA.new u5 54 (mbA y.m y.a)) ((Below.refl u5.heap.size u5).alloc (Nat.le_refl _) (.cells (mbA y.m y.a) 54)))
      have O7 := hide1 (own_kept OW5.out F7.out.2)
      have P7 := hide1 (rd_one (y := y) encMr F7.out.1.blk)
      have KB7 := hide1 (KB5.out.below F7.out.2 KB5.out.lt)
      have s7 : u2.heap.size ≤ (u5.alloc (.cells (mbA y.m y.a) 54)).heap.size := by have := F7.out.2.size; omega
      have obn := hide1 (fun q (h : (Value.slice b i c).ownBlock = some q) => (OW5.out.lt q h).1)
      go_wp2_with (first | (refine wpList_load_row rfl 54 _ rfl X rfl 54 (mbA y.m y.a) (0, 0) _ KX.out Try.underlying54 rfl sizeMb ?_) | (refine wpList_lit1 rfl 31 54 _ rfl (mbA y.m y.a) rfl Try.underlying31 hi0 hz0 rfl (by rw [hz1]; rfl) (by rw [lenMb]; omega) (by rw [lenMb]; omega) ?_) | (at_builtin; refine wpList_appA encMr rowMr rfl _ _ rfl u2.heap.size (.slice b i c) i (sixR vs i) rfl O7.out (some ⟨u5.heap.size, 0, none⟩) 1 1 [y] rfl rfl P7.out (by omega) s7 ?_; intro b8 c8 w8 ho8 hg8 hp8; have H8 := hide1 ho8; have G8 := hide1 hg8; have KB8 := hide1 (gblk hg8 KB7.out (fun e => by have := obn.out _ e; omega)); have g8 : w8.cell? ⟨G, 1, none⟩ = some (.slice b i c) := KB8.out.cell 1; have gf8 : w8.frozen? ⟨G, 1, none⟩ = false := KB8.out.froz 1; clear ho8 hg8 hp8))
      go_roundw
      case rel =>
        refine ⟨i + 1, b8, c8, by omega, by go_num, ?_, ?_, ?_⟩
        · exact hide1 (Blk.set KB8.out 1 (.slice b8 (i + 1) c8))
        · have h9 := H8.out
          rw [six_next, ← HY.out]
          exact hide1 (own_far h9 _ _ (fun q hq => by have := (h9.lt q hq).1; dsimp only; omega))
        · exact hide1 (((B5.out.trans (F7.out.2.mono (by omega))).trans (gbelow G8.out (fun q hq => by have := obn.out q hq; omega) (by have := F7.out.2.size; omega))).setCell (p := ⟨G, 1, none⟩) (Nat.le_refl _) _)
      case measure => simp [intOf]; omega
    · obtain rfl : i = 6 := by omega
      have k1 : ¬ ((6 : Int) + 1 ≤ 6) := by omega
      have g0 : wr.cell? ⟨G, 0, none⟩ = some (.slice vb n vc) := KB.out.cell 0
      have g1 : wr.cell? ⟨G, 1, none⟩ = some (.slice b 6 c) := KB.out.cell 1
      have g2 : wr.cell? ⟨G, 2, none⟩ = some (.slice none 0 0) := KB.out.cell 2
      have g3 : wr.cell? ⟨G, 3, none⟩ = some (.slice none 0 0) := KB.out.cell 3
      have KR9 := hide1 (KR.out.below BB.out RG)
      have r0 : wr.cell? ⟨R, 0, none⟩ = some (.slice none 0 0) := KR9.out.cell 0
      have r1 : wr.cell? ⟨R, 1, none⟩ = some (.slice none 0 0) := KR9.out.cell 1
      have r2 : wr.cell? ⟨R, 2, none⟩ = some (.slice none 0 0) := KR9.out.cell 2
      have r3 : wr.cell? ⟨R, 3, none⟩ = some (.slice none 0 0) := KR9.out.cell 3
      have rf : ∀ j, wr.frozen? ⟨R, j, none⟩ = false := fun j => KR9.out.froz j
      have HH := hide1 (Blk.set (Blk.set (Blk.set (Blk.set KR9.out 0 (.slice vb n vc)) 1 (.slice b 6 c)) 2 (.slice none 0 0)) 3 (.slice none 0 0))
      dsimp only [List.set_cons_zero, List.set_cons_succ] at HH
      have ER := hide1 (E3.out.trans (BB.out.mono wG))
      have HB := hide1 ((((ER.out.setCell (p := ⟨R, 0, none⟩) hRw (.slice vb n vc)).setCell (p := ⟨R, 1, none⟩) hRw (.slice b 6 c)).setCell (p := ⟨R, 2, none⟩) hRw (.slice none 0 0)).setCell (p := ⟨R, 3, none⟩) hRw (.slice none 0 0))
      have V9 := hide1 (VL.out wr BB.out)
      have PV := hide1 ((((V9.out.far LV.out (Nat.lt_succ_self R) 0 (.slice vb n vc)).far LV.out (Nat.lt_succ_self R) 1 (.slice b 6 c)).far LV.out (Nat.lt_succ_self R) 2 (.slice none 0 0)).far LV.out (Nat.lt_succ_self R) 3 (.slice none 0 0))
      have m0 := rdG_of_own encMr.len OW.out (six_len vs 6)
      have lo6 : LoA u2.heap.size b 6 := lo_of_own OW.out
      have nr : ∀ q o, b = some ⟨q, o, none⟩ → 0 < (sixR vs 6).length → q ≠ R := fun q o e h => by have := lo6 q o e (by omega); omega
      have PM := hide1 ((((m0.farX 0 (.slice vb n vc) nr).farX 1 (.slice b 6 c) nr).farX 2 (.slice none 0 0) nr).farX 3 (.slice none 0 0) nr)
      clear KB KR9 BB ER m0 lo6 nr
      go_wp2
      refine bodyPost_ret (resGp2 Try.results10 _ _ R 35 [.slice vb n vc, .slice b 6 c, .slice none 0 0, .slice none 0 0] _ rfl HH.out Try.underlying35 rfl sizeGp) rfl ?_
      exact ⟨⟨vb, vc, M, b, ⟨c, rfl⟩, HM.out, PV.out, PM.out⟩, HB.out⟩
end Go.Proofs.Ytmfpgnoeemjhiaa
namespace Go.Proofs.Ytmfpgnoeemjhiaa
open Go.ChangeShapes Go.WideShapes Go.ChangeAt Go.RowKit
set_option linter.unusedVariables false

set_option maxRecDepth 100000 in
set_option maxHeartbeats 1000000 in
theorem implClone_any (a : Option Addr) (l : List Int) (ca : Nat) (w : World) (hl : l.length ≤ 1048576) (hA : RdZ w a l) :
    Calls Try.prog 28 #[.slice a l.length ca] w fun e w' => ∃ b c, e = .returned (.slice b l.length c) ∧ OwnK w' w.heap.size b c l ∧ Below w.heap.size w w' := by
  cases a with
  | none =>
    have h0 : l = [] := by
      cases l with
      | nil => rfl
      | cons x l => obtain ⟨b, o, h, _⟩ := hA 0 (by simp); cases h
    subst h0
    have ON := hide1 (show OwnK w w.heap.size none 0 [] from World.ownsRow_nil _ _ _ _)
    have qn : ∀ w, (binOp .eql 48 (.slice none 0 ca) (.slice none 0 0)).run Try.prog w = .ok (.bool true) w := fun _ => by kernel_rfl
    clear hA
    go_enter Try.func28, Try.ntmps28
    go_wp2
    go_ret
    exact ⟨none, 0, rfl, ON.out, Below.refl _ _⟩
  | some x =>
    obtain ⟨xb, xo, xr⟩ := x
    have O0 := hide1 (owns_emptyX w 3 1)
    have EL := hide1 ((Below.refl w.heap.size w).alloc (Nat.le_refl _) (.cells #[] 3))
    have RR := hide1 ((hA.later EL.out).g)
    have qn : ∀ w, (binOp .eql 48 (.slice (some ⟨xb, xo, xr⟩) l.length ca) (.slice none 0 0)).run Try.prog w = .ok (.bool false) w := fun _ => by kernel_rfl
    have hs : w.heap.size ≤ (w.alloc (.cells #[] 3)).heap.size := EL.out.size
    clear hA
    go_enter Try.func28, Try.ntmps28
    go_wp2_with (at_builtin; refine wpList_appA encZ rowZ_k rfl _ _ rfl w.heap.size (.slice (some ⟨w.heap.size, 0, none⟩) 0 0) 0 [] rfl O0.out (some ⟨xb, xo, xr⟩) l.length ca l rfl rfl RR.out (by omega) hs ?_; intro b8 c8 w8 ho8 hg8 hp8; have H8 := hide1 ho8; have G8 := hide1 hg8; clear ho8 hg8 hp8)
    go_ret
    have h9 := H8.out
    rw [Nat.zero_add, List.nil_append, row_z] at h9
    exact ⟨b8, c8, rfl, h9, EL.out.trans (gbelow G8.out (fun q hq => by have := (O0.out.lt q hq).1; omega) hs)⟩
set_option maxRecDepth 100000 in
set_option maxHeartbeats 1000000 in
theorem implNewVs_any (a : Option Addr) (L : List Vw) (ca : Nat) (w : World) (hl : L.length ≤ 1048576) (hs : ∀ x ∈ L, x.l.length ≤ 1048576) (hA : RdVs w a L) :
    Calls Try.prog 27 #[.slice a L.length ca, .func (.func 28) #[] #[]] w fun e w' => (∃ (b : Option Addr) (c : Nat) (M : List Vw), e = .returned (.slice b L.length c) ∧ M.map (·.l) = L.map (·.l) ∧ OwnVs w' w.heap.size b c M) ∧ Below w.heap.size w w' := by
  obtain ⟨i0, hi, hz0, hz1, hz2⟩ := info_parts Try.infoVw
  have HA := hide1 hA
  have HS := hide1 hs
  clear hA hs
  obtain ⟨n, hn⟩ : ∃ n, L.length = n := ⟨_, rfl⟩
  have HN := hide1 hn
  rw [hn] at hl ⊢
  clear hn
  go_enter Try.func27, Try.ntmps27
  go_wp2_with (at_make; (refine wpList_make_full _ rfl _ _ 29 rfl w.heap.size 48 i0 (.slice none 0 0) 1 Try.underlying29 hi hz0 hz1 _ _ _ _ n rfl rfl rfl rfl (by rw [hz2]; omega) (by unfold maxLen; omega) (Nat.le_refl _) ?_; intro w0 hown0 hg0))
  rw [made_vw] at hown0
  have HO := hide1 hown0
  have G0 := hide1 (show Below w.heap.size w w0 from gbelow hg0 (by intro k hk; cases hk) (Nat.le_refl _))
  have l0 : w.heap.size < w0.heap.size := by
    rcases hown0.2 with ⟨hv, h0⟩ | ⟨g, cap, cur, hv, _, hh, _⟩
    · cases hv
    · injection hv with e1
      injection e1 with e1
      injection e1 with e1
      subst e1
      exact (Array.getElem?_eq_some_iff.1 hh).1
  clear hown0 hg0 hi hz0 hz1 hz2 i0
  obtain ⟨VB, hVB⟩ : ∃ V, V = w.heap.size := ⟨_, rfl⟩
  rw [← hVB] at HO ⊢
  have hVw : w.heap.size ≤ VB := by omega
  have hV0 : VB < w0.heap.size := by omega
  clear hVB
  go_loopw [13] (fun iv wr => ∃ i : Nat, i ≤ n ∧ iv = .int .i64 (i : Int) ∧ ∃ D : List Vw, Hid (D.length = i) ∧ Hid (D.map (·.l) = (L.take i).map (·.l)) ∧ Hid ((∀ x ∈ D, OwnK wr (VB + 1) x.a x.c x.l) ∧ D.Pairwise ApV) ∧ Hid (wr.ownsRow VB 48 1 (.slice (some ⟨VB, 0, none⟩) n n) n (rowG vwC (D ++ List.replicate (n - i) zeroVw))) ∧ Hid (Below w.heap.size w wr) ∧ Hid (VB < wr.heap.size)) (fun iv _ => n - (intOf iv).toNat)
  case atStart => exact ⟨0, Nat.zero_le _, rfl, [], hide1 rfl, hide1 (by simp), hide1 ⟨by simp, List.Pairwise.nil⟩, hide1 (by simpa using HO.out), G0, hide1 hV0⟩
  case round =>
    obtain ⟨i, hi, rfl, D, HD, HM, HV, OW, BB, LV⟩ := hrel
    by_cases hlt : i < n
    · have k1 : (i : Int) < (n : Int) := by omega
      have hlt2 : i < L.length := by rw [HN.out]; exact hlt
      obtain ⟨b, o, hab, hb, hc⟩ := HA.out.r i hlt2
      have x0 : wr.cell? ⟨b, o + i, none⟩ = some (.slice L[i].a L[i].l.length L[i].c) := (BB.out.cell (p := ⟨b, o + i, none⟩) hb).trans (by have := hc 0 (by omega); rwa [Nat.mul_one, Nat.add_zero] at this)
      have hm := List.getElem_mem hlt2
      have CT := hide1 (implClone_any L[i].a L[i].l L[i].c wr (HS.out _ hm) ((HA.out.v _ hm).later BB.out))
      have TK := hide1 (List.take_succ_eq_append_getElem hlt2)
      generalize L[i] = s at *
      subst hab
      clear hc hm hlt2
      go_wp2_with fail
      refine CT.out.mono ?_
      rintro e w2 ⟨b2, c2, rfl, hO2, hb2⟩
      have o2 := own_kept OW.out hb2
      obtain ⟨u0, y0⟩ := own_some o2 i (by omega)
      have f0 := o2.frozenAt i
      have O2 := hide1 o2
      have N2 := hide1 hO2
      have E2 := hide1 hb2
      clear o2 hO2 hb2 CT x0
      go_wp2
      go_roundw
      case rel =>
        have gV := gset (World.grownBy.refl w2 (some VB)) i (.slice b2 s.l.length c2)
        have hlv : VB < wr.heap.size := LV.out
        refine ⟨i + 1, by omega, by go_num, D ++ [⟨b2, c2, s.l⟩], hide1 (by rw [List.length_append, HD.out]; rfl), hide1 (by rw [List.map_append, TK.out, List.map_append, HM.out]; rfl), hide1 ⟨fun x hx => ?_, ?_⟩, ?_, ?_, ?_⟩
        · rcases List.mem_append.1 hx with hx | hx
          · have h1 := HV.out.1 x hx
            exact gown gV (own_kept h1 E2.out) (fun k hk e => by injection e with e; have := (h1.lt k hk).1; omega)
          · rw [List.mem_singleton] at hx
            subst hx
            exact gown gV (own_base N2.out (by omega)) (fun k hk e => by injection e with e; have := (N2.out.lt k hk).1; omega)
        · rw [List.pairwise_append]
          refine ⟨HV.out.2, List.pairwise_singleton _ _, fun x hx y hy g hg e => ?_⟩
          rw [List.mem_singleton] at hy
          subst hy
          have h1 := ((HV.out.1 x hx).lt g hg).2
          have h2 := (N2.out.lt g e).1
          omega
        · have st := (World.ownsRow.stored O2.out i (.slice b2 s.l.length c2)).1
          have e9 : (rowG vwC (D ++ List.replicate (n - i) zeroVw)).set i (.slice b2 s.l.length c2) = rowG vwC (D ++ [⟨b2, c2, s.l⟩] ++ List.replicate (n - (i + 1)) zeroVw) := by
            rw [← fillV L D ⟨b2, c2, s.l⟩ n i HD.out hlt, row_vw, row_vw, List.map_set]
          rw [e9] at st
          exact hide1 st
        · exact hide1 ((BB.out.trans (E2.out.mono BB.out.size)).setCell (p := ⟨VB, i, none⟩) hVw _)
        · exact hide1 (by rw [World.size_setCell]; have := E2.out.size; omega)
      case measure => simp [intOf]; omega
    · obtain rfl : i = n := by omega
      have k1 : ¬ ((i : Int) < (i : Int)) := by omega
      go_wp2
      go_ret
      have hml := HM.out
      rw [← HN.out, List.take_length] at hml
      have hdl : D.length = i := HD.out
      have ow := OW.out
      rw [Nat.sub_self, List.replicate_zero, List.append_nil] at ow
      refine ⟨⟨some ⟨VB, 0, none⟩, i, rfl, D, hml, ?_, fun x hx => own_base (HV.out.1 x hx) (by omega), HV.out.2, fun x hx g hg e => ?_⟩, BB.out⟩
      · rw [hdl]; exact own_base ow hVw
      · have h1 := ((HV.out.1 x hx).lt g e).1
        rw [hdl] at hg
        have h2 : g = VB := by simpa [Value.ownBlock] using hg.symm
        omega
end Go.Proofs.Ytmfpgnoeemjhiaa
namespace Go.Proofs.Ytmfpgnoeemjhiaa
open Go.RowKit
set_option linter.unusedVariables false

/-- A box that was made ahead of a call stands behind it. -/
theorem zcG {u w7 : World} {cs : Array Value} {t : TypeId} (hb : Below (u.alloc (.cells cs t)).heap.size (u.alloc (.cells cs t)) w7) : Blk w7 u.heap.size t cs.toList :=
  Blk.below (Blk.new u t cs) hb (by rw [World.size_alloc]; omega)
theorem zcGD {u w7 : World} {cs : Array Value} {t : TypeId} (hb : Below (u.alloc (.cells cs t)).drew.heap.size (u.alloc (.cells cs t)).drew w7) : Blk w7 u.heap.size t cs.toList :=
  Blk.below (w := (u.alloc (.cells cs t)).drew) (Blk.new u t cs) hb (show u.heap.size < (u.alloc (.cells cs t)).heap.size by rw [World.size_alloc]; omega)
theorem zcGE {u w7 : World} {cs : Array Value} {t : TypeId} (hb : Below (u.drew.alloc (.cells cs t)).heap.size (u.drew.alloc (.cells cs t)) w7) : Blk w7 u.heap.size t cs.toList :=
  Blk.below (Blk.new u.drew t cs) hb (show u.drew.heap.size < _ by rw [World.size_alloc]; omega)
theorem newAtX {W : World} {n : Nat} {t : TypeId} {cs : Array Value} (h : W.heap.size = n) : Blk (W.alloc (.cells cs t)) n t cs.toList := h ▸ Blk.new W t cs
theorem zc2 {u w7 : World} {c d : Array Value} {t s : TypeId} (hb : Below ((u.alloc (.cells c t)).alloc (.cells d s)).heap.size ((u.alloc (.cells c t)).alloc (.cells d s)) w7) : Blk w7 u.heap.size t c.toList ∧ Blk w7 (u.heap.size + 1) s d.toList := by
  have h := blkN2 u c d t s
  exact ⟨h.1.below hb h.1.lt, h.2.1.below hb h.2.1.lt⟩
theorem zc2D {u w7 : World} {c d : Array Value} {t s : TypeId} (hb : Below ((u.alloc (.cells c t)).alloc (.cells d s)).drew.heap.size ((u.alloc (.cells c t)).alloc (.cells d s)).drew w7) : Blk w7 u.heap.size t c.toList ∧ Blk w7 (u.heap.size + 1) s d.toList := by
  have h := blkN2 u c d t s
  exact ⟨Blk.below (w := ((u.alloc (.cells c t)).alloc (.cells d s)).drew) h.1 hb h.1.lt, Blk.below (w := ((u.alloc (.cells c t)).alloc (.cells d s)).drew) h.2.1 hb h.2.1.lt⟩
theorem blk_own6 {w : World} {base g : Nat} {e : TypeId} {xs : List Value} (h : Blk w g e xs) (hn : xs.length = 6 * 16) (hb : base ≤ g) : w.ownsRow base e 16 (.slice (some ⟨g, 0, none⟩) 6 6) 6 xs :=
  ⟨hn, .inr ⟨g, 6, xs.toArray, rfl, hb, h, Nat.le_refl _, by unfold maxLen; omega, by simpa using hn, by rw [List.take_of_length_le (by simp [hn])]⟩⟩
theorem OwnVs.lts {w : World} {B c n : Nat} {b : Option Addr} {M : List Vw} (h : OwnVs w B b c M) (hn : M.length = n) : ∀ g, ((Value.slice b n c).ownBlock = some g ∨ ∃ x ∈ M, (Value.slice x.a x.l.length x.c).ownBlock = some g) → B ≤ g ∧ g < w.heap.size := by
  subst hn
  rintro g (e | ⟨x, hx, e⟩)
  · exact h.o.lt g e
  · exact (h.r x hx).lt g e
theorem OwnVs.set {w : World} {B c g : Nat} {b : Option Addr} {M : List Vw} (h : OwnVs w B b c M) (hg : g < B) (j : Nat) (u : Value) : OwnVs (w.setCell ⟨g, j, none⟩ u) B b c M := ⟨own_farB g h.o hg j u, fun x hx => own_farB g (h.r x hx) hg j u, h.d, h.n⟩
theorem OwnVs.gr {w w' : World} {B c n : Nat} {b : Option Addr} {M : List Vw} {r : Option Nat} (h : OwnVs w B b c M) (hn : M.length = n) (hg : w.grownBy w' r) (ho : ∀ g, ((Value.slice b n c).ownBlock = some g ∨ ∃ x ∈ M, (Value.slice x.a x.l.length x.c).ownBlock = some g) → r ≠ some g) : OwnVs w' B b c M := by
  subst hn
  exact ⟨gown hg h.o (fun k hk => ho k (.inl hk)), fun x hx => gown hg (h.r x hx) (fun k hk => ho k (.inr ⟨x, hx, hk⟩)), h.d, h.n⟩
theorem six_fill (vs : List (List Int)) (z : Mr) (i : Nat) (h : i < 6) : (sixR vs i ++ List.replicate (6 - i) z).set i ⟨(newMb ((i : Int) + 1) vs).1, noMA⟩ = sixR vs (i + 1) ++ List.replicate (6 - (i + 1)) z := by
  have hl := six_len vs i
  rw [List.set_append_right _ _ (by omega), hl, Nat.sub_self, show 6 - i = (6 - (i + 1)) + 1 by omega, List.replicate_succ, List.set_cons_zero, six_next, List.append_assoc]
  rfl
theorem blk_set4 {w : World} {g : Nat} {t : TypeId} {a b c d : Value} (h : Blk w g t [a, b, c, d]) (x y z v : Value) : Blk ((((w.setCell ⟨g, 0, none⟩ x).setCell ⟨g, 1, none⟩ y).setCell ⟨g, 2, none⟩ z).setCell ⟨g, 3, none⟩ v) g t [x, y, z, v] := Blk.set (Blk.set (Blk.set (Blk.set h 0 x) 1 y) 2 z) 3 v
theorem blk_far4 {w : World} {g r : Nat} {t : TypeId} {cs : List Value} (h : Blk w r t cs) (hn : g ≠ r) (x y z v : Value) : Blk ((((w.setCell ⟨g, 0, none⟩ x).setCell ⟨g, 1, none⟩ y).setCell ⟨g, 2, none⟩ z).setCell ⟨g, 3, none⟩ v) r t cs :=
  (((h.far ⟨g, 0, none⟩ x (by dsimp only; omega)).far ⟨g, 1, none⟩ y (by dsimp only; omega)).far ⟨g, 2, none⟩ z (by dsimp only; omega)).far ⟨g, 3, none⟩ v (by dsimp only; omega)
theorem below_set4 {w w' : World} {B g : Nat} (h : Below B w w') (hg : B ≤ g) (x y z v : Value) : Below B w ((((w'.setCell ⟨g, 0, none⟩ x).setCell ⟨g, 1, none⟩ y).setCell ⟨g, 2, none⟩ z).setCell ⟨g, 3, none⟩ v) :=
  (((h.setCell (p := ⟨g, 0, none⟩) hg x).setCell (p := ⟨g, 1, none⟩) hg y).setCell (p := ⟨g, 2, none⟩) hg z).setCell (p := ⟨g, 3, none⟩) hg v
theorem OwnVs.set4 {w : World} {B c g : Nat} {b : Option Addr} {M : List Vw} (h : OwnVs w B b c M) (hg : g < B) (x y z v : Value) : OwnVs ((((w.setCell ⟨g, 0, none⟩ x).setCell ⟨g, 1, none⟩ y).setCell ⟨g, 2, none⟩ z).setCell ⟨g, 3, none⟩ v) B b c M := (((h.set hg 0 x).set hg 1 y).set hg 2 z).set hg 3 v
theorem size_set4 (w : World) (g : Nat) (x y z v : Value) : ((((w.setCell ⟨g, 0, none⟩ x).setCell ⟨g, 1, none⟩ y).setCell ⟨g, 2, none⟩ z).setCell ⟨g, 3, none⟩ v).heap.size = w.heap.size := by simp only [World.size_setCell]
set_option maxRecDepth 100000 in
set_option maxHeartbeats 2000000 in
theorem implGroupNew_no (a : Option Addr) (L : List Vw) (ca : Nat) (w : World) (hl : L.length ≤ 1048576) (hs : ∀ x ∈ L, x.l.length ≤ 1048576) (hA : RdVs w a L) (ok : ¬ okViews (L.map (·.l))) :
    Calls Try.prog 12 #[.slice a L.length ca] w fun e w' => e = .returned (.tuple #[.agg #[.slice none 0 0, .slice none 0 0, .slice none 0 0, .slice none 0 0], .bool false]) ∧ Below w.heap.size w w' := by
  have CV := hide1 (fun w' (hb : Below w.heap.size w w') => implViews_any a L ca w' hl hs (hA.later hb))
  rw [decide_eq_false ok] at CV
  have F := hide1 (And.intro (Blk.new w 35 #[.slice none 0 0, .slice none 0 0, .slice none 0 0, .slice none 0 0]) ((Below.refl w.heap.size w).alloc (Nat.le_refl _) (.cells #[.slice none 0 0, .slice none 0 0, .slice none 0 0, .slice none 0 0] 35)))
  clear hA hs ok
  go_enter Try.func12, Try.ntmps12
  go_upto_region 1 with fail
  generalize (w.alloc (.cells #[.slice none 0 0, .slice none 0 0, .slice none 0 0, .slice none 0 0] 35)) = u at F ⊢
  obtain ⟨R, hR⟩ : ∃ G, G = w.heap.size := ⟨_, rfl⟩
  have KR := hide1 F.out.1
  rw [← hR] at KR ⊢
  have hRw : w.heap.size ≤ R := by omega
  clear hR
  go_wp2_with fail
  refine (CV.out _ F.out.2).mono ?_
  rintro e w1 ⟨rfl, hb⟩
  have K1 := hide1 (KR.out.below hb KR.out.lt)
  have E1 := hide1 (F.out.2.trans (hb.mono F.out.2.size))
  have z0 : w1.cell? ⟨R, 0, none⟩ = some (.slice none 0 0) := K1.out.cell 0
  have z1 : w1.cell? ⟨R, 1, none⟩ = some (.slice none 0 0) := K1.out.cell 1
  have z2 : w1.cell? ⟨R, 2, none⟩ = some (.slice none 0 0) := K1.out.cell 2
  have z3 : w1.cell? ⟨R, 3, none⟩ = some (.slice none 0 0) := K1.out.cell 3
  have zf : ∀ j, w1.frozen? ⟨R, j, none⟩ = false := fun j => K1.out.froz j
  have HH := hide1 (Blk.set (Blk.set (Blk.set (Blk.set K1.out 0 (.slice none 0 0)) 1 (.slice none 0 0)) 2 (.slice none 0 0)) 3 (.slice none 0 0))
  dsimp only [List.set_cons_zero, List.set_cons_succ] at HH
  have HB := hide1 ((((E1.out.setCell (p := ⟨R, 0, none⟩) hRw (.slice none 0 0)).setCell (p := ⟨R, 1, none⟩) hRw (.slice none 0 0)).setCell (p := ⟨R, 2, none⟩) hRw (.slice none 0 0)).setCell (p := ⟨R, 3, none⟩) hRw (.slice none 0 0))
  clear hb F KR
  go_wp2
  refine bodyPost_ret (resGp2 Try.results12 _ _ R 35 [.slice none 0 0, .slice none 0 0, .slice none 0 0, .slice none 0 0] _ rfl HH.out Try.underlying35 rfl sizeGp) rfl ?_
  exact ⟨rfl, HB.out⟩
set_option maxRecDepth 100000 in
set_option maxHeartbeats 4000000 in
theorem implGroupNew_yes (a : Option Addr) (L : List Vw) (ca : Nat) (w : World) (hl : L.length ≤ 1048576) (hs : ∀ x ∈ L, x.l.length ≤ 1048576) (hA : RdVs w a L) (ok : okViews (L.map (·.l))) :
    Calls Try.prog 12 #[.slice a L.length ca] w fun e w' => (∃ (vb : Option Addr) (vc : Nat) (M : List Vw) (mb : Nat), e = .returned (.tuple #[.agg #[.slice vb L.length vc, .slice (some ⟨mb, 0, none⟩) 6 6, .slice none 0 0, .slice none 0 0], .bool true]) ∧ M.map (·.l) = L.map (·.l) ∧ OwnVs w' w.heap.size vb vc M ∧ w'.ownsRow w.heap.size 54 16 (.slice (some ⟨mb, 0, none⟩) 6 6) 6 (rowG mrC (sixR (L.map (·.l)) 6)) ∧ (∀ g, (Value.slice vb L.length vc).ownBlock = some g → g ≠ mb) ∧ (∀ x ∈ M, ∀ g, (Value.slice x.a x.l.length x.c).ownBlock = some g → g ≠ mb)) ∧ Below w.heap.size w w' := by
  have CV := hide1 (fun w' (hb : Below w.heap.size w w') => implViews_any a L ca w' hl hs (hA.later hb))
  have CC := hide1 (fun w' (hb : Below w.heap.size w w') => implNewVs_any a L ca w' hl hs (hA.later hb))
  have CN := hide1 (fun (id : Int) w' (hb : Below w.heap.size w w') => implMemberNew_any id a L ca w' hl hs (hA.later hb))
  rw [decide_eq_true ok] at CV
  have F := hide1 (And.intro (Blk.new w 35 #[.slice none 0 0, .slice none 0 0, .slice none 0 0, .slice none 0 0]) ((Below.refl w.heap.size w).alloc (Nat.le_refl _) (.cells #[.slice none 0 0, .slice none 0 0, .slice none 0 0, .slice none 0 0] 35)))
  obtain ⟨vs, hvs⟩ : ∃ vs, vs = L.map (·.l) := ⟨_, rfl⟩
  rw [← hvs] at CN ⊢
  have CC2 := hide1 (show ∀ w', Below w.heap.size w w' → Calls Try.prog 27 #[.slice a L.length ca, .func (.func 28) #[] #[]] w' fun e w'' => (∃ (b : Option Addr) (c : Nat) (M : List Vw), e = .returned (.slice b L.length c) ∧ Hid (M.map (·.l) = vs) ∧ Hid (M.length = L.length) ∧ OwnVs w'' w'.heap.size b c M) ∧ Below w'.heap.size w' w'' from fun w' hb => (CC.out w' hb).mono (fun e w'' ⟨⟨b, c, M, h1, h2, h3⟩, h4⟩ => ⟨⟨b, c, M, h1, hide1 (h2.trans hvs.symm), hide1 (by have := congrArg List.length h2; simpa using this), h3⟩, h4⟩))
  clear CC
  obtain ⟨n, hn⟩ : ∃ n, n = L.length := ⟨_, rfl⟩
  rw [← hn] at CV CN CC2 ⊢
  clear hA hs ok hvs hn hl
  obtain ⟨i0, hi0, hz0, hz1, hz2⟩ := info_parts Try.infoMb
  go_enter Try.func12, Try.ntmps12
  go_upto_region 1 with fail
  generalize (w.alloc (.cells #[.slice none 0 0, .slice none 0 0, .slice none 0 0, .slice none 0 0] 35)) = u at F ⊢
  obtain ⟨R, hR⟩ : ∃ G, G = w.heap.size := ⟨_, rfl⟩
  have KR := hide1 F.out.1
  rw [← hR] at KR ⊢
  have hRw : w.heap.size ≤ R := by omega
  have E0 := hide1 F.out.2
  clear F hR
  go_wp2_with fail
  refine (CV.out _ E0.out).mono ?_
  rintro e w1 ⟨rfl, hb⟩
  have K1 := hide1 (KR.out.below hb KR.out.lt)
  have E1 := hide1 (E0.out.trans (hb.mono E0.out.size))
  clear hb KR E0 CV
  have E2w := E1
  have MV := fun w' : World => run_make (P := Try.prog) w' 31 54 i0 _ Try.underlying31 hi0 hz0 .i64 .i64 6 6 (by omega) (by omega) (by rw [hz2]; omega) (by omega)
  rw [hz1] at MV
  obtain ⟨ZM, hZM⟩ : ∃ Z, Z = madeCells (mbV zeroMb noMA).cells ((6 : Int).toNat * 16) := ⟨_, rfl⟩
  rw [← hZM] at MV
  have HZM := hide1 hZM
  have CL := hide1 (fun W (hb : Below w1.heap.size w1 W) => CC2.out W (E1.out.trans (hb.mono E1.out.size)))
  clear CC2 hZM
  go_upto_region 3 with fail
  go_cut [4] (fun gv wx => ∃ (G MB : Nat) (vb : Option Addr) (vc : Nat) (M : List Vw), gv = .pointer (some ⟨G, 0, none⟩) ∧ Hid (w1.heap.size ≤ G ∧ w1.heap.size ≤ MB ∧ G ≠ MB) ∧ Hid (M.map (·.l) = vs) ∧ Hid (M.length = n) ∧ Hid (Blk wx G 35 [.slice vb n vc, .slice (some ⟨MB, 0, none⟩) 6 6, .slice none 0 0, .slice none 0 0]) ∧ Hid (Blk wx MB 54 ZM.toList) ∧ Hid (OwnVs wx w1.heap.size vb vc M) ∧ Hid (∀ g, ((Value.slice vb n vc).ownBlock = some g ∨ ∃ x ∈ M, (Value.slice x.a x.l.length x.c).ownBlock = some g) → g ≠ MB ∧ g ≠ G) ∧ Hid (Below w1.heap.size w1 wx))
  case first =>
    clear CN K1
    go_region_with ((go_at_call 27; refine (CL.out _ (by go_grown)).mono ?_; rintro e w2 ⟨⟨vb, vc, M, rfl, HM, HL, hv⟩, hb2⟩; (first | (have ZX : Hid (Blk w2 w1.heap.size 35 [.slice none 0 0, .slice none 0 0, .slice none 0 0, .slice none 0 0] ∧ Blk w2 (w1.heap.size + 1) 54 ZM.toList) := (by first | exact zc2 hb2 | exact zc2D hb2); have ZB := hide1 ZX.out.1; have ZR := hide1 ZX.out.2) | (have ZX : Hid (Blk w2 w1.heap.size 54 ZM.toList ∧ Blk w2 (w1.heap.size + 1) 35 [.slice none 0 0, .slice none 0 0, .slice none 0 0, .slice none 0 0]) := (by first | exact zc2 hb2 | exact zc2D hb2); have ZB := hide1 ZX.out.2; have ZR := hide1 ZX.out.1) | (have ZB : Hid (Blk w2 w1.heap.size 35 [.slice none 0 0, .slice none 0 0, .slice none 0 0, .slice none 0 0]) := (by first | exact zcG hb2 | exact zcGD hb2 | exact zcGE hb2)) | (have ZR : Hid (Blk w2 w1.heap.size 54 ZM.toList) := (by first | exact zcG hb2 | exact zcGD hb2 | exact zcGE hb2)) | skip); (try (have z0 := ZB.out.cell 0; have z1 := ZB.out.cell 1; have z2 := ZB.out.cell 2; have z3 := ZB.out.cell 3; simp only [List.getElem?_cons_zero, List.getElem?_cons_succ] at z0 z1 z2 z3; have zf := ZB.out.froz; have lz := ZB.out.lt)); have E2 : Hid (Below w1.heap.size w1 w2) := (show Below w1.heap.size w1 _ by go_grown).trans (hb2.mono (by go_size)); have s2 : w1.heap.size ≤ w2.heap.size := E2.out.size; have HV := hide1 hv; clear hv; have HB2 := hide1 hb2; clear hb2))
    all_goals go_wp2_with fail
    all_goals go_meet
    · have V2 : OwnVs w2 (w1.heap.size) vb vc M := HV.out.base (Nat.le_refl _)
      have LT := V2.lts HL.out
      have N := blkN2 w2 ZM #[.slice vb n vc, .slice (some ⟨w2.heap.size, 0, none⟩) 6 6, .slice none 0 0, .slice none 0 0] 54 35
      exact ⟨w2.heap.size + 1, w2.heap.size, vb, vc, M, rfl, hide1 ⟨by omega, by omega, by omega⟩, HM, HL, hide1 N.2.1, hide1 N.1, hide1 ((V2.base (by omega)).later N.2.2), hide1 (fun g hg => by have := LT g hg; omega), hide1 (E2.out.trans (N.2.2.mono s2))⟩
    · have V2 : OwnVs w2 (w1.heap.size) vb vc M := HV.out.base (Nat.le_refl _)
      have LT := V2.lts HL.out
      have N := blkN2 w2 #[.slice vb n vc, .slice (some ⟨w2.heap.size + 1, 0, none⟩) 6 6, .slice none 0 0, .slice none 0 0] ZM 35 54
      exact ⟨w2.heap.size, w2.heap.size + 1, vb, vc, M, rfl, hide1 ⟨by omega, by omega, by omega⟩, HM, HL, hide1 N.1, hide1 N.2.1, hide1 ((V2.base (by omega)).later N.2.2), hide1 (fun g hg => by have := LT g hg; omega), hide1 (E2.out.trans (N.2.2.mono s2))⟩
    · have V2 : OwnVs w2 (w1.heap.size + 1) vb vc M := HV.out.base (by show w1.heap.size + 1 ≤ (World.alloc w1 _).heap.size; rw [World.size_alloc]; omega)
      have LT := V2.lts HL.out
      have N1 := Blk.new w2 35 #[.slice vb n vc, .slice (some ⟨w1.heap.size, 0, none⟩) 6 6, .slice none 0 0, .slice none 0 0]
      have N2 := (Below.refl w2.heap.size w2).alloc (Nat.le_refl _) (.cells #[.slice vb n vc, .slice (some ⟨w1.heap.size, 0, none⟩) 6 6, .slice none 0 0, .slice none 0 0] 35)
      have lz := ZR.out.lt
      exact ⟨w2.heap.size, w1.heap.size, vb, vc, M, rfl, hide1 ⟨by omega, by omega, by omega⟩, HM, HL, hide1 N1, hide1 (ZR.out.below N2 lz), hide1 ((V2.base (by omega)).later N2), hide1 (fun g hg => by have := LT g hg; omega), hide1 (E2.out.trans (N2.mono s2))⟩
    · have V2 : OwnVs w2 (w1.heap.size + 2) vb vc M := HV.out.base (by show w1.heap.size + 2 ≤ (World.alloc (World.alloc w1 _) _).heap.size; rw [World.size_alloc, World.size_alloc]; omega)
      have LT := V2.lts HL.out
      exact ⟨w1.heap.size + 1, w1.heap.size, vb, vc, M, rfl, hide1 ⟨by omega, by omega, by omega⟩, HM, HL, hide1 (blk_set4 ZB.out _ _ _ _), hide1 (blk_far4 ZR.out (by omega) _ _ _ _), hide1 ((V2.set4 (by omega) _ _ _ _).base (by omega)), hide1 (fun g hg => by have := LT g hg; omega), hide1 (below_set4 E2.out (by omega) _ _ _ _)⟩
    · have V2 : OwnVs w2 (w1.heap.size + 1) vb vc M := HV.out.base (by show w1.heap.size + 1 ≤ (World.alloc w1 _).heap.size; rw [World.size_alloc]; omega)
      have LT := V2.lts HL.out
      obtain ⟨W, hW⟩ : ∃ W, W = ((((w2.setCell ⟨w1.heap.size, 0, none⟩ (.slice vb n vc)).setCell ⟨w1.heap.size, 1, none⟩ (.slice (some ⟨w2.heap.size, 0, none⟩) 6 6)).setCell ⟨w1.heap.size, 2, none⟩ (.slice none 0 0)).setCell ⟨w1.heap.size, 3, none⟩ (.slice none 0 0)) := ⟨_, rfl⟩
      have hz : W.heap.size = w2.heap.size := by rw [hW]; exact size_set4 _ _ _ _ _ _
      have b4 : Blk W w1.heap.size 35 [.slice vb n vc, .slice (some ⟨w2.heap.size, 0, none⟩) 6 6, .slice none 0 0, .slice none 0 0] := by rw [hW]; exact blk_set4 ZB.out _ _ _ _
      have o4 : OwnVs W (w1.heap.size + 1) vb vc M := by rw [hW]; exact V2.set4 (by omega) _ _ _ _
      have e4 : Below w1.heap.size w1 W := by rw [hW]; exact below_set4 E2.out (by omega) _ _ _ _
      rw [← hW]
      have N1 := Blk.new W 54 ZM
      have N2 := (Below.refl W.heap.size W).alloc (Nat.le_refl _) (.cells ZM 54)
      rw [hz] at N1
      exact ⟨w1.heap.size, w2.heap.size, vb, vc, M, rfl, hide1 ⟨by omega, by omega, by omega⟩, HM, HL, hide1 (b4.below N2 b4.lt), hide1 N1, hide1 ((o4.base (by omega)).later N2), hide1 (fun g hg => by have := LT g hg; omega), hide1 (e4.trans (N2.mono e4.size))⟩
    · have V2 : OwnVs w2 (w1.heap.size + 2) vb vc M := HV.out.base (by show w1.heap.size + 2 ≤ (World.alloc (World.alloc w1 _) _).heap.size; rw [World.size_alloc, World.size_alloc]; omega)
      have LT := V2.lts HL.out
      exact ⟨w1.heap.size, w1.heap.size + 1, vb, vc, M, rfl, hide1 ⟨by omega, by omega, by omega⟩, HM, HL, hide1 (blk_set4 ZB.out _ _ _ _), hide1 (blk_far4 ZR.out (by omega) _ _ _ _), hide1 ((V2.set4 (by omega) _ _ _ _).base (by omega)), hide1 (fun g hg => by have := LT g hg; omega), hide1 (below_set4 E2.out (by omega) _ _ _ _)⟩
  case rest =>
    obtain ⟨G, MB, vb, vc, M, rfl, HG, HM, HL, KG, KM, OV, AP, BX⟩ := hcut
    obtain ⟨d1, d2, d3⟩ := HG.out
    have K2 := hide1 (K1.out.below BX.out K1.out.lt)
    have E2 := hide1 (E1.out.trans (BX.out.mono E1.out.size))
    have RG : R < w1.heap.size := K1.out.lt
    have swx : w1.heap.size ≤ wc.heap.size := BX.out.size
    have sw1 : w.heap.size ≤ w1.heap.size := E1.out.size
    have O0 := hide1 (show wc.ownsRow w1.heap.size 54 16 (.slice (some ⟨MB, 0, none⟩) 6 6) 6 (rowG mrC (sixR vs 0 ++ List.replicate (6 - 0) ⟨zeroMb, noMA⟩)) from by
      have e : ZM.toList = rowG mrC (List.replicate 6 (⟨zeroMb, noMA⟩ : Mr)) := by rw [HZM.out]; exact madeG encMr (by decide) (⟨zeroMb, noMA⟩ : Mr) 6
      rw [show sixR vs 0 ++ List.replicate (6 - 0) (⟨zeroMb, noMA⟩ : Mr) = List.replicate 6 ⟨zeroMb, noMA⟩ from rfl, ← e]
      exact blk_own6 KM.out (by rw [e, rowG_length mrC 16 encMr.len]; rfl) d2)
    have KRw := K1
    clear KM HZM HG E1
    have g0 : wc.cell? ⟨G, 1, none⟩ = some (.slice (some ⟨MB, 0, none⟩) 6 6) := KG.out.cell 1
    go_wp2
    go_loopw [17] (fun iv wr => ∃ i : Nat, i ≤ 6 ∧ iv = .int .i64 (i : Int) ∧ Hid (Blk wr G 35 [.slice vb n vc, .slice (some ⟨MB, 0, none⟩) 6 6, .slice none 0 0, .slice none 0 0]) ∧ Hid (wr.ownsRow w1.heap.size 54 16 (.slice (some ⟨MB, 0, none⟩) 6 6) 6 (rowG mrC (sixR vs i ++ List.replicate (6 - i) ⟨zeroMb, noMA⟩))) ∧ Hid (OwnVs wr w1.heap.size vb vc M) ∧ Hid (Below w1.heap.size w1 wr)) (fun iv _ => 6 - (intOf iv).toNat)
    case atStart => exact ⟨0, by omega, rfl, KG, O0, OV, BX⟩
    case round =>
      clear KG O0 OV BX g0
      obtain ⟨i, hi, rfl, KB, OW, OVr, BB⟩ := hrel
      by_cases hlt : i < 6
      · have k1 : (i : Int) < 6 := by omega
        have ER := hide1 (show Below w.heap.size w wr from (show Below w.heap.size w w1 from E2w.out).trans (BB.out.mono sw1))
        have su : w1.heap.size ≤ wr.heap.size := BB.out.size
        obtain ⟨y, hy⟩ : ∃ y : Mr, y = ⟨(newMb ((i : Int) + 1) vs).1, noMA⟩ := ⟨_, rfl⟩
        have CN1 := hide1 (fun W (hb : Below wr.heap.size wr W) => CN.out ((i : Int) + 1) W (ER.out.trans (hb.mono ER.out.size)))
        obtain ⟨bq, hbq⟩ : ∃ q, q = (newMb ((i : Int) + 1) vs).2 := ⟨_, rfl⟩
        rw [show mbV (newMb ((i : Int) + 1) vs).1 noMA = .agg (mbA y.m y.a) by rw [hy]; rfl, ← hbq] at CN1
        have HY := hide1 hy
        have ONE := hide1 (oneMb y.m y.a)
        clear hy hbq
        have lg : G < wr.heap.size := KB.out.lt
        have z1 : wr.cell? ⟨G, 1, none⟩ = some (.slice (some ⟨MB, 0, none⟩) 6 6) := KB.out.cell 1
        have wi : IntKind.i64.wrap ((i : Int) + 1) = (i : Int) + 1 := by rw [IntKind.wrap_i64]; omega
        have LN : (mbA y.m y.a).size = 16 := rfl
        go_wp2_with fail
        go_region_law ((go_simp; go_at_call 29; refine (CN1.out _ (by go_grown)).mono ?_; rintro e w4 ⟨rfl, hb4⟩; have D4 : Hid (Below wr.heap.size wr w4) := (show Below wr.heap.size wr _ by go_grown).trans hb4; have O4 := hide1 (own_kept OW.out D4.out); clear z1 hb4; have z1 : w4.cell? ⟨G, 1, none⟩ = some (.slice (some ⟨MB, 0, none⟩) 6 6) := (KB.out.below D4.out lg).cell 1; have ST : (storeCells ⟨MB, i * 16, none⟩ (mbA y.m y.a).toList).run Try.prog w4 = .ok () (putG w4 MB (i * 16) (mbA y.m y.a).toList) := run_storeC (wr_of_own O4.out (i * 16) (mbA y.m y.a).size (by rw [LN]; omega)) ONE.out))
        all_goals go_wp2
        all_goals go_roundw
        all_goals first
          | (case rel =>
              have gP := grown_putG (mbA y.m y.a).toList (i * 16) (World.grownBy.refl w4 (some MB))
              refine ⟨i + 1, by omega, by go_num, hide1 (gblk gP (KB.out.below D4.out lg) (fun e => by injection e with e; exact d3 e.symm)), ?_, hide1 ((OVr.out.later D4.out).gr HL.out gP (fun g hg e => by injection e with e; exact (AP.out g hg).1 e.symm)), hide1 (below_putG _ _ (BB.out.trans (D4.out.mono su)) d2)⟩
              have h9 := own_putG (mbA y.m y.a).toList (i * 16) O4.out
              rw [← six_fill vs ⟨zeroMb, noMA⟩ i hlt, rowG_set mrC 16 encMr.len _ _ _ (by rw [List.length_append, six_len, List.length_replicate]; omega), ← HY.out]
              exact hide1 h9)
          | (case measure => simp [intOf]; omega)
      · obtain rfl : i = 6 := by omega
        have k1 : ¬ ((6 : Int) < 6) := by omega
        have g0 : wr.cell? ⟨G, 0, none⟩ = some (.slice vb n vc) := KB.out.cell 0
        have g1 : wr.cell? ⟨G, 1, none⟩ = some (.slice (some ⟨MB, 0, none⟩) 6 6) := KB.out.cell 1
        have g2 : wr.cell? ⟨G, 2, none⟩ = some (.slice none 0 0) := KB.out.cell 2
        have g3 : wr.cell? ⟨G, 3, none⟩ = some (.slice none 0 0) := KB.out.cell 3
        have KR9 := hide1 (KRw.out.below BB.out RG)
        have r0 : wr.cell? ⟨R, 0, none⟩ = some (.slice none 0 0) := KR9.out.cell 0
        have r1 : wr.cell? ⟨R, 1, none⟩ = some (.slice none 0 0) := KR9.out.cell 1
        have r2 : wr.cell? ⟨R, 2, none⟩ = some (.slice none 0 0) := KR9.out.cell 2
        have r3 : wr.cell? ⟨R, 3, none⟩ = some (.slice none 0 0) := KR9.out.cell 3
        have rf : ∀ j, wr.frozen? ⟨R, j, none⟩ = false := fun j => KR9.out.froz j
        have HH := hide1 (blk_set4 KR9.out (.slice vb n vc) (.slice (some ⟨MB, 0, none⟩) 6 6) (.slice none 0 0) (.slice none 0 0))
        have ER := hide1 (show Below w.heap.size w wr from (show Below w.heap.size w w1 from E2w.out).trans (BB.out.mono sw1))
        have HB := hide1 (below_set4 ER.out hRw (.slice vb n vc) (.slice (some ⟨MB, 0, none⟩) 6 6) (.slice none 0 0) (.slice none 0 0))
        have PV := hide1 ((OVr.out.set4 RG (.slice vb n vc) (.slice (some ⟨MB, 0, none⟩) 6 6) (.slice none 0 0) (.slice none 0 0)).base sw1)
        have o9 := OW.out
        rw [show sixR vs 6 ++ List.replicate (6 - 6) (⟨zeroMb, noMA⟩ : Mr) = sixR vs 6 by simp] at o9
        have PM := hide1 (own_base (own_farB R (own_farB R (own_farB R (own_farB R o9 RG 0 (.slice vb n vc)) RG 1 (.slice (some ⟨MB, 0, none⟩) 6 6)) RG 2 (.slice none 0 0)) RG 3 (.slice none 0 0)) sw1)
        clear KB KR9 BB ER o9 OVr OW
        go_wp2
        refine bodyPost_ret (resGp2 Try.results12 _ _ R 35 [.slice vb n vc, .slice (some ⟨MB, 0, none⟩) 6 6, .slice none 0 0, .slice none 0 0] _ rfl HH.out Try.underlying35 rfl sizeGp) rfl ?_
        exact ⟨⟨vb, vc, M, MB, rfl, HM.out, PV.out, PM.out, fun g hg => (AP.out g (.inl hg)).1, fun x hx g hg => (AP.out g (.inr ⟨x, hx, hg⟩)).1⟩, HB.out⟩
end Go.Proofs.Ytmfpgnoeemjhiaa
namespace Go.Proofs.Ytmfpgnoeemjhiaa
open Go.RowKit
set_option linter.unusedVariables false

structure GpR (w : World) (vb : Option Addr) (M : List Vw) (mb : Option Addr) (l : List Mr) : Prop where
  v : RdVs w vb M
  m : RdG mrC 16 w mb l
theorem GpR.later {w w' : World} {vb mb : Option Addr} {M : List Vw} {l : List Mr} (h : GpR w vb M mb l) (hb : Below w.heap.size w w') : GpR w' vb M mb l := ⟨h.v.later hb, h.m.later hb⟩
structure GpO (w : World) (B : Nat) (vb : Option Addr) (vc : Nat) (M : List Vw) (mb : Option Addr) (mc : Nat) (l : List Mr) : Prop where
  v : OwnVs w B vb vc M
  m : w.ownsRow B 54 16 (.slice mb l.length mc) l.length (rowG mrC l)
  d : ∀ g, ((Value.slice vb M.length vc).ownBlock = some g ∨ ∃ x ∈ M, (Value.slice x.a x.l.length x.c).ownBlock = some g) → (Value.slice mb l.length mc).ownBlock ≠ some g
theorem GpO.rd {w : World} {B vc mc : Nat} {vb mb : Option Addr} {M : List Vw} {l : List Mr} (h : GpO w B vb vc M mb mc l) : GpR w vb M mb l := ⟨h.v.rd, rdG_of_own encMr.len h.m rfl⟩
theorem GpO.later {w w' : World} {B vc mc : Nat} {vb mb : Option Addr} {M : List Vw} {l : List Mr} (h : GpO w B vb vc M mb mc l) (hb : Below w.heap.size w w') : GpO w' B vb vc M mb mc l := ⟨h.v.later hb, own_kept h.m hb, h.d⟩
/-- No row of a group lies in this block. -/
def OffG (vb : Option Addr) (vc : Nat) (M : List Vw) (mb : Option Addr) (mc : Nat) (l : List Mr) (g : Nat) : Prop := (∀ x ∈ M, (Value.slice x.a x.l.length x.c).ownBlock ≠ some g) ∧ (Value.slice mb l.length mc).ownBlock ≠ some g
theorem GpO.off {w : World} {B vc mc g : Nat} {vb mb : Option Addr} {M : List Vw} {l : List Mr} (h : GpO w B vb vc M mb mc l) (hg : g < B ∨ w.heap.size ≤ g) : OffG vb vc M mb mc l g := ⟨fun x hx e => by have := (h.v.r x hx).lt g e; omega, fun e => by have := h.m.lt g e; omega⟩
theorem own_blkX {w w' : World} {B n k : Nat} {e : TypeId} {v : Value} {xs : List Value} (h : w.ownsRow B e k v n xs) (hs : w.heap.size ≤ w'.heap.size) (hb : ∀ g, v.ownBlock = some g → w'.heap[g]? = w.heap[g]?) : w'.ownsRow B e k v n xs := by
  rcases h.2 with h0 | ⟨g, cap, cur, hv, h1, h2, h3⟩
  · exact ⟨h.1, .inl h0⟩
  · exact ⟨h.1, .inr ⟨g, cap, cur, hv, h1, (hb g (by rw [hv]; rfl)).trans h2, h3⟩⟩
structure GpK (w : World) (vb : Option Addr) (M : List Vw) (mb : Option Addr) (l : List Mr) : Prop where
  r : RdG vwC 1 w vb M
  v : ∀ j (h : j < M.length), RdZ w M[j].a (patZ (1 + sumV M j) M[j].l.length)
  m : RdG mrC 16 w mb (patG mMr 13 (1 + sumV M M.length) l.length)
theorem GpK.later {w w' : World} {vb mb : Option Addr} {M : List Vw} {l : List Mr} (h : GpK w vb M mb l) (hb : Below w.heap.size w w') : GpK w' vb M mb l := ⟨h.r.later hb, fun j hj => (h.v j hj).later hb, h.m.later hb⟩
def mkQ (M : List Vw) (l : List Mr) : Nat := 1 + sumV M M.length + 13 * l.length
set_option maxRecDepth 100000 in
set_option maxHeartbeats 2000000 in
theorem eqGroup_same (vb vb' mb mb' : Option Addr) (vc vc' mc mc' : Nat) (M M' : List Vw) (l : List Mr) (w : World) (hl : M.length ≤ 1048576) (hs : ∀ x ∈ M, x.l.length ≤ 1048576) (hm : M.map (·.l) = M'.map (·.l)) (hl2 : l.length ≤ 6) (hn : ∀ x ∈ l, NoR x) (hA : GpR w vb M mb l) (hB : GpR w vb' M' mb' l) :
    Calls Try.prog 13 #[.agg #[.slice vb M.length vc, .slice mb l.length mc, .slice none 0 0, .slice none 0 0], .agg #[.slice vb' M'.length vc', .slice mb' l.length mc', .slice none 0 0, .slice none 0 0]] w fun e w' => e = .returned (.bool true) ∧ Below w.heap.size w w' := by
  have N := blkN2 w #[.slice vb M.length vc, .slice mb l.length mc, .slice none 0 0, .slice none 0 0] #[.slice vb' M'.length vc', .slice mb' l.length mc', .slice none 0 0, .slice none 0 0] 35 35
  have F := hide1 N
  clear N
  have HA := hide1 hA
  have HB := hide1 hB
  have e1 : M'.length = M.length := by have := congrArg List.length hm; simpa using this.symm
  have CV := hide1 (fun W (hb : Below w.heap.size w W) => (show Calls Try.prog 14 #[.slice vb M.length vc, .slice vb' M'.length vc'] W _ by rw [e1]; exact eqIntSS_same vb vb' M M' vc vc' W hl hs hm (HA.out.v.later hb) (HB.out.v.later hb)))
  have CM := hide1 (fun W (hb : Below w.heap.size w W) => eqMemberS_same mb mb' l mc mc' W (by omega) hn (HA.out.m.later hb) (HB.out.m.later hb))
  have CF := hide1 (fun W => nil_eqMsgS W)
  have CC := hide1 (fun W => nil_eqCallS W)
  clear hA hB hn hs hm HA HB e1
  go_enter Try.func13, Try.ntmps13
  go_upto_region 1 with fail
  generalize ((w.alloc (.cells #[.slice vb M.length vc, .slice mb l.length mc, .slice none 0 0, .slice none 0 0] 35)).alloc (.cells #[.slice vb' M'.length vc', .slice mb' l.length mc', .slice none 0 0, .slice none 0 0] 35)) = u at F ⊢
  obtain ⟨X, hX⟩ : ∃ G, G = w.heap.size := ⟨_, rfl⟩
  obtain ⟨Y, hY⟩ : ∃ G, G = w.heap.size + 1 := ⟨_, rfl⟩
  have KX := hide1 F.out.1
  have KY := hide1 F.out.2.1
  rw [← hY] at KY ⊢
  rw [← hX] at KX ⊢
  have E0 := hide1 F.out.2.2
  clear F hX hY
  have x0 : u.cell? ⟨X, 0, none⟩ = some (.slice vb M.length vc) := KX.out.cell 0
  have y0 : u.cell? ⟨Y, 0, none⟩ = some (.slice vb' M'.length vc') := KY.out.cell 0
  go_wp2_with fail
  refine (CV.out _ E0.out).mono ?_
  rintro e w0 ⟨rfl, hb⟩
  clear x0 y0
  have KX := hide1 (KX.out.below hb KX.out.lt)
  have KY := hide1 (KY.out.below hb KY.out.lt)
  have E0 := hide1 (E0.out.trans (hb.mono E0.out.size))
  clear hb
  have x1 : w0.cell? ⟨X, 1, none⟩ = some (.slice mb l.length mc) := KX.out.cell 1
  have y1 : w0.cell? ⟨Y, 1, none⟩ = some (.slice mb' l.length mc') := KY.out.cell 1
  go_wp2_with fail
  refine (CM.out _ E0.out).mono ?_
  rintro e w1 ⟨rfl, hb⟩
  clear x1 y1
  have KX := hide1 (KX.out.below hb KX.out.lt)
  have KY := hide1 (KY.out.below hb KY.out.lt)
  have E0 := hide1 (E0.out.trans (hb.mono E0.out.size))
  clear hb
  have x2 : w1.cell? ⟨X, 2, none⟩ = some (.slice none 0 0) := KX.out.cell 2
  have y2 : w1.cell? ⟨Y, 2, none⟩ = some (.slice none 0 0) := KY.out.cell 2
  go_wp2_with fail
  refine (CF.out _).mono ?_
  rintro e w2 ⟨rfl, rfl⟩
  clear x2 y2
  have x3 : w2.cell? ⟨X, 3, none⟩ = some (.slice none 0 0) := KX.out.cell 3
  have y3 : w2.cell? ⟨Y, 3, none⟩ = some (.slice none 0 0) := KY.out.cell 3
  go_wp2_with fail
  refine (CC.out _).mono ?_
  rintro e w3 ⟨rfl, rfl⟩
  clear x3 y3
  go_wp2
  go_ret
  exact ⟨rfl, E0.out⟩
set_option maxRecDepth 100000 in
set_option maxHeartbeats 2000000 in
theorem markGroup_any (vb mb : Option Addr) (vc mc B : Nat) (M : List Vw) (l : List Mr) (w : World) (hl : M.length ≤ 1048576) (hs : ∀ x ∈ M, x.l.length ≤ 1048576) (hsum : sumV M M.length ≤ 1048576) (hl2 : l.length ≤ 6) (hn : ∀ x ∈ l, NoR x) (hB : B ≤ w.heap.size) (hO : GpO w B vb vc M mb mc l) :
    Calls Try.prog 16 #[.agg #[.slice vb M.length vc, .slice mb l.length mc, .slice none 0 0, .slice none 0 0], .int .i64 1] w fun e w' => e = .returned (.int .i64 (mkQ M l : Int)) ∧ GpK w' vb M mb l ∧ Below B w w' ∧ (∀ g, OffG vb vc M mb mc l g → g < w.heap.size → w'.heap[g]? = w.heap[g]?) := by
  have F := hide1 (And.intro (Blk.new w 35 #[.slice vb M.length vc, .slice mb l.length mc, .slice none 0 0, .slice none 0 0]) ((Below.refl w.heap.size w).alloc (Nat.le_refl _) (.cells #[.slice vb M.length vc, .slice mb l.length mc, .slice none 0 0, .slice none 0 0] 35)))
  have HO := hide1 hO
  have HN := hide1 (nil_row hn)
  have HS := hide1 hs
  clear hO hn hs
  go_enter Try.func16, Try.ntmps16
  go_upto_region 1 with fail
  generalize (w.alloc (.cells #[.slice vb M.length vc, .slice mb l.length mc, .slice none 0 0, .slice none 0 0] 35)) = u at F ⊢
  obtain ⟨X, hX⟩ : ∃ G, G = w.heap.size := ⟨_, rfl⟩
  have KX := hide1 F.out.1
  rw [← hX] at KX ⊢
  have E0 := hide1 F.out.2
  have OX := hide1 (HO.out.off (g := X) (.inr (by omega)))
  have su : w.heap.size ≤ u.heap.size := F.out.2.size
  clear F hX
  have OU := hide1 (HO.out.later E0.out)
  have CV := hide1 (markIntSS_pat vb M vc B u hl HS.out hsum (by omega) OU.out.v)
  have x0 : u.cell? ⟨X, 0, none⟩ = some (.slice vb M.length vc) := KX.out.cell 0
  have lX : X < u.heap.size := KX.out.lt
  go_wp2_with fail
  refine CV.out.mono ?_
  rintro e w1 ⟨⟨q, hq, rfl⟩, hV1, hR1, hB1, hF1⟩
  have HQ := hide1 hq
  have q1 : q ≤ 16777216 := by omega
  have q0 : 0 < q := by omega
  have V1 := hide1 hV1
  have R1 := hide1 hR1
  have B1 := hide1 hB1
  have F1 := hide1 hF1
  have s1 : u.heap.size ≤ w1.heap.size := by
    by_cases c : u.heap.size ≤ w1.heap.size
    · exact c
    · exfalso
      have := hB1.size
      omega
  have K1 := hide1 (show Blk w1 X 35 [.slice vb M.length vc, .slice mb l.length mc, .slice none 0 0, .slice none 0 0] from (hF1 X OX.out.1 lX).trans KX.out)
  have M1 := hide1 (show w1.ownsRow B 54 16 (.slice mb l.length mc) l.length (rowG mrC l) from own_blkX OU.out.m s1 (fun g hg => hF1 g (fun x hx e => OU.out.d g (.inr ⟨x, hx, e⟩) hg) (OU.out.m.lt g hg).2))
  clear hq hV1 hR1 hB1 hF1 CV x0 KX
  have CM := hide1 (markMemberS_any (.slice mb l.length mc) l.length q (rowG mrC l) B w1 hl2 q1 q0 HN.out M1.out)
  obtain ⟨q2, hq2⟩ : ∃ z : Nat, z = q + 13 * l.length := ⟨_, rfl⟩
  have e2 : (q : Int) + 13 * (l.length : Int) = (q2 : Int) := by omega
  rw [e2] at CM
  have HQ2 := hide1 hq2
  clear hq2 e2
  have x1 : w1.cell? ⟨X, 1, none⟩ = some (.slice mb l.length mc) := K1.out.cell 1
  go_wp2_with fail
  refine CM.out.mono ?_
  rintro e w2 ⟨rfl, ho, hg⟩
  have P2 := hide1 ho
  have G2 := hide1 hg
  have K2 := hide1 (gblk hg K1.out (fun e => OX.out.2 e))
  clear ho hg CM x1
  have x2 : w2.cell? ⟨X, 2, none⟩ = some (.slice none 0 0) := K2.out.cell 2
  have CF := hide1 (fun z W => nil_markMsgS z W)
  have CC := hide1 (fun z W => nil_markCallS z W)
  go_wp2_with fail
  refine (CF.out _ _).mono ?_
  rintro e w3 ⟨rfl, rfl⟩
  have x3 : w3.cell? ⟨X, 3, none⟩ = some (.slice none 0 0) := K2.out.cell 3
  clear x2
  go_wp2_with fail
  refine (CC.out _ _).mono ?_
  rintro e w4 ⟨rfl, rfl⟩
  clear x3
  go_wp2
  go_ret
  have nb : ∀ g, (Value.slice mb l.length mc).ownBlock = some g → B ≤ g := fun g hg => (HO.out.m.lt g hg).1
  refine ⟨by show Ending.returned (.int .i64 (q2 : Int)) = _; have h1 := HQ2.out; have h2 := HQ.out; congr 2; unfold mkQ; omega, ⟨R1.out.gr G2.out (fun b o e hn h => ?_), fun j hj => (rdZ_of_own (V1.out j hj)).gr G2.out (fun b o e hn h => ?_), ?_⟩, ?_, fun g hg hl => ?_⟩
  · have ho := OU.out.v.o
    rcases ho.2 with ⟨hv, h0⟩ | ⟨g, cap, cur, hv, _⟩
    · omega
    · injection hv with v1 v2 v3
      rw [e] at v1
      injection v1 with v1
      injection v1 with v1 v4
      exact OU.out.d b (.inl (by rw [e, v4]; rfl)) h
  · have ho := V1.out j hj
    rw [patZ_length] at hn
    rcases ho.2 with ⟨hv, h0⟩ | ⟨g, cap, cur, hv, _⟩
    · omega
    · injection hv with v1 v2 v3
      rw [e] at v1
      injection v1 with v1
      injection v1 with v1 v4
      exact OU.out.d b (.inr ⟨M[j], List.getElem_mem hj, by rw [e, v4]; rfl⟩) h
  · have := rdG_of_own encMr.len P2.out (patG_length _ _ _ _)
    rw [HQ.out] at this
    exact this
  · exact (E0.out.mono hB).trans (B1.out.trans (gbelow G2.out nb (by omega)))
  · have h1 : u.heap[g]? = w.heap[g]? := E0.out.block g hl
    have h2 := F1.out g hg.1 (by omega)
    have h3 := G2.out.block g (by omega) (fun e => hg.2 e.symm)
    exact h3.trans (h2.trans h1)
set_option maxRecDepth 100000 in
set_option maxHeartbeats 2000000 in
theorem heldGroup_any (vb mb : Option Addr) (vc mc : Nat) (M : List Vw) (l : List Mr) (w : World) (hl : M.length ≤ 1048576) (hs : ∀ x ∈ M, x.l.length ≤ 1048576) (hsum : sumV M M.length ≤ 1048576) (hl2 : l.length ≤ 6) (hK : GpK w vb M mb l) :
    Calls Try.prog 17 #[.agg #[.slice vb M.length vc, .slice mb l.length mc, .slice none 0 0, .slice none 0 0], .int .i64 1] w fun e w' => e = .returned (.int .i64 (mkQ M l : Int)) ∧ Below w.heap.size w w' := by
  have F := hide1 (And.intro (Blk.new w 35 #[.slice vb M.length vc, .slice mb l.length mc, .slice none 0 0, .slice none 0 0]) ((Below.refl w.heap.size w).alloc (Nat.le_refl _) (.cells #[.slice vb M.length vc, .slice mb l.length mc, .slice none 0 0, .slice none 0 0] 35)))
  have HK := hide1 hK
  have HS := hide1 hs
  clear hK hs
  go_enter Try.func17, Try.ntmps17
  go_upto_region 1 with fail
  generalize (w.alloc (.cells #[.slice vb M.length vc, .slice mb l.length mc, .slice none 0 0, .slice none 0 0] 35)) = u at F ⊢
  obtain ⟨X, hX⟩ : ∃ G, G = w.heap.size := ⟨_, rfl⟩
  have KX := hide1 F.out.1
  rw [← hX] at KX ⊢
  have E0 := hide1 F.out.2
  clear F hX
  have HU := hide1 (HK.out.later E0.out)
  have CV := hide1 (heldIntSS_any vb M vc u hl HS.out hsum HU.out.r HU.out.v)
  have x0 : u.cell? ⟨X, 0, none⟩ = some (.slice vb M.length vc) := KX.out.cell 0
  go_wp2_with fail
  refine CV.out.mono ?_
  rintro e w1 ⟨⟨q, hq, rfl⟩, rfl⟩
  have HQ := hide1 hq
  have q1 : q ≤ 16777216 := by omega
  have q0 : 0 < q := by omega
  have qn : ¬ ((q : Int) < 0) := by omega
  clear CV x0
  have CM := hide1 (heldMemberS_any mb l.length mc q w1 hl2 q1 q0 (by rw [hq]; exact HU.out.m))
  obtain ⟨q2, hq2⟩ : ∃ z : Nat, z = q + 13 * l.length := ⟨_, rfl⟩
  have e2 : (q : Int) + 13 * (l.length : Int) = (q2 : Int) := by omega
  rw [e2] at CM
  have HQ2 := hide1 hq2
  have qn2 : ¬ ((q2 : Int) < 0) := by omega
  clear hq2 e2 hq
  have x1 : w1.cell? ⟨X, 1, none⟩ = some (.slice mb l.length mc) := KX.out.cell 1
  go_wp2_with fail
  refine CM.out.mono ?_
  rintro e w2 ⟨rfl, hb⟩
  have K2 := hide1 (KX.out.below hb KX.out.lt)
  have E2 := hide1 (E0.out.trans (hb.mono E0.out.size))
  clear hb CM x1
  have x2 : w2.cell? ⟨X, 2, none⟩ = some (.slice none 0 0) := K2.out.cell 2
  have CF := hide1 (fun z W => nil_heldMsgS z W)
  have CC := hide1 (fun z W => nil_heldCallS z W)
  go_wp2_with fail
  refine (CF.out _ _).mono ?_
  rintro e w3 ⟨rfl, rfl⟩
  have x3 : w3.cell? ⟨X, 3, none⟩ = some (.slice none 0 0) := K2.out.cell 3
  clear x2
  go_wp2_with fail
  refine (CC.out _ _).mono ?_
  rintro e w4 ⟨rfl, rfl⟩
  clear x3
  go_wp2
  go_ret
  exact ⟨by show Ending.returned (.int .i64 (q2 : Int)) = _; have h1 := HQ2.out; have h2 := HQ.out; congr 2; unfold mkQ; omega, E2.out⟩
end Go.Proofs.Ytmfpgnoeemjhiaa
namespace Go.Proofs.Ytmfpgnoeemjhiaa
open Go.RowKit
set_option linter.unusedVariables false

theorem GpO.heap {w w' : World} {B vc mc : Nat} {vb mb : Option Addr} {M : List Vw} {l : List Mr} (h : GpO w B vb vc M mb mc l) (hs : w.heap.size ≤ w'.heap.size) (hf : ∀ g, B ≤ g → g < w.heap.size → w'.heap[g]? = w.heap[g]?) : GpO w' B vb vc M mb mc l :=
  ⟨⟨own_blkX h.v.o hs (fun g hg => hf g (h.v.o.lt g hg).1 (h.v.o.lt g hg).2), fun x hx => own_blkX (h.v.r x hx) hs (fun g hg => hf g ((h.v.r x hx).lt g hg).1 ((h.v.r x hx).lt g hg).2), h.v.d, h.v.n⟩, own_blkX h.m hs (fun g hg => hf g (h.m.lt g hg).1 (h.m.lt g hg).2), h.d⟩
def vsR (vs : List (List Int)) : List (List Int) := if okViews vs then vs else []
def msR (vs : List (List Int)) : List Mr := if okViews vs then sixR vs 6 else []
theorem new_noR (id : Int) (vs : List (List Int)) : NoR ⟨(newMb id vs).1, noMA⟩ := by
  unfold newMb
  split
  · exact ⟨rfl, rfl, rfl, rfl⟩
  · exact ⟨rfl, rfl, rfl, rfl⟩
theorem ms_noR (vs : List (List Int)) : ∀ x ∈ msR vs, NoR x := by
  intro x hx
  unfold msR at hx
  split at hx
  · unfold sixR at hx
    obtain ⟨k, _, rfl⟩ := List.mem_map.1 hx
    exact new_noR _ _
  · simp at hx
theorem ms_len (vs : List (List Int)) : (msR vs).length ≤ 6 := by
  unfold msR
  split
  · rw [six_len]; omega
  · simp
theorem specGroupNew_any (a : Option Addr) (L : List Vw) (ca : Nat) (w : World) (hl : L.length ≤ 1048576) (hs : ∀ x ∈ L, x.l.length ≤ 1048576) (hA : RdVs w a L) :
    Calls Try.prog 10 #[.slice a L.length ca] w fun e w' => (∃ (vb : Option Addr) (vc : Nat) (M : List Vw) (mb : Option Addr) (mc : Nat), e = .returned (.tuple #[.agg #[.slice vb M.length vc, .slice mb (msR (L.map (·.l))).length mc, .slice none 0 0, .slice none 0 0], .bool (decide (okViews (L.map (·.l))))]) ∧ M.map (·.l) = vsR (L.map (·.l)) ∧ GpR w' vb M mb (msR (L.map (·.l)))) ∧ Below w.heap.size w w' := by
  by_cases c : okViews (L.map (·.l))
  · refine (specGroupNew_yes a L ca w hl hs hA c).mono (fun e w' ⟨⟨vb, vc, M, mb, mc, h1, h2, h3, h4⟩, h5⟩ => ⟨⟨vb, vc, M, mb, mc, ?_, ?_, h3, ?_⟩, h5⟩)
    · have e1 : M.length = L.length := by have := congrArg List.length h2; simpa using this
      rw [h1, e1, decide_eq_true c]
      unfold msR
      rw [if_pos c, six_len]
    · unfold vsR; rw [if_pos c]; exact h2
    · unfold msR; rw [if_pos c]; exact h4
  · refine (specGroupNew_no a L ca w hl hs hA c).mono (fun e w' ⟨h1, h5⟩ => ⟨⟨none, 0, [], none, 0, ?_, ?_, ⟨⟨RdG.nil _ _, by simp, by simp⟩, ?_⟩⟩, h5⟩)
    · rw [h1, decide_eq_false c]
      unfold msR
      rw [if_neg c]
      rfl
    · unfold vsR; rw [if_neg c]; rfl
    · unfold msR; rw [if_neg c]; exact RdG.nil _ _
theorem implGroupNew_any (a : Option Addr) (L : List Vw) (ca : Nat) (w : World) (hl : L.length ≤ 1048576) (hs : ∀ x ∈ L, x.l.length ≤ 1048576) (hA : RdVs w a L) :
    Calls Try.prog 12 #[.slice a L.length ca] w fun e w' => (∃ (vb : Option Addr) (vc : Nat) (M : List Vw) (mb : Option Addr) (mc : Nat), e = .returned (.tuple #[.agg #[.slice vb M.length vc, .slice mb (msR (L.map (·.l))).length mc, .slice none 0 0, .slice none 0 0], .bool (decide (okViews (L.map (·.l))))]) ∧ M.map (·.l) = vsR (L.map (·.l)) ∧ GpO w' w.heap.size vb vc M mb mc (msR (L.map (·.l)))) ∧ Below w.heap.size w w' := by
  by_cases c : okViews (L.map (·.l))
  · refine (implGroupNew_yes a L ca w hl hs hA c).mono (fun e w' ⟨⟨vb, vc, M, mb, h1, h2, h3, h4, h6, h7⟩, h5⟩ => ?_)
    have e1 : M.length = L.length := by have := congrArg List.length h2; simpa using this
    refine ⟨⟨vb, vc, M, some ⟨mb, 0, none⟩, 6, ?_, ?_, h3, ?_, ?_⟩, h5⟩
    · rw [h1, e1, decide_eq_true c]
      unfold msR
      rw [if_pos c, six_len]
    · unfold vsR; rw [if_pos c]; exact h2
    · unfold msR; rw [if_pos c, six_len]; exact h4
    · unfold msR
      rw [if_pos c, six_len]
      rintro g (hg | ⟨x, hx, hg⟩) e
      · rw [e1] at hg
        exact h6 g hg (by simpa [Value.ownBlock] using e.symm)
      · exact h7 x hx g hg (by simpa [Value.ownBlock] using e.symm)
  · refine (implGroupNew_no a L ca w hl hs hA c).mono (fun e w' ⟨h1, h5⟩ => ⟨⟨none, 0, [], none, 0, ?_, ?_, ⟨⟨World.ownsRow_nil _ _ _ _, by simp, List.Pairwise.nil, by simp⟩, ?_, ?_⟩⟩, h5⟩)
    · rw [h1, decide_eq_false c]
      unfold msR
      rw [if_neg c]
      rfl
    · unfold vsR; rw [if_neg c]; rfl
    · unfold msR; rw [if_neg c]; exact World.ownsRow_nil _ _ _ _
    · unfold msR
      rw [if_neg c]
      rintro g (hg | ⟨x, hx, hg⟩) e
      · simp [Value.ownBlock] at e
      · simp at hx
end Go.Proofs.Ytmfpgnoeemjhiaa
