/- The model's l14Has: a member behind a pointer has the state. -/
import Derived.Test.YtpjgplohlchpoaaGreatDoorUAR
import Derived.Test.YtpjgplohlchpoaaGreatDoorUAF
namespace Go.Proofs.YtpjgplohlchpoaaGreatDoor
open Go.RowKit
set_option linter.unusedVariables false

/-- Messages under way: those to the members of a view ahead of a place. -/
def insMs (id ep : Int) (is : List Im) (v : List Int) : List Ms := (wthV v id).map (fun t => ⟨3, id, t, ep, 0, is⟩)
theorem insM_next {id ep : Int} {is : List Im} {v : List Int} {i : Nat} (h : i < v.length) : insMs id ep is (v.take (i + 1)) = insMs id ep is (v.take i) ++ (if v[i] = id then [] else [⟨3, id, v[i], ep, 0, is⟩]) := by
  unfold insMs
  rw [wth_next h id, List.map_append]
  congr 1
  by_cases c : v[i] = id
  · rw [if_pos c, if_pos c]; rfl
  · rw [if_neg c, if_neg c]; rfl
theorem insM_len {id ep : Int} {is : List Im} {v : List Int} {n : Nat} (h : v.length ≤ n) : (insMs id ep is v).length ≤ n := by
  unfold insMs
  rw [List.length_map]
  exact Nat.le_trans (wth_le _ _) h
/-- What the loop of l14Has holds: messages in a row of one's own, whose items lie apart from it. -/
structure MsO (w : World) (lo : Nat) (b : Option Addr) (c : Nat) (D : List Mv) : Prop where
  o : w.ownsRow lo 61 6 (.slice b D.length c) D.length (rowG mvC D)
  i : ∀ x ∈ D, PrG imC 3 lo w (Value.slice b D.length c).ownBlock x.a x.m.is
theorem MsO.later {w w' : World} {lo c : Nat} {b : Option Addr} {D : List Mv} (h : MsO w lo b c D) (hb : Below w.heap.size w w') : MsO w' lo b c D := ⟨own_kept h.o hb, fun x hx => (h.i x hx).later hb⟩
theorem MsO.rd {w : World} {lo c : Nat} {b : Option Addr} {D : List Mv} (h : MsO w lo b c D) : RdMs w b D := ⟨rdG_of_own encMv.len h.o rfl, fun x hx => (h.i x hx).r⟩
theorem MsO.lo' {w : World} {lo c : Nat} {b : Option Addr} {D : List Mv} (h : MsO w lo b c D) : LoMs lo b D := ⟨lo_of_own h.o, fun x hx => (h.i x hx).n⟩
/-- One message more. -/
theorem MsO.push {w w' : World} {lo c c' : Nat} {b b' : Option Addr} {D : List Mv} {y : Mv} (h : MsO w lo b c D) (ho : w'.ownsRow lo 61 6 (.slice b' (D.length + 1) c') (D.length + 1) (rowG mvC (D ++ [y]))) (hg : w.grownBy w' (Value.slice b D.length c).ownBlock) (hp : ∀ x, b' = some x → (Value.slice b D.length c).ownBlock = some x.block ∨ w.heap.size ≤ x.block)
    (hy : PrG imC 3 lo w (Value.slice b D.length c).ownBlock y.a y.m.is) : MsO w' lo b' c' (D ++ [y]) ∧ ∀ q, (Value.slice b' (D ++ [y]).length c').ownBlock = some q → (Value.slice b D.length c).ownBlock = some q ∨ w.heap.size ≤ q := by
  have e : (D ++ [y]).length = D.length + 1 := by simp
  have hn : ∀ q, (Value.slice b' (D.length + 1) c').ownBlock = some q → (Value.slice b D.length c).ownBlock = some q ∨ w.heap.size ≤ q := fun q hq => by
    obtain ⟨x, hx, rfl⟩ := own_blkEq ho hq
    exact hp x hx
  rw [e]
  refine ⟨⟨by rw [e]; exact ho, fun x hx => ?_⟩, hn⟩
  rw [e]
  rcases List.mem_append.1 hx with hx | hx
  · exact (h.i x hx).app hg hn
  · rw [List.mem_singleton] at hx
    subst hx
    exact hy.app hg hn
theorem BlkA.gr {w w' : World} {g : Nat} {t : TypeId} {cs : Array Value} {r : Option Nat} (h : BlkA w g t cs) (hg : w.grownBy w' r) (hn : r ≠ some g) : BlkA w' g t cs := (hg.block g h.lt (fun e => hn e.symm)).trans h
/-- What l14Has holds ahead of its loop. -/
structure HasS (w U : World) (G : Nat) (cs : Array Value) (va : Option Addr) (v : List Int) (ia : Option Addr) (is : List Im) : Prop where
  bx : BlkA U G 38 cs
  gr : w.grownBy U (some G)
  ow : U.ownsRow w.heap.size 61 6 (.slice (some ⟨w.heap.size, 0, none⟩) 0 0) 0 []
  vr : RdZ U va v
  ir : RdG imC 3 U ia is
  lG : G < w.heap.size
  vn : ∀ q o, va = some ⟨q, o, none⟩ → 0 < v.length → q ≠ G
  im : ∀ q o, ia = some ⟨q, o, none⟩ → 0 < is.length → q ≠ G
theorem HasS.later {w U W : World} {G : Nat} {cs : Array Value} {va : Option Addr} {v : List Int} {ia : Option Addr} {is : List Im} (h : HasS w U G cs va v ia is) (hb : Below U.heap.size U W) : HasS w W G cs va v ia is :=
  ⟨h.bx.below hb h.bx.lt, gtrans h.gr (gnew hb), own_kept h.ow hb, h.vr.later hb, h.ir.later hb, h.lG, h.vn, h.im⟩
theorem HasS.set {w U : World} {G : Nat} {cs : Array Value} {va : Option Addr} {v : List Int} {ia : Option Addr} {is : List Im} (h : HasS w U G cs va v ia is) (j : Nat) (u : Value) : HasS w (U.setCell ⟨G, j, none⟩ u) G (cs.toList.set j u).toArray va v ia is :=
  ⟨h.bx.setc j u, gset h.gr j u, own_farB G h.ow h.lG j u, (h.vr.g.farX j u h.vn).z, h.ir.farX j u h.im, h.lG, h.vn, h.im⟩
theorem grOut {w wq W w8 : World} {G : Nat} {r : Option Nat} (h : w.grownBy wq (some G)) (hb : Below wq.heap.size wq W) (hg : W.grownBy w8 r) (hr : ∀ q, r = some q → w.heap.size ≤ q) : w.grownBy w8 (some G) :=
  ⟨hg.os.trans (hb.os.trans h.os), hg.tape.trans (hb.tape.trans h.tape), hg.output.trans (hb.output.trans h.output), Nat.le_trans h.size (Nat.le_trans hb.size hg.size), fun k hk hn => (hg.block k (by have := h.size; have := hb.size; omega) (fun e => by have := hr k e.symm; omega)).trans ((hb.block k (by have := h.size; omega)).trans (h.block k hk hn))⟩
theorem PrG.set {α : Type} {enc : α → List Value} {k lo : Nat} {w : World} {ob : Option Nat} {a : Option Addr} {l : List α} (h : PrG enc k lo w ob a l) {G : Nat} (hG : G < lo) (j : Nat) (u : Value) : PrG enc k lo (w.setCell ⟨G, j, none⟩ u) ob a l := ⟨h.r.farX j u (fun q o e hl => by have := h.n q o e hl; omega), h.n, h.d⟩
set_option maxRecDepth 100000 in
set_option maxHeartbeats 4000000 in
theorem specHas_any (id ep : Int) (fe ba le se : Bool) (wa : List Int) (is0 : List Im) (cn : Int) (tk : Tk) (A : MA) (G : Nat) (va : Option Addr) (v : List Int) (vc : Nat) (ia : Option Addr) (is : List Im) (ic : Nat) (w : World) (hG : BlkA w G 38 (mbA ⟨id, ep, fe, ba, le, se, wa, is0, cn, tk⟩ A)) (hl : v.length ≤ 1000) (hi : is.length ≤ 1000) (hv : RdZ w va v) (hA : RdG imC 3 w ia is) (hvG : ∀ q o, va = some ⟨q, o, none⟩ → 0 < v.length → q ≠ G) (hiG : ∀ q o, ia = some ⟨q, o, none⟩ → 0 < is.length → q ≠ G) :
    Calls Tryz.prog 25 #[.pointer (some ⟨G, 0, none⟩), .slice va v.length vc, .slice ia is.length ic] w fun e w' => ∃ (b : Option Addr) (c : Nat) (D : List Mv) (b1 : Option Addr) (c1 : Nat) (b2 : Option Addr) (c2 : Nat), e = .returned (.slice b D.length c) ∧ D.map (·.m) = insMs id ep is v ∧ RdMs w' b D ∧ LoMs w.heap.size b D ∧ BlkA w' G 38 (mbA ⟨id, ep, fe, true, le, decide (othV v id = []), othV v id, is, cn, tk⟩ ⟨b2, c2, b1, c1, A.la, A.lc⟩) ∧ PrG zC 1 w.heap.size w' none b2 (othV v id) ∧ PrG imC 3 w.heap.size w' none b1 is ∧ w.grownBy w' (some G) := by
  have lG : G < w.heap.size := hG.lt
  have VLT := hide1 (fun q o (e : va = some ⟨q, o, none⟩) (h : 0 < v.length) => hv.g.lt0 e h)
  have ILT := hide1 (fun q o (e : ia = some ⟨q, o, none⟩) (h : 0 < is.length) => hA.lt0 e h)
  have S1 := hide1 (show HasS w ((w.setCell ⟨G, 3, none⟩ (.bool true)).alloc (.cells #[] 61)) G (mbA ⟨id, ep, fe, true, le, se, wa, is0, cn, tk⟩ A) va v ia is from by
    have EL := (Below.refl (w.setCell ⟨G, 3, none⟩ (.bool true)).heap.size (w.setCell ⟨G, 3, none⟩ (.bool true))).alloc (Nat.le_refl _) (.cells #[] 61)
    have k1 : BlkA (w.setCell ⟨G, 3, none⟩ (.bool true)) G 38 (mbA ⟨id, ep, fe, true, le, se, wa, is0, cn, tk⟩ A) := hG.setc 3 (.bool true)
    have o1 := owns_emptyX (w.setCell ⟨G, 3, none⟩ (.bool true)) 61 6
    rw [World.size_setCell] at o1
    exact ⟨k1.below EL k1.lt, gtrans (gset (World.grownBy.refl w (some G)) 3 (.bool true)) (gnew EL), o1, ((hv.g.farX 3 (.bool true) hvG).z).later EL, (hA.farX 3 (.bool true) hiG).later EL, lG, hvG, hiG⟩)
  have m3 : (w.alloc (.cells #[] 61)).cell? ⟨G, 3, none⟩ = some (.bool ba) := (hG.below ((Below.refl w.heap.size w).alloc (Nat.le_refl _) (.cells #[] 61)) lG).cell 3 rfl
  have m3f := (hG.below ((Below.refl w.heap.size w).alloc (Nat.le_refl _) (.cells #[] 61)) lG).froz 3
  clear hG hv hA hvG hiG
  obtain ⟨awa, awc, aia, aic, ala, alc⟩ := A
  dsimp only
  go_enter Tryz.func25, Tryz.ntmps25
  go_upto_region 3 with fail
  generalize ((w.setCell ⟨G, 3, none⟩ (.bool true)).alloc (.cells #[] 61)) = U1 at S1 ⊢
  clear m3 m3f
  have ow1 : w.heap.size < U1.heap.size := (S1.out.ow.lt w.heap.size rfl).2
  have EL := hide1 ((Below.refl U1.heap.size U1).alloc (Nat.le_refl _) (.cells #[] 34))
  have RI := hide1 (S1.out.ir.later EL.out)
  have SZ := hide1 (World.size_alloc U1 (.cells #[] 34))
  have gu1 : G < U1.heap.size := by omega
  go_upto_region 4 with (at_builtin; refine wpList_cpE encIm rowIm rfl _ _ rfl U1.heap.size rfl ia is.length ic is rfl rfl RI.out (by omega) ?_; intro b1 c1 w2 hr2 hb2 hn2 hc2; have E2 : Hid (Below U1.heap.size U1 w2) := EL.out.trans (hb2.mono EL.out.size); have P2 := hide1 (show PrG imC 3 w.heap.size w2 (some w.heap.size) b1 is from ⟨hr2, fun q o e h => (by have h1 := hn2 q o e h; rw [SZ.out] at h1; omega), fun q o e h h9 => (by injection h9 with h9; have h1 := hn2 q o e h; rw [SZ.out] at h1; omega)⟩); have S2 := hide1 (S1.out.later E2.out); have m7 : w2.cell? ⟨G, 7, none⟩ = some (.slice aia is0.length aic) := S2.out.bx.cell 7 rfl; have m7f := S2.out.bx.froz 7; clear hr2 hb2 hn2)
  have S3 := hide1 (show HasS w (w2.setCell ⟨G, 7, none⟩ (.slice b1 is.length c1)) G (mbA ⟨id, ep, fe, true, le, se, wa, is, cn, tk⟩ ⟨awa, awc, b1, c1, ala, alc⟩) va v ia is from S2.out.set 7 _)
  have P3 := hide1 (P2.out.set lG 7 (.slice b1 is.length c1))
  generalize (w2.setCell ⟨G, 7, none⟩ (.slice b1 is.length c1)) = U3 at S3 P3 ⊢
  clear m7 m7f S2 P2 E2 RI EL SZ S1
  have m0 : U3.cell? ⟨G, 0, none⟩ = some (.int .i64 id) := S3.out.bx.cell 0 rfl
  have ow3 : w.heap.size < U3.heap.size := (S3.out.ow.lt w.heap.size rfl).2
  have CO := hide1 (specOthers_any va v vc id U3 (by omega) S3.out.vr)
  go_wp2_with fail
  refine CO.out.mono ?_
  rintro e w4 ⟨b2, c2, rfl, ho, hb⟩
  have S4 := hide1 (S3.out.later hb)
  have P4 := hide1 (P3.out.later hb)
  have Q4 := hide1 (show PrG zC 1 w.heap.size w4 (some w.heap.size) b2 (othV v id) from ⟨(rdZ_of_own ho).g, (lo_of_own ho).mono (by omega), fun q o e h h9 => by injection h9 with h9; have := lo_of_own (m := (othV v id).length) ho q o e h; omega⟩)
  clear ho hb m0 CO S3 P3
  have m6 : w4.cell? ⟨G, 6, none⟩ = some (.slice awa wa.length awc) := S4.out.bx.cell 6 rfl
  have m6f := S4.out.bx.froz 6
  have S5 := hide1 (show HasS w (w4.setCell ⟨G, 6, none⟩ (.slice b2 (othV v id).length c2)) G (mbA ⟨id, ep, fe, true, le, se, othV v id, is, cn, tk⟩ ⟨b2, c2, b1, c1, ala, alc⟩) va v ia is from S4.out.set 6 _)
  have P5 := hide1 (P4.out.set lG 6 (.slice b2 (othV v id).length c2))
  have Q5 := hide1 (Q4.out.set lG 6 (.slice b2 (othV v id).length c2))
  go_upto_region 5 with fail
  generalize (w4.setCell ⟨G, 6, none⟩ (.slice b2 (othV v id).length c2)) = U5 at S5 P5 Q5 ⊢
  clear m6 m6f S4 P4 Q4
  have m6 : U5.cell? ⟨G, 6, none⟩ = some (.slice b2 (othV v id).length c2) := S5.out.bx.cell 6 rfl
  have m5 : U5.cell? ⟨G, 5, none⟩ = some (.bool se) := S5.out.bx.cell 5 rfl
  have m5f := S5.out.bx.froz 5
  obtain ⟨sv, hsv⟩ : ∃ s : Bool, s = decide (othV v id = []) := ⟨_, rfl⟩
  have qs : (((othV v id).length : Int) == 0) = sv := by
    rw [hsv]
    cases othV v id with
    | nil => rfl
    | cons a l => simp; omega
  have S6 := hide1 (show HasS w (U5.setCell ⟨G, 5, none⟩ (.bool sv)) G (mbA ⟨id, ep, fe, true, le, sv, othV v id, is, cn, tk⟩ ⟨b2, c2, b1, c1, ala, alc⟩) va v ia is from S5.out.set 5 _)
  have P6 := hide1 (P5.out.set lG 5 (.bool sv))
  have Q6 := hide1 (Q5.out.set lG 5 (.bool sv))
  have HSV := hide1 hsv

  clear hsv
  go_upto_region 6 with fail
  generalize (U5.setCell ⟨G, 5, none⟩ (.bool sv)) = U6 at S6 P6 Q6 ⊢
  clear m6 m5 m5f S5 P5 Q5 qs
  obtain ⟨n, hn⟩ : ∃ n, n = v.length := ⟨_, rfl⟩
  have HN := hide1 hn
  rw [← hn]
  clear hn
  go_wp2
  go_loopw [7, 8] (fun ov iv wr => ∃ (i : Nat) (b : Option Addr) (c : Nat) (D : List Mv), i ≤ n ∧ iv = .int .i64 (i : Int) ∧ ov = .slice b D.length c ∧ Hid (D.map (·.m) = insMs id ep is (v.take i)) ∧ Hid (MsO wr w.heap.size b c D) ∧ Hid (BlkA wr G 38 (mbA ⟨id, ep, fe, true, le, sv, othV v id, is, cn, tk⟩ ⟨b2, c2, b1, c1, ala, alc⟩)) ∧ Hid (PrG zC 1 w.heap.size wr (Value.slice b D.length c).ownBlock b2 (othV v id)) ∧ Hid (PrG imC 3 w.heap.size wr (Value.slice b D.length c).ownBlock b1 is) ∧ Hid (RdZ wr va v ∧ RdG imC 3 wr ia is) ∧ Hid (w.grownBy wr (some G))) (fun _ iv _ => n - (intOf iv).toNat)
  case atStart => exact ⟨0, _, _, [], Nat.zero_le _, rfl, rfl, hide1 rfl, hide1 ⟨S6.out.ow, by simp⟩, hide1 S6.out.bx, Q6, P6, hide1 ⟨S6.out.vr, S6.out.ir⟩, hide1 S6.out.gr⟩
  case round =>
    obtain ⟨i, b, c, D, hin, rfl, rfl, HD, MO, KB, QW, PI, VI, GR⟩ := hrel
    by_cases hlt : i < n
    · have k1 : (i : Int) < (n : Int) := by omega
      have hlt2 : i < v.length := by rw [← HN.out]; exact hlt
      obtain ⟨vb, vo, rfl, hvb, hvc⟩ := VI.out.1 i hlt2
      have NX := hide1 (insM_next (id := id) (ep := ep) (is := is) hlt2)
      have x0 : wr.cell? ⟨vb, vo + i, none⟩ = some (.int .i64 v[i]) := hvc
      have g0 : wr.cell? ⟨G, 0, none⟩ = some (.int .i64 id) := KB.out.cell 0 rfl
      have hvG : vb ≠ G := S6.out.vn vb vo rfl (by omega)
      have hvw : vb < w.heap.size := VLT.out vb vo rfl (by omega)
      have hDl : D.length ≤ 1000 := by have h1 := congrArg List.length HD.out; rw [List.length_map] at h1; rw [h1]; exact insM_len (by rw [List.length_take]; omega)
      generalize v[i] = y at *
      by_cases cy : y = id
      · rw [if_pos cy, List.append_nil] at NX
        have q : (y != id) = false := by simp [cy]
        clear cy
        go_wp2
        go_quiet (fail)
        have F9 := hide1 (below_drewN (Below.refl wr.heap.size wr) nq)
        generalize wr.drewN nq = wq at F9 ⊢
        have MO := hide1 (MO.out.later F9.out)
        have KB := hide1 (KB.out.below F9.out KB.out.lt)
        have QW := hide1 (QW.out.later F9.out)
        have PI := hide1 (PI.out.later F9.out)
        have VI := hide1 (And.intro (VI.out.1.later F9.out) (VI.out.2.later F9.out))
        have GR := hide1 (gtrans GR.out (gnew F9.out))
        have x0 : wq.cell? ⟨vb, vo + i, none⟩ = some (.int .i64 y) := (F9.out.cell (p := ⟨vb, vo + i, none⟩) hvb).trans x0
        clear F9 g0 x0
        go_wp2
        go_roundw
        case rel => exact ⟨i + 1, b, c, D, by omega, by go_num, rfl, hide1 (by rw [NX.out]; exact HD.out), MO, KB, QW, PI, VI, GR⟩
        case measure => simp [intOf]; omega
      · rw [if_neg cy] at NX
        have q : (y != id) = true := by simp [cy]
        clear cy
        go_wp2
        go_quiet (fail)
        have F9 := hide1 (below_drewN (Below.refl wr.heap.size wr) nq)
        generalize wr.drewN nq = wq at F9 ⊢
        have MO := hide1 (MO.out.later F9.out)
        have KB := hide1 (KB.out.below F9.out KB.out.lt)
        have QW := hide1 (QW.out.later F9.out)
        have PI := hide1 (PI.out.later F9.out)
        have VI := hide1 (And.intro (VI.out.1.later F9.out) (VI.out.2.later F9.out))
        have GR := hide1 (gtrans GR.out (gnew F9.out))
        have x0 : wq.cell? ⟨vb, vo + i, none⟩ = some (.int .i64 y) := (F9.out.cell (p := ⟨vb, vo + i, none⟩) hvb).trans x0
        have g0 : wq.cell? ⟨G, 0, none⟩ = some (.int .i64 id) := KB.out.cell 0 rfl
        have g1 : wq.cell? ⟨G, 1, none⟩ = some (.int .i64 ep) := KB.out.cell 1 rfl
        have lgq : G < wq.heap.size := KB.out.lt
        have lvq : vb < wq.heap.size := Nat.lt_of_lt_of_le hvb F9.out.size
        have swq : w.heap.size ≤ wq.heap.size := GR.out.size
        clear F9
        have ZS := hide1 (fun w' (Dn : Below wq.heap.size wq w') => (show w'.cell? ⟨G, 0, none⟩ = some (.int .i64 id) ∧ w'.cell? ⟨G, 1, none⟩ = some (.int .i64 ep) ∧ w'.cell? ⟨vb, vo + i, none⟩ = some (.int .i64 y) from ⟨(Dn.cell (p := ⟨G, 0, none⟩) lgq).trans g0, (Dn.cell (p := ⟨G, 1, none⟩) lgq).trans g1, (Dn.cell (p := ⟨vb, vo + i, none⟩) lvq).trans x0⟩))
        go_wp2
        refine wp_region_held_drew (S := fun w' => w'.cell? ⟨G, 0, none⟩ = some (.int .i64 id) ∧ w'.cell? ⟨G, 1, none⟩ = some (.int .i64 ep) ∧ w'.cell? ⟨vb, vo + i, none⟩ = some (.int .i64 y)) rfl (ZS.out _ (by go_grown)) (fun hS0 => ?_)
        refine wpAnyH_take (i := 0) (oi := _) (v := ?_) rfl (by kernel_rfl) (by kernel_rfl) (by kernel_rfl) (fun _ _ _ h => h) (.inl ⟨by rfl, ?_⟩) hS0 ?_
        rotate_left
        · intro w' hSw
          go_simp
          with_reducible rfl
        refine wpAnyH_take (i := 1) (oi := _) (v := ?_) rfl (by kernel_rfl) (by kernel_rfl) (by kernel_rfl) (fun _ _ _ h => h) (.inl ⟨by rfl, ?_⟩) hS0 ?_
        rotate_left
        · intro w' hSw
          go_simp
          with_reducible rfl
        refine wpAnyH_take (i := 2) (oi := _) (v := ?_) rfl (by kernel_rfl) (by kernel_rfl) (by kernel_rfl) (fun _ _ _ h => h) (.inl ⟨by rfl, ?_⟩) hS0 ?_
        rotate_left
        · intro w' hSw
          go_simp
          with_reducible rfl
        refine wpAnyH_take (i := 3) (oi := _) (v := ?_) rfl (by kernel_rfl) (by kernel_rfl) (by kernel_rfl) (fun _ _ _ h => h) (.inl ⟨by rfl, ?_⟩) hS0 ?_
        rotate_left
        · intro w' hSw
          go_simp
          with_reducible rfl
        refine wpAnyH_take (i := 4) (oi := _) (v := ?_) rfl (by kernel_rfl) (by kernel_rfl) (by kernel_rfl) (fun _ _ _ h => h) (.inl ⟨by rfl, ?_⟩) hS0 ?_
        rotate_left
        · intro w' hSw
          go_simp
          with_reducible rfl
        refine wpAnyH_take (i := 5) (oi := _) (v := ?_) rfl (by kernel_rfl) (by kernel_rfl) (by kernel_rfl) (fun _ _ _ h => h) (.inl ⟨by rfl, ?_⟩) hS0 ?_
        rotate_left
        · intro w' hSw
          go_simp
          with_reducible rfl
        refine wpAnyH_take (i := 6) (oi := _) (v := ?_) rfl (by kernel_rfl) (by kernel_rfl) (by kernel_rfl) (fun _ _ _ h => h) (.inl ⟨by rfl, ?_⟩) hS0 ?_
        rotate_left
        · intro w' hSw
          go_simp
          with_reducible rfl
        refine wpAnyH_take (i := 7) (oi := _) (v := ?_) rfl (by kernel_rfl) (by kernel_rfl) (by kernel_rfl) (fun _ _ _ h => h) (.inl ⟨by rfl, ?_⟩) hS0 ?_
        rotate_left
        · intro w' hSw
          go_simp
          with_reducible rfl
        refine wpAnyH_take (i := 8) (oi := _) (v := ?_) rfl (by kernel_rfl) (by kernel_rfl) (by kernel_rfl) (fun _ _ _ h => h) (.inl ⟨by rfl, ?_⟩) hS0 ?_
        rotate_left
        · intro w' hSw
          go_simp
          with_reducible rfl
        refine wpAnyH_take (i := 9) (oi := _) (v := ?_) rfl (by kernel_rfl) (by kernel_rfl) (by kernel_rfl) (fun _ _ _ h => h) (.inl ⟨by rfl, ?_⟩) hS0 ?_
        rotate_left
        · intro w' hSw
          go_simp
          with_reducible rfl
        refine wpAnyH_take (i := 10) (oi := _) (v := ?_) rfl (by kernel_rfl) (by kernel_rfl) (by kernel_rfl) (fun _ _ _ h => h) (.inl ⟨by rfl, ?_⟩) hS0 ?_
        rotate_left
        · intro w' hSw
          go_simp
          with_reducible rfl
        refine wpAnyH_take (i := 11) (oi := _) (v := ?_) rfl (by kernel_rfl) (by kernel_rfl) (by kernel_rfl) (fun _ _ _ h => h) (.inl ⟨by rfl, ?_⟩) hS0 ?_
        rotate_left
        · intro w' hSw
          go_simp
          with_reducible rfl
        refine wpAnyH_take (i := 12) (oi := _) (v := ?_) rfl (by kernel_rfl) (by kernel_rfl) (by kernel_rfl) (fun _ _ _ h => h) (.inl ⟨by rfl, ?_⟩) hS0 ?_
        rotate_left
        · intro w' hSw
          go_simp
          with_reducible rfl
        refine wpAnyH_take (i := 14) (oi := _) (v := ?_) rfl (by kernel_rfl) (by kernel_rfl) (by kernel_rfl) (fun _ _ _ h => h) (.inl ⟨by rfl, ?_⟩) hS0 ?_
        rotate_left
        · intro w' hSw
          go_simp
          with_reducible rfl
        refine wpAnyH_ready (rs := [13]) (by kernel_rfl) (by simp) (AllReadyH.cons rfl (fun K hK => ?_) AllReadyH.nil)
        go_simp
        have D3 := hide1 (show Below wq.heap.size wq (wq.alloc (.cells #[] 34)).drew from (by go_grown))
        refine hK.out _ _ (ZS.out _ D3.out) (fun hS3 => ?_)
        clear hK K
        have RA := hide1 (VI.out.2.later D3.out)
        refine wpAnyH_ready (rs := [15]) (by kernel_rfl) (by simp) (AllReadyH.cons rfl (fun K hK => ?_) AllReadyH.nil)
        rw [if_pos (by rfl)]
        refine wp_cpE encIm rowIm (.tmp 65) (.tmp 66) rfl _ rfl ia is.length ic is rfl rfl RA.out (by omega) ?_
        intro b5 c5 w5 hr5 hb5 hn5 hc5
        have D5 : Hid (Below wq.heap.size wq w5) := D3.out.trans (hb5.mono D3.out.size)
        have SQ : wq.heap.size ≤ (wq.alloc (.cells #[] 34)).drew.heap.size := D3.out.size
        have P5 := hide1 (show PrG imC 3 w.heap.size w5 (Value.slice b D.length c).ownBlock b5 is from ⟨hr5, fun q o e h => (by have h1 := hn5 q o e h; omega), fun q o e h h9 => (by have h1 := hn5 q o e h; have h2 := (MO.out.o.lt q h9).2; omega)⟩)
        clear hr5 hb5 hn5
        refine hK.out _ _ (ZS.out _ D5.out) (fun hS5 => ?_)
        clear hK K
        refine wpAnyH_ready (rs := [16]) (by kernel_rfl) (by simp) (AllReadyH.cons rfl (fun K hK => ?_) AllReadyH.nil)
        go_simp
        refine hK.out _ _ (ZS.out _ D5.out) (fun hS6 => ?_)
        clear hK K
        have F7 := hide1 (And.intro (Blk.new w5 61 #[.int .i64 3, .int .i64 id, .int .i64 y, .int .i64 ep, .int .i64 0, .slice b5 is.length c5]) ((Below.refl w5.heap.size w5).alloc (Nat.le_refl _) (.cells #[.int .i64 3, .int .i64 id, .int .i64 y, .int .i64 ep, .int .i64 0, .slice b5 is.length c5] 61)))
        have D7 := hide1 (D5.out.trans (F7.out.2.mono D5.out.size))
        refine wpAnyH_ready (rs := [17]) (by kernel_rfl) (by simp) (AllReadyH.cons rfl (fun K hK => ?_) AllReadyH.nil)
        go_simp
        refine hK.out _ _ (ZS.out _ D7.out) (fun hS7 => ?_)
        clear hK K
        have MO7 := hide1 (MO.out.later D7.out)
        have R7 := hide1 (rd_one (y := (⟨⟨3, id, y, ep, 0, is⟩, b5, c5⟩ : Mv)) encMv F7.out.1)
        have P7 := hide1 (P5.out.later F7.out.2)
        refine wpAnyH_ready (rs := [18]) (by kernel_rfl) (by simp) (AllReadyH.cons rfl (fun K hK => ?_) AllReadyH.nil)
        refine step_appA encMv rowMv rfl (.tmp 52) (.tmp 69) rfl w.heap.size (.slice b D.length c) D.length D rfl MO7.out.o (some ⟨w5.heap.size, 0, none⟩) 1 1 [⟨⟨3, id, y, ep, 0, is⟩, b5, c5⟩] rfl rfl R7.out (by omega) (by have := D7.out.size; omega) ?_
        intro b8 c8 w8 ho8 hg8 hp8
        have X8 := hide1 (MO7.out.push (y := ⟨⟨3, id, y, ep, 0, is⟩, b5, c5⟩) ho8 hg8 hp8 P7.out)
        have ob : ∀ r, (Value.slice b D.length c).ownBlock = some r → w.heap.size ≤ r := fun r hr => (MO.out.o.lt r hr).1
        have KB8 := hide1 ((KB.out.below D7.out lgq).gr hg8 (fun e => by have := ob _ e; omega))
        have QW8 := hide1 ((QW.out.later D7.out).app hg8 X8.out.2)
        have PI8 := hide1 ((PI.out.later D7.out).app hg8 X8.out.2)
        have VI8 := hide1 (And.intro ((VI.out.1.later D7.out).gr hg8 (fun q o e h h9 => by have := ob _ h9; have := VLT.out q o e h; omega)) ((VI.out.2.later D7.out).gr hg8 (fun q o e h h9 => by have := ob _ h9; have := ILT.out q o e h; omega)))
        have GR8 := hide1 (show w.grownBy w8 (some G) from grOut GR.out D7.out hg8 ob)
        have z8 : w8.cell? ⟨vb, vo + i, none⟩ = some (.int .i64 y) := by
          have h1 := (D7.out.cell (p := ⟨vb, vo + i, none⟩) lvq).trans x0
          rw [← h1]
          exact World.cell?_of_block (hg8.block vb (Nat.lt_of_lt_of_le lvq D7.out.size) (fun e => by have := ob _ e.symm; omega))
        clear ho8 hg8 hp8
        refine hK.out _ _ ⟨KB8.out.cell 0 rfl, KB8.out.cell 1 rfl, z8⟩ (fun hS8 => ?_)
        clear hK K
        refine wpAnyH_ready (rs := [19]) (by kernel_rfl) (by simp) (AllReadyH.cons rfl (fun K hK => ?_) AllReadyH.nil)
        go_simp
        refine hK.out _ _ ⟨KB8.out.cell 0 rfl, KB8.out.cell 1 rfl, z8⟩ (fun hS9 => ?_)
        clear hK K hS0 hS3 hS5 hS6 hS7 hS8 hS9 ZS
        refine wpAnyH_done (by kernel_rfl) ?_ _
        clear g0 g1 x0 z8
        have e1 : (D ++ [(⟨⟨3, id, y, ep, 0, is⟩, b5, c5⟩ : Mv)]).length = D.length + 1 := by simp
        have HE1 := hide1 e1
        clear e1
        go_wp2
        go_roundw
        case rel => exact ⟨i + 1, b8, c8, D ++ [⟨⟨3, id, y, ep, 0, is⟩, b5, c5⟩], by omega, by go_num, by rw [HE1.out], hide1 (by rw [NX.out, List.map_append, HD.out]; rfl), hide1 X8.out.1, KB8, QW8, PI8, VI8, GR8⟩
        case measure => simp [intOf]; omega
    · obtain rfl : i = n := by omega
      have k1 : ¬ ((i : Int) < (i : Int)) := by omega
      go_wp2
      go_ret
      have hd := HD.out
      rw [HN.out, List.take_length] at hd
      rw [← HSV.out]
      have QQ : PrG zC 1 w.heap.size wr none b2 (othV v id) := ⟨QW.out.r, QW.out.n, fun q o e h h9 => by cases h9⟩
      have PP : PrG imC 3 w.heap.size wr none b1 is := ⟨PI.out.r, PI.out.n, fun q o e h h9 => by cases h9⟩
      first | exact ⟨b, c, D, rfl, hd, MO.out.rd, MO.out.lo', b1, c1, b2, c2, KB.out, QQ, PP, GR.out⟩ | exact ⟨b, c, D, rfl, hd, MO.out.rd, MO.out.lo', ⟨b1, c1, b2, ⟨c2, KB.out⟩, QQ, PP⟩, GR.out⟩ | exact ⟨b, c, D, rfl, hd, MO.out.rd, MO.out.lo', ⟨b1, c1, b2, c2, KB.out, QQ, PP⟩, GR.out⟩ | exact ⟨b, c, D, rfl, hd, MO.out.rd, MO.out.lo', ⟨b1, ⟨c1, b2, ⟨c2, KB.out⟩, QQ⟩, PP⟩, GR.out⟩ | exact ⟨b, c, D, rfl, hd, MO.out.rd, MO.out.lo', b1, c1, b2, ⟨c2, KB.out⟩, QQ, PP, GR.out⟩ | exact ⟨b, c, D, rfl, hd, MO.out.rd, MO.out.lo', ⟨b1, ⟨c1, b2, c2, KB.out, QQ⟩, PP⟩, GR.out⟩
end Go.Proofs.YtpjgplohlchpoaaGreatDoor
