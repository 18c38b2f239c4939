/- Decisions by the model: an event. -/
import Derived.Test.YtgehdgmllilmgaaCoX
import Derived.Test.YtgehdgmllilmgaaYB
namespace Go.Proofs.Ytgehdgmllilmgaa
open Go.RowKit
set_option linter.unusedVariables false
variable {lo : Nat → Prop}

section
variable {α : Type} {enc : α → List Value} {k : Nat}
theorem RdG.take {w : World} {a : Option Addr} {l : List α} (h : RdG enc k w a l) (n : Nat) : RdG enc k w a (l.take n) := by
  intro i hi
  have hi' : i < l.length := by simp at hi; omega
  obtain ⟨b, o, h1, h2, h3⟩ := h i hi'
  exact ⟨b, o, h1, h2, fun j hj => by rw [List.getElem_take]; exact h3 j hj⟩
theorem RdG.dropN {w : World} {b o : Nat} {l : List α} (h : RdG enc k w (some ⟨b, o, none⟩) l) (n : Nat) : RdG enc k w (some ⟨b, o + n * k, none⟩) (l.drop n) := by
  intro i hi
  have hi' : n + i < l.length := by simp at hi; omega
  obtain ⟨b', o', h1, h2, h3⟩ := h (n + i) hi'
  injection h1 with h1
  injection h1 with e1 e2
  subst e1 e2
  refine ⟨b, o + n * k, rfl, h2, fun j hj => ?_⟩
  rw [List.getElem_drop, show o + n * k + i * k + j = o + (n + i) * k + j by rw [Nat.add_mul]; omega]
  exact h3 j hj
end
/-- What the model's events need of notes and voices. -/
structure Rng12 (c : Cn) : Prop where
  n : ∀ m ∈ c.ns, 1 ≤ m.o ∧ (m.k = 2 ∨ m.k = 4 → m.o ≤ c.ts.length) ∧ (m.k ≠ 2 → m.k ≠ 4 → m.o ≤ c.vs.length) ∧ m.v.size ≤ 1048576
  v : ∀ x ∈ c.vs, x.v.size ≤ 1048576

set_option maxRecDepth 100000 in
set_option maxHeartbeats 8000000 in
theorem specDo_any (c : Cn) (e : Hp) (B : Nat) (A : CA) (w : World) (h : VaC lo w B A c) (F : Fit12 c) (R : Rng12 c) (hi1 : 1 ≤ e.i) (hi2 : e.i ≤ c.ts.length) (he1 : 0 ≤ e.a) :
    Calls Try.prog 41 #[.pointer (some ⟨B, 0, none⟩), .agg #[.int .i64 e.k, .int .i64 e.i, .int .i64 e.a, .string e.v]] w fun r w' => r = .returned (.int .i64 (doC c e).2) ∧ (∃ A', VaC lo w' B A' (doC c e).1) ∧ w.grownBy w' (some B) := by
  have F0 := hide1 (And.intro (Blk.new w 40 #[.int .i64 e.k, .int .i64 e.i, .int .i64 e.a, .string e.v]) ((Below.refl w.heap.size w).alloc (Nat.le_refl _) (.cells #[.int .i64 e.k, .int .i64 e.i, .int .i64 e.a, .string e.v] 40)))
  have HV := hide1 h
  have lBw : B < w.heap.size := h.b.lt
  have hn5 := F.n
  have HF := hide1 F
  have HG := hide1 R
  clear h F R
  go_enter Try.func41, Try.ntmps41
  go_upto_region 1 with fail
  generalize (w.alloc (.cells #[.int .i64 e.k, .int .i64 e.i, .int .i64 e.a, .string e.v] 40)) = u at F0 ⊢
  obtain ⟨X, hX⟩ : ∃ X, X = w.heap.size := ⟨_, rfl⟩
  have VU := hide1 (HV.out.later F0.out.2)
  have FX := hide1 F0.out.1
  have GU := hide1 (show w.grownBy u (some B) from gnew F0.out.2)
  rw [← hX] at FX ⊢
  have HX := hide1 hX
  have lB : B < u.heap.size := VU.out.b.lt
  have lX : X < u.heap.size := FX.out.lt
  have hne : B ≠ X := by omega
  clear hX F0 HV
  have h0 : u.cell? ⟨X, 0, none⟩ = some (.int .i64 e.k) := FX.out.cell 0
  have h1 : u.cell? ⟨X, 1, none⟩ = some (.int .i64 e.i) := FX.out.cell 1
  have h2 : u.cell? ⟨X, 2, none⟩ = some (.int .i64 e.a) := FX.out.cell 2
  have h3 : u.cell? ⟨X, 3, none⟩ = some (.string e.v) := FX.out.cell 3
  have b2 : u.cell? ⟨B, 2, none⟩ = some (.slice A.na c.ns.length A.nc) := VU.out.b.cell 2
  by_cases c1 : e.k = 1
  · have HQ := hide1 (show doC c e = propC c e by unfold doC; rw [if_pos c1])
    have q1 : (e.k == 1) = true := by simp [c1]
    have CC := hide1 (specProp_any c e B A u VU.out HF.out hi1 hi2)
    clear c1
    go_wp2_with fail
    refine CC.out.mono ?_
    rintro r w2 ⟨rfl, ⟨A2, V2⟩, g2⟩
    have HV2 := hide1 V2
    have G2 := hide1 (gtrans GU.out g2)
    clear V2 g2 h0 h1 h2 h3 CC b2
    go_wp2
    go_ret
    exact ⟨by rw [HQ.out]; rfl, ⟨A2, by rw [HQ.out]; exact HV2.out⟩, G2.out⟩
  · have q1 : (e.k == 1) = false := by simp [c1]
    by_cases c2 : c.ns = []
    · have HQ := hide1 (show doC c e = (c, 1) by unfold doC; rw [if_neg c1, if_pos c2])
      have e0 : c.ns.length = 0 := by rw [c2]; rfl
      rw [e0] at b2
      clear c1 c2 e0
      go_wp2
      go_ret
      exact ⟨by rw [HQ.out]; rfl, ⟨A, by rw [HQ.out]; exact VU.out⟩, GU.out⟩
    · have hp := place_lt (e := e) c2
      have hpos : 0 < c.ns.length := by omega
      have HD := hide1 (show doC c e = if e.k = 4 then ({ c with ns := c.ns ++ [ntAt c (placeC c e)] }, 0) else if e.k = 3 then (dropC c (placeC c e), 0) else carrC (dropC c (placeC c e)) (ntAt c (placeC c e)) by unfold doC; rw [if_neg c1, if_neg c2])
      have hmod : e.a.tmod (c.ns.length : Int) = ((placeC c e : Nat) : Int) := by
        unfold placeC
        obtain ⟨a, ha⟩ : ∃ a : Nat, e.a = (a : Int) := ⟨e.a.toNat, by omega⟩
        rw [ha, Int.toNat_natCast, Int.tmod_eq_emod_of_nonneg (by omega)]
        omega
      have hat : ntAt c (placeC c e) = c.ns[placeC c e] := by unfold ntAt; rw [List.getD_eq_getElem?_getD, List.getElem?_eq_getElem hp]; rfl
      have hmem : c.ns[placeC c e] ∈ c.ns := List.getElem_mem hp
      have hcap := VU.out.r.nl
      obtain ⟨rb, ro, hra, hrl, hrc⟩ := VU.out.r.n (placeC c e) hp
      have HRC := hide1 hrc
      rw [hat] at HD
      have HME := hide1 hmem
      clear hrc hat hmem
      generalize placeC c e = p at *
      generalize c.ns[p] = m at *
      rw [hra] at b2
      have HRA := hide1 hra
      clear hra
      have z0 : ((c.ns.length : Int) == 0) = false := by rw [beq_eq_false_iff_ne]; omega
      have z1 : ¬ ((c.ns.length : Int) = 0) := by omega
      have qp : IntKind.i64.wrap (p : Int) = (p : Int) := IntWalk.i64_in _ ⟨by omega, by omega⟩
      have qp1 : IntKind.i64.wrap ((p : Int) + 1) = (p : Int) + 1 := IntWalk.i64_in _ ⟨by omega, by omega⟩
      have k1 : (p : Int) < (c.ns.length : Int) := by omega
      have k0 : (0 : Int) ≤ (p : Int) := by omega
      have lr : rb < u.heap.size := hrl
      have D5 := hide1 (show Below u.heap.size u u.drew from (Below.refl _ _).drew)
      go_upto_region 5 with fail
      go_region_held3 (fun w' => w'.cell? ⟨X, 2, none⟩ = some (.int .i64 e.a) ∧ w'.cell? ⟨B, 2, none⟩ = some (.slice (some ⟨rb, ro, none⟩) c.ns.length A.nc)) (first | go_keep | exact ⟨h2, b2⟩) (fail)
      generalize u.drew = u2 at D5 ⊢
      have V2 := hide1 (VU.out.later D5.out)
      have FX2 := hide1 (FX.out.below D5.out lX)
      have G2 := hide1 (show w.grownBy u2 (some B) from gtrans GU.out (gnew D5.out))
      have HRW := hide1 (fun i (hi : i < 6) => (D5.out.cell (p := ⟨rb, ro + p * 6 + i, none⟩) lr).trans (HRC.out i hi))
      have lB2 : B < u2.heap.size := V2.out.b.lt
      have lX2 : X < u2.heap.size := FX2.out.lt
      clear VU FX GU D5 h0 h1 h2 h3 b2 lB lX HRC z0 z1 hmod
      have b2 : u2.cell? ⟨B, 2, none⟩ = some (.slice (some ⟨rb, ro, none⟩) c.ns.length A.nc) := by rw [← HRA.out]; exact V2.out.b.cell 2
      have m0 : u2.cell? ⟨rb, ro + p * 6, none⟩ = some (.int .i64 m.k) := HRW.out 0 (by omega)
      have m1 : u2.cell? ⟨rb, ro + p * 6 + 1, none⟩ = some (.int .i64 m.f) := HRW.out 1 (by omega)
      have m2 : u2.cell? ⟨rb, ro + p * 6 + 2, none⟩ = some (.int .i64 m.o) := HRW.out 2 (by omega)
      have m3 : u2.cell? ⟨rb, ro + p * 6 + 3, none⟩ = some (.int .i64 m.b) := HRW.out 3 (by omega)
      have m4 : u2.cell? ⟨rb, ro + p * 6 + 4, none⟩ = some (.int .i64 m.t) := HRW.out 4 (by omega)
      have m5 : u2.cell? ⟨rb, ro + p * 6 + 5, none⟩ = some (.string m.v) := HRW.out 5 (by omega)
      have FY0 := hide1 (And.intro (Blk.new u2 111 #[.int .i64 m.k, .int .i64 m.f, .int .i64 m.o, .int .i64 m.b, .int .i64 m.t, .string m.v]) ((Below.refl u2.heap.size u2).alloc (Nat.le_refl _) (.cells #[.int .i64 m.k, .int .i64 m.f, .int .i64 m.o, .int .i64 m.b, .int .i64 m.t, .string m.v] 111)))
      go_upto_region 7 with fail
      generalize (u2.alloc (.cells #[.int .i64 m.k, .int .i64 m.f, .int .i64 m.o, .int .i64 m.b, .int .i64 m.t, .string m.v] 111)) = wr at FY0 ⊢
      obtain ⟨Y, hY⟩ : ∃ Y, Y = u2.heap.size := ⟨_, rfl⟩
      have FY := hide1 FY0.out.1
      rw [← hY] at FY ⊢
      have V3 := hide1 (V2.out.later FY0.out.2)
      have FX3 := hide1 (FX2.out.below FY0.out.2 lX2)
      have G3 := hide1 (show w.grownBy wr (some B) from gtrans G2.out (gnew FY0.out.2))
      have lB : B < wr.heap.size := V3.out.b.lt
      have lX : X < wr.heap.size := FX3.out.lt
      have lY : Y < wr.heap.size := FY.out.lt
      have hne2 : B ≠ Y := by omega
      have hne3 : X ≠ Y := by omega
      clear V2 FX2 G2 b2 m0 m1 m2 m3 m4 m5 HRW FY0 hY lB2 lX2
      have h0 : wr.cell? ⟨X, 0, none⟩ = some (.int .i64 e.k) := FX3.out.cell 0
      have h1 : wr.cell? ⟨X, 1, none⟩ = some (.int .i64 e.i) := FX3.out.cell 1
      have h2 : wr.cell? ⟨X, 2, none⟩ = some (.int .i64 e.a) := FX3.out.cell 2
      have h3 : wr.cell? ⟨X, 3, none⟩ = some (.string e.v) := FX3.out.cell 3
      have n0 : wr.cell? ⟨Y, 0, none⟩ = some (.int .i64 m.k) := FY.out.cell 0
      have n1 : wr.cell? ⟨Y, 1, none⟩ = some (.int .i64 m.f) := FY.out.cell 1
      have n2 : wr.cell? ⟨Y, 2, none⟩ = some (.int .i64 m.o) := FY.out.cell 2
      have n3 : wr.cell? ⟨Y, 3, none⟩ = some (.int .i64 m.b) := FY.out.cell 3
      have n4 : wr.cell? ⟨Y, 4, none⟩ = some (.int .i64 m.t) := FY.out.cell 4
      have n5 : wr.cell? ⟨Y, 5, none⟩ = some (.string m.v) := FY.out.cell 5
      by_cases c4 : e.k = 4
      · have HQ := hide1 (HD.out.trans (if_pos c4))
        have q4 : (e.k == 4) = true := by simp [c4]
        clear c1 c2 c4 HD
        go_wp2_with fail
        refine (specSay_any c m B A wr V3.out (by omega)).mono ?_
        rintro r u5 ⟨rfl, ⟨na, nc, V6⟩, g6⟩
        have HV6 := hide1 V6
        have G6 := hide1 (gtrans G3.out g6)
        clear V6 g6 h0 h1 h2 h3 n0 n1 n2 n3 n4 n5
        go_wp2
        go_ret
        exact ⟨by rw [HQ.out]; rfl, ⟨_, by rw [HQ.out]; exact HV6.out⟩, G6.out⟩
      · have HD2 := hide1 (HD.out.trans (if_neg c4))
        have q4 : (e.k == 4) = false := by simp [c4]
        clear c1 c2 c4 HD
        have HR := hide1 (show RdG ntC 6 wr (some ⟨rb, ro, none⟩) c.ns by rw [← HRA.out]; exact V3.out.r.n)
        have HRT := hide1 (HR.out.take p)
        have HRD := hide1 (show RdG ntC 6 wr (if A.nc = p + 1 then some ⟨rb, ro, none⟩ else some ⟨rb, ro + (p + 1) * 6, none⟩) (c.ns.drop (p + 1)) by
          by_cases h : A.nc = p + 1
          · rw [if_pos h, List.drop_eq_nil_of_le (by omega)]; exact RdG.nil _ _
          · rw [if_neg h]; exact HR.out.dropN (p + 1))
        have HZ := hide1 (V3.out.b.froz 2)
        have hz : wr.frozen? ⟨B, 2, none⟩ = false := HZ.out
        have g0 : wr.cell? ⟨B, 2, none⟩ = some (.slice (some ⟨rb, ro, none⟩) c.ns.length A.nc) := by rw [← HRA.out]; exact V3.out.b.cell 2
        have G0 := hide1 g0
        have j1 : (p : Int) ≤ (c.ns.length : Int) := by omega
        have j2 : (p : Int) + 1 ≤ (c.ns.length : Int) := by omega
        have j3 : (c.ns.length : Int) ≤ (A.nc : Int) := by omega
        have j4 : (p : Int) ≤ (A.nc : Int) := by omega
        have j5 : (0 : Int) ≤ (p : Int) + 1 := by omega
        have eT : (c.ns.take p).length = p := by simp; omega
        have HET := hide1 eT
        have eD : (c.ns.drop (p + 1)).length = c.ns.length - (p + 1) := by simp
        have HED := hide1 eD
        clear eT eD
        go_upto_region 10 with fail
        go_cut [5] (fun iv wx => iv = .int .i64 (p : Int) ∧ ∃ na nc, Hid (VaC lo wx B { A with na := na, nc := nc } (dropC c p)) ∧ Hid (w.grownBy wx (some B)) ∧ Hid (Blk wx X 40 [.int .i64 e.k, .int .i64 e.i, .int .i64 e.a, .string e.v]) ∧ Hid (Blk wx Y 111 [.int .i64 m.k, .int .i64 m.f, .int .i64 m.o, .int .i64 m.b, .int .i64 m.t, .string m.v]))
        case first =>
          go_region_law ((first | (have := E4.out; (refine step_appG encN rowN rfl (.tmp 48) (.tmp 55) rfl wr.heap.size (.slice b4 p c4) p (c.ns.take p) rfl (by first | exact O4.out | exact O4.out.drew) (if A.nc = p + 1 then some ⟨rb, ro, none⟩ else some ⟨rb, ro + (p + 1) * 6, none⟩) (c.ns.length - (p + 1)) (A.nc - (p + 1)) (c.ns.drop (p + 1)) rfl HED.out (HRD.out.later (E4.out.trans (show Below wr.heap.size w4 _ by go_grown))) (by omega) (by have := E4.out.size; go_size) ?_; intro v5 w5 ho5 hb5; obtain ⟨b5, c5, rfl⟩ := form_of ho5; have E5 : Hid (Below wr.heap.size wr w5) := E4.out.trans ((show Below wr.heap.size w4 _ by go_grown).trans (gbelow hb5 (fun g hg => (O4.out.lt g hg).1) (by have := E4.out.size; go_size))); have O5 := hide1 ho5; have s5 := E5.out.size; have hz : w5.frozen? ⟨B, 2, none⟩ = false := (E5.out.frozen lB).trans HZ.out; clear ho5 hb5 g0; have g0 : w5.cell? ⟨B, 2, none⟩ = some (.slice (some ⟨rb, ro, none⟩) c.ns.length A.nc) := (E5.out.cell lB).trans G0.out)) | ((refine step_copyG encN rowN rfl (.tmp 41) (.tmp 47) rfl wr.heap.size _ rfl (by first | exact Blk.new _ _ _ | exact blkE1 _ _ | exact Blk.more (Blk.new _ _ _) _ | exact blkE2 _ _ _ | exact (blkN2 _ _ _ _ _).2.1 | exact blkE3 _ _ _) (by first | exact Nat.le_refl _ | exact Nat.le_succ _) (some ⟨rb, ro, none⟩) p A.nc (c.ns.take p) rfl HET.out (HRT.out.later (by go_grown)) (by omega) ?_; intro b4 c4 w4 ho4 hb4 hg4; have E4 : Hid (Below wr.heap.size wr w4) := (show Below wr.heap.size wr _ by go_grown).trans hb4; have O4 := hide1 ho4; have s4 := E4.out.size; clear ho4 hb4 hg4 g0; have g0 : w4.cell? ⟨B, 2, none⟩ = some (.slice (some ⟨rb, ro, none⟩) c.ns.length A.nc) := (E4.out.cell lB).trans G0.out))))
          all_goals
            go_wp2_with fail
            all_goals
              go_meet
              have e1 : (dropC c p).ns.length = p + (c.ns.length - (p + 1)) := by show (c.ns.take p ++ c.ns.drop (p + 1)).length = _; rw [List.length_append, HET.out, HED.out]
              have hg := put_grown (B := B) E5.out 2 (.slice b5 (p + (c.ns.length - (p + 1))) c5)
              have P := VaC.putN (l := (dropC c p).ns) V3.out E5.out (by rw [e1]; exact O5.out) lB V3.out.lw
              rw [e1] at P
              exact ⟨rfl, b5, c5, hide1 P, hide1 (gtrans G3.out hg), hide1 (gblk hg FX3.out (by intro e; injection e; omega)), hide1 (gblk hg FY.out (by intro e; injection e; omega))⟩
        case rest =>
        obtain ⟨rfl, na, nc, V4, G4, FX4, FY4⟩ := hcut
        clear V3 FX3 FY G3 HR HRT HRD HZ hz g0 G0 h0 h1 h2 h3 n0 n1 n2 n3 n4 n5 lX lY lB
        generalize wc = w4 at *
        have h0 : w4.cell? ⟨X, 0, none⟩ = some (.int .i64 e.k) := FX4.out.cell 0
        have h1 : w4.cell? ⟨X, 1, none⟩ = some (.int .i64 e.i) := FX4.out.cell 1
        have h2 : w4.cell? ⟨X, 2, none⟩ = some (.int .i64 e.a) := FX4.out.cell 2
        have h3 : w4.cell? ⟨X, 3, none⟩ = some (.string e.v) := FX4.out.cell 3
        have n0 : w4.cell? ⟨Y, 0, none⟩ = some (.int .i64 m.k) := FY4.out.cell 0
        have n1 : w4.cell? ⟨Y, 1, none⟩ = some (.int .i64 m.f) := FY4.out.cell 1
        have n2 : w4.cell? ⟨Y, 2, none⟩ = some (.int .i64 m.o) := FY4.out.cell 2
        have n3 : w4.cell? ⟨Y, 3, none⟩ = some (.int .i64 m.b) := FY4.out.cell 3
        have n4 : w4.cell? ⟨Y, 4, none⟩ = some (.int .i64 m.t) := FY4.out.cell 4
        have n5 : w4.cell? ⟨Y, 5, none⟩ = some (.string m.v) := FY4.out.cell 5
        by_cases c3 : e.k = 3
        · have HQ := hide1 (HD2.out.trans (if_pos c3))
          have q3 : (e.k == 3) = true := by simp [c3]
          clear c3 HD2
          go_wp2
          go_ret
          exact ⟨by rw [HQ.out]; rfl, ⟨_, by rw [HQ.out]; exact V4.out⟩, G4.out⟩
        · have HQ := hide1 (HD2.out.trans (if_neg c3))
          have q3 : (e.k == 3) = false := by simp [c3]
          have hm := HG.out.n m HME.out
          have CC := hide1 (specCarr_any (dropC c p) m B _ w4 V4.out ⟨HF.out.v, HF.out.t, by show (c.ns.take p ++ c.ns.drop (p + 1)).length ≤ _; rw [List.length_append, HET.out, HED.out]; omega, HF.out.h, HF.out.b, HF.out.l, HF.out.i⟩ hm.1 hm.2.1 hm.2.2.1 HG.out.v hm.2.2.2)
          clear c3 HD2 hm
          go_wp2_with fail
          refine CC.out.mono ?_
          rintro r w5 ⟨rfl, ⟨A5, V5⟩, g5⟩
          have HV5 := hide1 V5
          have G5 := hide1 (gtrans G4.out g5)
          clear V5 g5 h0 h1 h2 h3 n0 n1 n2 n3 n4 n5 CC
          go_wp2
          go_ret
          exact ⟨by rw [HQ.out]; rfl, ⟨A5, by rw [HQ.out]; exact HV5.out⟩, G5.out⟩
end Go.Proofs.Ytgehdgmllilmgaa
