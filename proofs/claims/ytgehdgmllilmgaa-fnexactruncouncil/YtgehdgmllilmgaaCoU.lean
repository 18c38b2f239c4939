/- Decisions by the model: a try proposes. -/
import Derived.Test.YtgehdgmllilmgaaCoS
import Derived.Test.YtgehdgmllilmgaaCoT
namespace Go.Proofs.Ytgehdgmllilmgaa
open Go.RowKit
set_option linter.unusedVariables false
variable {lo : Nat → Prop}

/-- What the model's steps need of a council: numbers that fit, few voices and tries, not too many notes. -/
structure Fit12 (c : Cn) : Prop where
  v : c.vs.length ≤ 1000
  t : c.ts.length ≤ 1000
  n : c.ns.length ≤ 900000
  h : c.ch.length ≤ 900000
  b : ∀ t ∈ c.ts, 0 ≤ t.b ∧ t.b ≤ 1000000
  l : ∀ t ∈ c.ts, t.ps.length ≤ 1000 ∧ t.tk.length ≤ 1000
  i : ∀ j (h : j < c.ts.length), c.ts[j].i = (j : Int) + 1
theorem tyAt_eq {c : Cn} {i : Int} {j : Nat} (hi : i = (j : Int) + 1) (hj : j < c.ts.length) : tyAt c i = c.ts[j] := by
  subst hi
  unfold tyAt
  rw [show ((j : Int) + 1).toNat - 1 = j by omega, List.getD_eq_getElem?_getD, List.getElem?_eq_getElem hj]
  rfl
theorem setTy_eq {c : Cn} {i : Int} {j : Nat} (hi : i = (j : Int) + 1) (t : Ty) : setTy c i t = { c with ts := c.ts.set j t } := by
  subst hi
  unfold setTy
  rw [show ((j : Int) + 1).toNat - 1 = j by omega]
theorem nil_tmR (w : World) (B : Nat) (i b : Int) (v : ByteArray) (a ch : Bool) : TmR lo w B ⟨⟨i, b, v, [], a, [], ch⟩, none, 0, none, 0⟩ := ⟨RdG.nil _ _, fun _ _ e => (by cases e), RdG.nil _ _, fun _ _ e => (by cases e)⟩
theorem askP_next (i b : Int) (k : Nat) : (List.range (k + 1)).map (askP i b) = (List.range k).map (askP i b) ++ [⟨1, i, (k : Int) + 1, b, 0, ⟨#[]⟩⟩] := by
  rw [List.range_succ, List.map_append]
  rfl

set_option maxRecDepth 100000 in
set_option maxHeartbeats 4000000 in
theorem specProp_any (c : Cn) (e : Hp) (B : Nat) (A : CA) (w : World) (h : VaC lo w B A c) (F : Fit12 c) (h1 : 1 ≤ e.i) (h2 : e.i ≤ c.ts.length) :
    Calls Try.prog 78 #[.pointer (some ⟨B, 0, none⟩), .agg #[.int .i64 e.k, .int .i64 e.i, .int .i64 e.a, .string e.v]] w fun r w' => r = .returned (.int .i64 (propC c e).2) ∧ (∃ A', VaC lo w' B A' (propC c e).1) ∧ w.grownBy w' (some B) := by
  obtain ⟨j, hj⟩ : ∃ j : Nat, e.i = (j : Int) + 1 := ⟨e.i.toNat - 1, by omega⟩
  have hjl : j < c.ts.length := by omega
  have hjL : j < A.L.length := by rw [h.len]; exact hjl
  have F0 := hide1 (And.intro (Blk.new w 40 #[.int .i64 e.k, .int .i64 e.i, .int .i64 e.a, .string e.v]) ((Below.refl w.heap.size w).alloc (Nat.le_refl _) (.cells #[.int .i64 e.k, .int .i64 e.i, .int .i64 e.a, .string e.v] 40)))
  have HV := hide1 h
  have HF := hide1 F
  have lBw : B < w.heap.size := h.b.lt
  have hy : (A.L[j]'hjL).y = c.ts[j] := by
    have := h.r.e
    have e2 : (A.L.map (·.y))[j]'(by rw [List.length_map]; exact hjL) = c.ts[j] := by simp only [this]
    rw [← e2, List.getElem_map]
  have HP := hide1 (show propC c e = if 10000 < nextB c.ts[j] e.i then (c, 1) else ({ c with ts := c.ts.set j ⟨e.i, nextB c.ts[j] e.i, e.v, [], false, [], false⟩, ns := c.ns ++ (List.range c.vs.length).map (askP e.i (nextB c.ts[j] e.i)) }, 0) by
    unfold propC
    rw [tyAt_eq hj hjl, setTy_eq hj])
  have hb := F.b c.ts[j] (List.getElem_mem hjl)
  have hv5 := F.v
  have hn5 := F.n
  have ht5 := F.t
  rw [← hy] at HP hb
  obtain ⟨rb, ro, hra, hrl, hrc⟩ := h.r.t j hjL
  have HR := hide1 hrc
  rw [hj] at HP
  generalize A.L[j]'hjL = t at *
  clear h F hy hrc
  have HJ := hide1 hj
  clear hj
  go_enter Try.func78, Try.ntmps78
  go_upto_region 1 with fail
  generalize (w.alloc (.cells #[.int .i64 e.k, .int .i64 e.i, .int .i64 e.a, .string e.v] 40)) = u at F0 ⊢
  obtain ⟨X, hX⟩ : ∃ X, X = w.heap.size := ⟨_, rfl⟩
  have VU := hide1 (HV.out.later F0.out.2)
  have FX := hide1 F0.out.1
  have GU := hide1 (show w.grownBy u (some B) from gnew F0.out.2)
  have hRu := fun i (hi : i < 7) => (F0.out.2.cell (p := ⟨rb, ro + j * 7 + i, none⟩) hrl).trans (HR.out i hi)
  rw [← hX] at FX ⊢
  have HX := hide1 hX
  have lB : B < u.heap.size := VU.out.b.lt
  have lX : X < u.heap.size := FX.out.lt
  have hne : B ≠ X := by omega
  clear hX F0 HV
  have g0 : u.cell? ⟨B, 1, none⟩ = some (.slice A.ta c.ts.length A.tc) := VU.out.b.cell 1
  rw [hra] at g0
  have h0 : u.cell? ⟨X, 0, none⟩ = some (.int .i64 e.k) := FX.out.cell 0
  have h1 : u.cell? ⟨X, 1, none⟩ = some (.int .i64 e.i) := FX.out.cell 1
  have h2 : u.cell? ⟨X, 2, none⟩ = some (.int .i64 e.a) := FX.out.cell 2
  have h3 : u.cell? ⟨X, 3, none⟩ = some (.string e.v) := FX.out.cell 3
  rw [HJ.out] at h1
  have r0 : u.cell? ⟨rb, ro + j * 7, none⟩ = some (.int .i64 t.y.i) := hRu 0 (by omega)
  have r1 : u.cell? ⟨rb, ro + j * 7 + 1, none⟩ = some (.int .i64 t.y.b) := hRu 1 (by omega)
  have r2 : u.cell? ⟨rb, ro + j * 7 + 2, none⟩ = some (.string t.y.v) := hRu 2 (by omega)
  have r3 : u.cell? ⟨rb, ro + j * 7 + 3, none⟩ = some (.slice t.pa t.y.ps.length t.pc) := hRu 3 (by omega)
  have r4 : u.cell? ⟨rb, ro + j * 7 + 4, none⟩ = some (.bool t.y.as) := hRu 4 (by omega)
  have r5 : u.cell? ⟨rb, ro + j * 7 + 5, none⟩ = some (.slice t.ka t.y.tk.length t.kc) := hRu 5 (by omega)
  have r6 : u.cell? ⟨rb, ro + j * 7 + 6, none⟩ = some (.bool t.y.ch) := hRu 6 (by omega)
  have qj : ((j : Int) + 1) - 1 = (j : Int) := by omega
  have qw : IntKind.i64.wrap ((j : Int) + 1 - 1) = (j : Int) := by rw [qj]; exact IntWalk.i64_in _ ⟨by omega, by omega⟩
  have qw2 : IntKind.i64.wrap (j : Int) = (j : Int) := IntWalk.i64_in _ ⟨by omega, by omega⟩
  have k1 : (j : Int) < (c.ts.length : Int) := by omega
  have k0 : (0 : Int) ≤ (j : Int) := by omega
  clear qj hRu
  have lr : rb < u.heap.size := Nat.lt_of_lt_of_le hrl (by have := lX; have := HX.out; omega)
  go_region_held3 (fun w' => w'.cell? ⟨B, 1, none⟩ = some (.slice (some ⟨rb, ro, none⟩) c.ts.length A.tc) ∧ w'.cell? ⟨X, 1, none⟩ = some (.int .i64 ((j : Int) + 1)) ∧ w'.cell? ⟨rb, ro + j * 7, none⟩ = some (.int .i64 t.y.i) ∧ w'.cell? ⟨rb, ro + j * 7 + 1, none⟩ = some (.int .i64 t.y.b) ∧ w'.cell? ⟨rb, ro + j * 7 + 2, none⟩ = some (.string t.y.v) ∧ w'.cell? ⟨rb, ro + j * 7 + 3, none⟩ = some (.slice t.pa t.y.ps.length t.pc) ∧ w'.cell? ⟨rb, ro + j * 7 + 4, none⟩ = some (.bool t.y.as) ∧ w'.cell? ⟨rb, ro + j * 7 + 5, none⟩ = some (.slice t.ka t.y.tk.length t.kc) ∧ w'.cell? ⟨rb, ro + j * 7 + 6, none⟩ = some (.bool t.y.ch)) (first | go_keep | exact ⟨g0, h1, r0, r1, r2, r3, r4, r5, r6⟩) (fail)
  have GY := hide1 (And.intro (show Blk (u.alloc (.cells #[.int .i64 t.y.i, .int .i64 t.y.b, .string t.y.v, .slice t.pa t.y.ps.length t.pc, .bool t.y.as, .slice t.ka t.y.tk.length t.kc, .bool t.y.ch] 47)).drew u.heap.size 47 [.int .i64 t.y.i, .int .i64 t.y.b, .string t.y.v, .slice t.pa t.y.ps.length t.pc, .bool t.y.as, .slice t.ka t.y.tk.length t.kc, .bool t.y.ch] from Blk.new u _ _) ((Below.refl u.heap.size u).alloc (Nat.le_refl _) (.cells #[.int .i64 t.y.i, .int .i64 t.y.b, .string t.y.v, .slice t.pa t.y.ps.length t.pc, .bool t.y.as, .slice t.ka t.y.tk.length t.kc, .bool t.y.ch] 47)).drew)
  generalize (u.alloc (.cells #[.int .i64 t.y.i, .int .i64 t.y.b, .string t.y.v, .slice t.pa t.y.ps.length t.pc, .bool t.y.as, .slice t.ka t.y.tk.length t.kc, .bool t.y.ch] 47)).drew = u2 at GY ⊢
  obtain ⟨Y, hY⟩ : ∃ Y, Y = u.heap.size := ⟨_, rfl⟩
  have FY := hide1 GY.out.1
  have VY := hide1 (VU.out.later GY.out.2)
  have FX2 := hide1 (FX.out.below GY.out.2 lX)
  have G2 := hide1 (show w.grownBy u2 (some B) from gtrans GU.out (gnew GY.out.2))
  rw [← hY] at FY ⊢
  have lY : Y < u2.heap.size := FY.out.lt
  have lB2 : B < u2.heap.size := VY.out.b.lt
  have lX2 : X < u2.heap.size := FX2.out.lt
  have hne2 : B ≠ Y := by omega
  have hne3 : X ≠ Y := by omega
  clear hY GY VU FX GU g0 h0 h1 h2 h3 r0 r1 r2 r3 r4 r5 r6 lB lX lr hrl
  have y1 : u2.cell? ⟨Y, 1, none⟩ = some (.int .i64 t.y.b) := FY.out.cell 1
  have x1 : u2.cell? ⟨X, 1, none⟩ = some (.int .i64 ((j : Int) + 1)) := by rw [← HJ.out]; exact FX2.out.cell 1
  have x3 : u2.cell? ⟨X, 3, none⟩ = some (.string e.v) := FX2.out.cell 3
  have HE := hide1 (show (tyAt c e.i) = tyAt c e.i from rfl)
  by_cases cb : 0 < t.y.b
  · have eN : nextB t.y ((j : Int) + 1) = t.y.b + 10 := by unfold nextB; rw [if_pos cb]
    rw [eN] at HP
    have qb : IntKind.i64.wrap (t.y.b + 10) = t.y.b + 10 := IntWalk.i64_in _ ⟨by omega, by omega⟩
    clear eN
    by_cases cm : 10000 < (t.y.b + 10)
    · have HQ := hide1 (HP.out.trans (if_pos cm))
      go_wp2
      go_ret
      exact ⟨by rw [HQ.out]; rfl, ⟨A, by rw [HQ.out]; exact VY.out⟩, G2.out⟩
    · have HQ := hide1 (HP.out.trans (if_neg cm))
      clear HP
      go_wp2_with fail
      refine (specTry_any c ⟨⟨(j : Int) + 1, (t.y.b + 10), e.v, [], false, [], false⟩, none, 0, none, 0⟩ B A u2 VY.out j rfl hjl ht5 (nil_tmR u2 B _ _ _ _ _)).mono ?_
      rintro r u3 ⟨rfl, ⟨ta, tc, V3⟩, g3⟩
      have HV3 := hide1 V3
      have FX3 := hide1 (gblk g3 FX2.out (by intro e; injection e; omega))
      have G3 := hide1 (gtrans G2.out g3)
      clear V3 g3 y1 x1 x3 VY FY FX2 G2
      go_wp2
      go_loopw [7] (fun iv wr => ∃ i : Nat, i ≤ c.vs.length ∧ iv = .int .i64 ((i : Int) + 1) ∧ ∃ A', Hid (VaC lo wr B A' { c with ts := c.ts.set j ⟨(j : Int) + 1, (t.y.b + 10), e.v, [], false, [], false⟩, ns := c.ns ++ (List.range i).map (askP ((j : Int) + 1) (t.y.b + 10)) }) ∧ Hid (w.grownBy wr (some B)) ∧ Hid (Blk wr X 40 [.int .i64 e.k, .int .i64 e.i, .int .i64 e.a, .string e.v])) (fun iv _ => c.vs.length + 1 - (intOf iv).toNat)
      case atStart =>
        refine ⟨0, Nat.zero_le _, rfl, { A with ta := ta, tc := tc, L := A.L.set j ⟨⟨(j : Int) + 1, (t.y.b + 10), e.v, [], false, [], false⟩, none, 0, none, 0⟩ }, ?_, G3, FX3⟩
        rw [List.range_zero, List.map_nil, List.append_nil]
        exact HV3
      case round =>
        obtain ⟨i, hi, rfl, A1, V4, G4, FX4⟩ := hrel
        have b0 : wr.cell? ⟨B, 0, none⟩ = some (.slice A1.va c.vs.length A1.vc) := V4.out.b.cell 0
        have x1 : wr.cell? ⟨X, 1, none⟩ = some (.int .i64 ((j : Int) + 1)) := by rw [← HJ.out]; exact FX4.out.cell 1
        by_cases hlt : i < c.vs.length
        · have k2 : (i : Int) + 1 ≤ (c.vs.length : Int) := by omega
          have q2 : IntKind.i64.wrap ((i : Int) + 1 + 1) = (i : Int) + 1 + 1 := IntWalk.i64_in _ ⟨by omega, by omega⟩
          go_wp2_with fail
          refine (specSay_any _ ⟨1, (j : Int) + 1, (i : Int) + 1, (t.y.b + 10), 0, ⟨#[]⟩⟩ B A1 wr V4.out (by simp; omega)).mono ?_
          rintro r u4 ⟨rfl, ⟨na, nc, V5⟩, g5⟩
          have HV5 := hide1 V5
          have FX5 := hide1 (gblk g5 FX4.out (by intro e; injection e; omega))
          have G5 := hide1 (gtrans G4.out g5)
          clear V5 g5 b0 x1
          go_wp2
          go_roundw
          case rel =>
            refine ⟨i + 1, by omega, by go_num, { A1 with na := na, nc := nc }, ?_, G5, FX5⟩
            rw [askP_next, ← List.append_assoc]
            exact HV5
          case measure => simp [intOf]; omega
        · obtain rfl : i = c.vs.length := by omega
          have k2 : ¬ ((c.vs.length : Int) + 1 ≤ (c.vs.length : Int)) := by omega
          go_wp2
          go_ret
          exact ⟨by rw [HQ.out]; rfl, ⟨A1, by rw [HQ.out]; exact V4.out⟩, G4.out⟩
  · have eN : nextB t.y ((j : Int) + 1) = (j : Int) + 1 := by unfold nextB; rw [if_neg cb]
    rw [eN] at HP
    clear eN
    by_cases cm : 10000 < ((j : Int) + 1)
    · exact absurd cm (by omega)
    · have HQ := hide1 (HP.out.trans (if_neg cm))
      clear HP
      go_wp2_with fail
      refine (specTry_any c ⟨⟨(j : Int) + 1, ((j : Int) + 1), e.v, [], false, [], false⟩, none, 0, none, 0⟩ B A u2 VY.out j rfl hjl ht5 (nil_tmR u2 B _ _ _ _ _)).mono ?_
      rintro r u3 ⟨rfl, ⟨ta, tc, V3⟩, g3⟩
      have HV3 := hide1 V3
      have FX3 := hide1 (gblk g3 FX2.out (by intro e; injection e; omega))
      have G3 := hide1 (gtrans G2.out g3)
      clear V3 g3 y1 x1 x3 VY FY FX2 G2
      go_wp2
      go_loopw [7] (fun iv wr => ∃ i : Nat, i ≤ c.vs.length ∧ iv = .int .i64 ((i : Int) + 1) ∧ ∃ A', Hid (VaC lo wr B A' { c with ts := c.ts.set j ⟨(j : Int) + 1, ((j : Int) + 1), e.v, [], false, [], false⟩, ns := c.ns ++ (List.range i).map (askP ((j : Int) + 1) ((j : Int) + 1)) }) ∧ Hid (w.grownBy wr (some B)) ∧ Hid (Blk wr X 40 [.int .i64 e.k, .int .i64 e.i, .int .i64 e.a, .string e.v])) (fun iv _ => c.vs.length + 1 - (intOf iv).toNat)
      case atStart =>
        refine ⟨0, Nat.zero_le _, rfl, { A with ta := ta, tc := tc, L := A.L.set j ⟨⟨(j : Int) + 1, ((j : Int) + 1), e.v, [], false, [], false⟩, none, 0, none, 0⟩ }, ?_, G3, FX3⟩
        rw [List.range_zero, List.map_nil, List.append_nil]
        exact HV3
      case round =>
        obtain ⟨i, hi, rfl, A1, V4, G4, FX4⟩ := hrel
        have b0 : wr.cell? ⟨B, 0, none⟩ = some (.slice A1.va c.vs.length A1.vc) := V4.out.b.cell 0
        have x1 : wr.cell? ⟨X, 1, none⟩ = some (.int .i64 ((j : Int) + 1)) := by rw [← HJ.out]; exact FX4.out.cell 1
        by_cases hlt : i < c.vs.length
        · have k2 : (i : Int) + 1 ≤ (c.vs.length : Int) := by omega
          have q2 : IntKind.i64.wrap ((i : Int) + 1 + 1) = (i : Int) + 1 + 1 := IntWalk.i64_in _ ⟨by omega, by omega⟩
          go_wp2_with fail
          refine (specSay_any _ ⟨1, (j : Int) + 1, (i : Int) + 1, ((j : Int) + 1), 0, ⟨#[]⟩⟩ B A1 wr V4.out (by simp; omega)).mono ?_
          rintro r u4 ⟨rfl, ⟨na, nc, V5⟩, g5⟩
          have HV5 := hide1 V5
          have FX5 := hide1 (gblk g5 FX4.out (by intro e; injection e; omega))
          have G5 := hide1 (gtrans G4.out g5)
          clear V5 g5 b0 x1
          go_wp2
          go_roundw
          case rel =>
            refine ⟨i + 1, by omega, by go_num, { A1 with na := na, nc := nc }, ?_, G5, FX5⟩
            rw [askP_next, ← List.append_assoc]
            exact HV5
          case measure => simp [intOf]; omega
        · obtain rfl : i = c.vs.length := by omega
          have k2 : ¬ ((c.vs.length : Int) + 1 ≤ (c.vs.length : Int)) := by omega
          go_wp2
          go_ret
          exact ⟨by rw [HQ.out]; rfl, ⟨A1, by rw [HQ.out]; exact V4.out⟩, G4.out⟩
end Go.Proofs.Ytgehdgmllilmgaa
