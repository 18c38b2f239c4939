/- Decisions by the model: a try is told a promise. -/
import Derived.Test.YtgehdgmllilmgaaCoU
import Derived.Test.YtgehdgmllilmgaaYV
namespace Go.Proofs.Ytgehdgmllilmgaa
open Go.RowKit
set_option linter.unusedVariables false
variable {lo : Nat → Prop}

theorem askT_next (i b : Int) (v : ByteArray) (k : Nat) : (List.range (k + 1)).map (askT i b v) = (List.range k).map (askT i b v) ++ [⟨3, i, (k : Int) + 1, b, 0, v⟩] := by
  rw [List.range_succ, List.map_append]
  rfl
theorem any_next {l : List Nt} {f : Int} {i : Nat} (h : i < l.length) (h0 : (l.take i).any (fun p => p.f == f) = false) (h1 : (l[i].f == f) = false) : (l.take (i + 1)).any (fun p => p.f == f) = false := by
  rw [List.take_succ_eq_append_getElem h, List.any_append, h0]
  simpa using h1
theorem any_met {l : List Nt} {f : Int} {i : Nat} (h : i < l.length) (h1 : l[i].f = f) : l.any (fun p => p.f == f) = true := List.any_eq_true.2 ⟨l[i], List.getElem_mem h, by simp [h1]⟩
/-- A try of a council, its cells, and its rows. -/
theorem VaC.ty {w : World} {B : Nat} {A : CA} {c : Cn} (h : VaC lo w B A c) {j : Nat} (hj : j < c.ts.length) : ∃ t : Tm, t.y = c.ts[j] ∧ TmR lo w B t ∧ ∃ rb ro, A.ta = some ⟨rb, ro, none⟩ ∧ rb < w.heap.size ∧ ∀ i, i < 7 → w.cell? ⟨rb, ro + j * 7 + i, none⟩ = (tmC t)[i]? := by
  have hjL : j < A.L.length := by rw [h.len]; exact hj
  have hy : (A.L[j]'hjL).y = c.ts[j] := by
    have := h.r.e
    have e2 : (A.L.map (·.y))[j]'(by rw [List.length_map]; exact hjL) = c.ts[j] := by simp only [this]
    rw [← e2, List.getElem_map]
  obtain ⟨rb, ro, h1, h2, h3⟩ := h.r.t j hjL
  exact ⟨A.L[j]'hjL, hy, h.r.r _ (List.getElem_mem hjL), rb, ro, h1, h2, h3⟩

set_option maxRecDepth 100000 in
set_option maxHeartbeats 8000000 in
theorem specProm_any (c : Cn) (m : Nt) (B : Nat) (A : CA) (w : World) (h : VaC lo w B A c) (F : Fit12 c) (h1 : 1 ≤ m.o) (h2 : m.o ≤ c.ts.length) :
    Calls Try.prog 100 #[.pointer (some ⟨B, 0, none⟩), .agg #[.int .i64 m.k, .int .i64 m.f, .int .i64 m.o, .int .i64 m.b, .int .i64 m.t, .string m.v]] w fun r w' => r = .returned (.int .i64 (promC c m).2) ∧ (∃ A', VaC lo w' B A' (promC c m).1) ∧ w.grownBy w' (some B) := by
  obtain ⟨j, hj⟩ : ∃ j : Nat, m.o = (j : Int) + 1 := ⟨m.o.toNat - 1, by omega⟩
  have hjl : j < c.ts.length := by omega
  have F0 := hide1 (And.intro (Blk.new w 111 #[.int .i64 m.k, .int .i64 m.f, .int .i64 m.o, .int .i64 m.b, .int .i64 m.t, .string m.v]) ((Below.refl w.heap.size w).alloc (Nat.le_refl _) (.cells #[.int .i64 m.k, .int .i64 m.f, .int .i64 m.o, .int .i64 m.b, .int .i64 m.t, .string m.v] 111)))
  have HV := hide1 h
  have lBw : B < w.heap.size := h.b.lt
  have hb := F.b c.ts[j] (List.getElem_mem hjl)
  have hl := F.l c.ts[j] (List.getElem_mem hjl)
  have hid := F.i j hjl
  have hv5 := F.v
  have hn5 := F.n
  have ht5 := F.t
  have hc5 := F.h
  have HT := hide1 (tyAt_eq hj hjl)
  have HS := hide1 (fun t => setTy_eq (c := c) hj t)
  obtain ⟨t, hy, hTR, rb, ro, hra, hrl, hrc⟩ := h.ty hjl
  have HTR := hide1 hTR
  rw [← hy] at HT hb hl hid
  have HI := hide1 hid
  clear hid
  have HR := hide1 hrc
  clear h F hy hrc hTR
  have HJ := hide1 hj
  clear hj
  have HD : Hid (promC c m = promC c m) := hide1 rfl
  go_enter Try.func100, Try.ntmps100
  go_upto_region 1 with fail
  generalize (w.alloc (.cells #[.int .i64 m.k, .int .i64 m.f, .int .i64 m.o, .int .i64 m.b, .int .i64 m.t, .string m.v] 111)) = u at F0 ⊢
  obtain ⟨X, hX⟩ : ∃ X, X = w.heap.size := ⟨_, rfl⟩
  have VU := hide1 (HV.out.later F0.out.2)
  have FX := hide1 F0.out.1
  have GU := hide1 (show w.grownBy u (some B) from gnew F0.out.2)
  have TU := hide1 (HTR.out.grown GU.out)
  have hRu := fun i (hi : i < 7) => (F0.out.2.cell (p := ⟨rb, ro + j * 7 + i, none⟩) hrl).trans (HR.out i hi)
  rw [← hX] at FX ⊢
  have HX := hide1 hX
  have lB : B < u.heap.size := VU.out.b.lt
  have lX : X < u.heap.size := FX.out.lt
  have hne : B ≠ X := by omega
  clear hX F0 HV HTR
  have g0 : u.cell? ⟨B, 1, none⟩ = some (.slice A.ta c.ts.length A.tc) := VU.out.b.cell 1
  rw [hra] at g0
  have h2 : u.cell? ⟨X, 2, none⟩ = some (.int .i64 ((j : Int) + 1)) := by rw [← HJ.out]; exact FX.out.cell 2
  have r0 : u.cell? ⟨rb, ro + j * 7, none⟩ = some (.int .i64 t.y.i) := hRu 0 (by omega)
  have r1 : u.cell? ⟨rb, ro + j * 7 + 1, none⟩ = some (.int .i64 t.y.b) := hRu 1 (by omega)
  have r2 : u.cell? ⟨rb, ro + j * 7 + 2, none⟩ = some (.string t.y.v) := hRu 2 (by omega)
  have r3 : u.cell? ⟨rb, ro + j * 7 + 3, none⟩ = some (.slice t.pa t.y.ps.length t.pc) := hRu 3 (by omega)
  have r4 : u.cell? ⟨rb, ro + j * 7 + 4, none⟩ = some (.bool t.y.as) := hRu 4 (by omega)
  have r5 : u.cell? ⟨rb, ro + j * 7 + 5, none⟩ = some (.slice t.ka t.y.tk.length t.kc) := hRu 5 (by omega)
  have r6 : u.cell? ⟨rb, ro + j * 7 + 6, none⟩ = some (.bool t.y.ch) := hRu 6 (by omega)
  have qj : ((j : Int) + 1) - 1 = (j : Int) := by omega
  have qw : IntKind.i64.wrap ((j : Int) + 1 - 1) = (j : Int) := by rw [qj]; exact IntWalk.i64_in _ ⟨by omega, by omega⟩
  have qw2 : IntKind.i64.wrap (j : Int) = (j : Int) := IntWalk.i64_in _ ⟨by omega, by omega⟩
  have k1 : (j : Int) < (c.ts.length : Int) := by omega
  have k0 : (0 : Int) ≤ (j : Int) := by omega
  clear qj hRu
  have lr : rb < u.heap.size := Nat.lt_of_lt_of_le hrl (by have := lX; have := HX.out; omega)
  go_region_held3 (fun w' => w'.cell? ⟨B, 1, none⟩ = some (.slice (some ⟨rb, ro, none⟩) c.ts.length A.tc) ∧ w'.cell? ⟨X, 2, none⟩ = some (.int .i64 ((j : Int) + 1)) ∧ w'.cell? ⟨rb, ro + j * 7, none⟩ = some (.int .i64 t.y.i) ∧ w'.cell? ⟨rb, ro + j * 7 + 1, none⟩ = some (.int .i64 t.y.b) ∧ w'.cell? ⟨rb, ro + j * 7 + 2, none⟩ = some (.string t.y.v) ∧ w'.cell? ⟨rb, ro + j * 7 + 3, none⟩ = some (.slice t.pa t.y.ps.length t.pc) ∧ w'.cell? ⟨rb, ro + j * 7 + 4, none⟩ = some (.bool t.y.as) ∧ w'.cell? ⟨rb, ro + j * 7 + 5, none⟩ = some (.slice t.ka t.y.tk.length t.kc) ∧ w'.cell? ⟨rb, ro + j * 7 + 6, none⟩ = some (.bool t.y.ch)) (first | go_keep | exact ⟨g0, h2, r0, r1, r2, r3, r4, r5, r6⟩) (fail)
  have GY := hide1 (And.intro (show Blk (u.alloc (.cells #[.int .i64 t.y.i, .int .i64 t.y.b, .string t.y.v, .slice t.pa t.y.ps.length t.pc, .bool t.y.as, .slice t.ka t.y.tk.length t.kc, .bool t.y.ch] 47)).drew u.heap.size 47 [.int .i64 t.y.i, .int .i64 t.y.b, .string t.y.v, .slice t.pa t.y.ps.length t.pc, .bool t.y.as, .slice t.ka t.y.tk.length t.kc, .bool t.y.ch] from Blk.new u _ _) ((Below.refl u.heap.size u).alloc (Nat.le_refl _) (.cells #[.int .i64 t.y.i, .int .i64 t.y.b, .string t.y.v, .slice t.pa t.y.ps.length t.pc, .bool t.y.as, .slice t.ka t.y.tk.length t.kc, .bool t.y.ch] 47)).drew)
  generalize (u.alloc (.cells #[.int .i64 t.y.i, .int .i64 t.y.b, .string t.y.v, .slice t.pa t.y.ps.length t.pc, .bool t.y.as, .slice t.ka t.y.tk.length t.kc, .bool t.y.ch] 47)).drew = u2 at GY ⊢
  obtain ⟨Y, hY⟩ : ∃ Y, Y = u.heap.size := ⟨_, rfl⟩
  have FY := hide1 GY.out.1
  have V2 := hide1 (VU.out.later GY.out.2)
  have FX2 := hide1 (FX.out.below GY.out.2 lX)
  have G2 := hide1 (show w.grownBy u2 (some B) from gtrans GU.out (gnew GY.out.2))
  have T2 := hide1 (TU.out.grown (gnew GY.out.2))
  rw [← hY] at FY ⊢
  have lY : Y < u2.heap.size := FY.out.lt
  have lB2 : B < u2.heap.size := V2.out.b.lt
  have lX2 : X < u2.heap.size := FX2.out.lt
  have hne2 : B ≠ Y := by omega
  have hne3 : X ≠ Y := by omega
  have lwY : w.heap.size ≤ Y := by have := HX.out; omega
  clear HR
  have BU := hide1 GY.out.2
  have SY := hide1 hY
  clear hY GY g0 h2 r0 r1 r2 r3 r4 r5 r6 lB lX lr hrl qw qw2 k1 k0 hra
  have y0 : u2.cell? ⟨Y, 0, none⟩ = some (.int .i64 t.y.i) := FY.out.cell 0
  have y1 : u2.cell? ⟨Y, 1, none⟩ = some (.int .i64 t.y.b) := FY.out.cell 1
  have y2 : u2.cell? ⟨Y, 2, none⟩ = some (.string t.y.v) := FY.out.cell 2
  have y3 : u2.cell? ⟨Y, 3, none⟩ = some (.slice t.pa t.y.ps.length t.pc) := FY.out.cell 3
  have y4 : u2.cell? ⟨Y, 4, none⟩ = some (.bool t.y.as) := FY.out.cell 4
  have y5 : u2.cell? ⟨Y, 5, none⟩ = some (.slice t.ka t.y.tk.length t.kc) := FY.out.cell 5
  have y6 : u2.cell? ⟨Y, 6, none⟩ = some (.bool t.y.ch) := FY.out.cell 6
  have x1 : u2.cell? ⟨X, 1, none⟩ = some (.int .i64 m.f) := FX2.out.cell 1
  have x3 : u2.cell? ⟨X, 3, none⟩ = some (.int .i64 m.b) := FX2.out.cell 3
  by_cases c1 : t.y.b = m.b
  · have q1 : (t.y.b != m.b) = false := by simp [c1]
    cases c2 : t.y.as
    · rw [c2] at y4
      have HA := hide1 (show promC c m = if t.y.ps.any (fun p => p.f == m.f) = true then (c, 1) else if (t.y.ps.length : Int) + 1 = mostI c.vs.length then ({ c with ts := c.ts.set j ⟨t.y.i, t.y.b, (pickS (t.y.ps ++ [m]) t.y.v).2, t.y.ps ++ [m], true, t.y.tk, t.y.ch⟩, ns := c.ns ++ (List.range c.vs.length).map (askT t.y.i t.y.b (pickS (t.y.ps ++ [m]) t.y.v).2) }, 0) else ({ c with ts := c.ts.set j { t.y with ps := t.y.ps ++ [m] } }, 0) by
        unfold promC
        rw [HT.out, if_neg (by rw [c2]; intro h; rcases h with h | h; exact h c1; cases h), HS.out, HS.out])
      have HC1 := hide1 c1
      have HC2 := hide1 c2
      clear c1 c2
      have RP := hide1 T2.out.1
      go_wp2
      go_loopw [6] (fun iv wr => ∃ i : Nat, i ≤ t.y.ps.length ∧ iv = .int .i64 (i : Int) ∧ Hid ((t.y.ps.take i).any (fun p => p.f == m.f) = false) ∧ Hid (Below u2.heap.size u2 wr)) (fun iv _ => t.y.ps.length - (intOf iv).toNat)
      case atStart => exact ⟨0, Nat.zero_le _, rfl, hide1 rfl, hide1 (Below.refl _ _)⟩
      case round =>
        obtain ⟨i, hi, rfl, hA, HB⟩ := hrel
        have y3' : wr.cell? ⟨Y, 3, none⟩ = some (.slice t.pa t.y.ps.length t.pc) := (HB.out.cell lY).trans y3
        have x1' : wr.cell? ⟨X, 1, none⟩ = some (.int .i64 m.f) := (HB.out.cell lX2).trans x1
        by_cases hlt : i < t.y.ps.length
        · have k1 : (i : Int) < (t.y.ps.length : Int) := by omega
          have k0 : (0 : Int) ≤ (i : Int) := by omega
          obtain ⟨pb, po, hpa, hpl, hpc⟩ := RP.out i hlt
          have p1 : wr.cell? ⟨pb, po + i * 6 + 1, none⟩ = some (.int .i64 t.y.ps[i].f) := (HB.out.cell (p := ⟨pb, po + i * 6 + 1, none⟩) hpl).trans (hpc 1 (by omega))
          have HM := hide1 (fun e : t.y.ps[i].f = m.f => any_met hlt e)
          have HN := hide1 (fun e : (t.y.ps[i].f == m.f) = false => any_next hlt hA.out e)
          rw [hpa] at y3'
          clear hpc hA y0 y1 y2 y3 y4 y5 y6 x1 x3
          generalize t.y.ps[i].f = pf at *
          by_cases cm : pf = m.f
          · have q2 : (pf == m.f) = true := by simp [cm]
            have HQ := hide1 (HA.out.trans (if_pos (HM.out cm)))
            clear cm
            go_wp2_with fail
            go_quiet (fail)
            go_wp2
            go_ret
            have hb9 := below_drewN HB.out nq
            exact ⟨by rw [HQ.out]; rfl, ⟨A, by rw [HQ.out]; exact V2.out.later hb9⟩, gtrans G2.out (gnew hb9)⟩
          · have q2 : (pf == m.f) = false := by simp [cm]
            have HN2 := hide1 (HN.out q2)
            clear cm HM HN
            go_wp2_with fail
            go_quiet (fail)
            go_wp2
            go_roundw
            case rel => exact ⟨i + 1, by omega, by go_num, HN2, hide1 (below_drewN HB.out nq)⟩
            case measure => simp [intOf]; omega
        · obtain rfl : i = t.y.ps.length := by omega
          have HN := hide1 (show t.y.ps.any (fun p => p.f == m.f) = false by have := hA.out; rwa [List.take_length] at this)
          have HA2 := hide1 (HA.out.trans (if_neg (by rw [HN.out]; simp)))
          have BW := hide1 (BU.out.trans (HB.out.mono BU.out.size))
          have FXr := hide1 (FX2.out.below HB.out lX2)
          have FYr := hide1 (FY.out.below HB.out lY)
          rw [HC2.out] at FYr
          have lB : B < wr.heap.size := Nat.lt_of_lt_of_le lB2 HB.out.size
          have lX : X < wr.heap.size := FXr.out.lt
          have lYr : Y < wr.heap.size := FYr.out.lt
          have sY : u.heap.size ≤ Y := by have := SY.out; omega
          have lBu : B < u.heap.size := VU.out.b.lt
          have lXu : X < u.heap.size := FX.out.lt
          have HR := hide1 (RP.out.later HB.out)
          clear hA HN HA HB y0 y1 y2 y3 y4 y5 y6 x1 x3 y3' x1' V2 FX2 FY G2 T2 RP BU
          have lY := lYr
          have hn2 : t.y.ps.length ≤ 1000000 := by omega
          have HZ := hide1 (FYr.out.froz 3)
          have hz : wr.frozen? ⟨Y, 3, none⟩ = false := HZ.out
          have g0 : wr.cell? ⟨Y, 3, none⟩ = some (.slice t.pa t.y.ps.length t.pc) := FYr.out.cell 3
          have G0 := hide1 g0
          have h0 : wr.cell? ⟨X, 0, none⟩ = some (.int .i64 m.k) := FXr.out.cell 0
          have H0 := hide1 h0
          have h1 : wr.cell? ⟨X, 1, none⟩ = some (.int .i64 m.f) := FXr.out.cell 1
          have H1 := hide1 h1
          have h2 : wr.cell? ⟨X, 2, none⟩ = some (.int .i64 m.o) := FXr.out.cell 2
          have H2 := hide1 h2
          have h3 : wr.cell? ⟨X, 3, none⟩ = some (.int .i64 m.b) := FXr.out.cell 3
          have H3 := hide1 h3
          have h4 : wr.cell? ⟨X, 4, none⟩ = some (.int .i64 m.t) := FXr.out.cell 4
          have H4 := hide1 h4
          have h5 : wr.cell? ⟨X, 5, none⟩ = some (.string m.v) := FXr.out.cell 5
          have H5 := hide1 h5
          obtain ⟨ps, hps⟩ : ∃ ps, ps = t.y.ps ++ [m] := ⟨_, rfl⟩
          have hpl : ps.length = t.y.ps.length + 1 := by rw [hps]; simp
          have HPS := hide1 hps
          have HPL := hide1 hpl
          clear hps hpl
          go_upto_region 9 with fail
          go_cut [6] (fun iv wx => iv = .int .i64 (t.y.ps.length : Int) ∧ ∃ b5 c5, Hid (Blk wx Y 47 [.int .i64 t.y.i, .int .i64 t.y.b, .string t.y.v, .slice b5 ps.length c5, .bool false, .slice t.ka t.y.tk.length t.kc, .bool t.y.ch]) ∧ Hid (Below u.heap.size u wx) ∧ Hid (RdG ntC 6 wx b5 ps) ∧ Hid (NeA lo B b5 ps.length) ∧ Hid (NeA lo Y b5 ps.length))
          case first =>
            go_region_law ((first | (have := E4.out; refine step_pushG encN rowN rfl (.tmp 45) (.tmp 47) rfl wr.heap.size b4 t.y.ps.length c4 t.y.ps rfl (by first | exact O4.out | exact O4.out.alloc _ | exact O4.out.drew) _ (m) rfl (by first | exact ZM.out | exact Blk.new _ _ _ | exact blkE1 _ _) hn2 (by have := E4.out.size; go_size) ?_; intro b5 c5 w5 ho5 hb5; have E5 : Hid (Below wr.heap.size wr w5) := E4.out.trans ((show Below wr.heap.size w4 _ by go_grown).trans hb5); have O5 := hide1 ho5; have s5 := E5.out.size; have hz : w5.frozen? ⟨Y, 3, none⟩ = false := (E5.out.frozen lY).trans HZ.out; clear ho5 hb5 h0 h1 h2 h3 h4 h5 g0; have h0 : w5.cell? ⟨X, 0, none⟩ = some (.int .i64 m.k) := (E5.out.cell lX).trans H0.out; have h1 : w5.cell? ⟨X, 1, none⟩ = some (.int .i64 m.f) := (E5.out.cell lX).trans H1.out; have h2 : w5.cell? ⟨X, 2, none⟩ = some (.int .i64 m.o) := (E5.out.cell lX).trans H2.out; have h3 : w5.cell? ⟨X, 3, none⟩ = some (.int .i64 m.b) := (E5.out.cell lX).trans H3.out; have h4 : w5.cell? ⟨X, 4, none⟩ = some (.int .i64 m.t) := (E5.out.cell lX).trans H4.out; have h5 : w5.cell? ⟨X, 5, none⟩ = some (.string m.v) := (E5.out.cell lX).trans H5.out; have g0 : w5.cell? ⟨Y, 3, none⟩ = some (.slice t.pa t.y.ps.length t.pc) := (E5.out.cell lY).trans G0.out) | (refine step_copyG encN rowN rfl (.tmp 42) (.tmp 44) rfl wr.heap.size _ rfl (by first | exact Blk.new _ _ _ | exact blkE1 _ _ | exact Blk.more (Blk.new _ _ _) _ | exact blkE2 _ _ _ | exact (blkN2 _ _ _ _ _).2.1 | exact blkE3 _ _ _) (by first | exact Nat.le_refl _ | exact Nat.le_succ _) t.pa t.y.ps.length t.pc t.y.ps rfl rfl (HR.out.later (by go_grown)) (by omega) ?_; intro b4 c4 w4 ho4 hb4 hg4; have E4 : Hid (Below wr.heap.size wr w4) := (show Below wr.heap.size wr _ by go_grown).trans hb4; have O4 := hide1 ho4; (first | (have ZM := hide1 (zM1D hg4)) | (have ZM := hide1 (zM2D hg4)) | (have ZM := hide1 (zM1 hg4)) | (have ZM := hide1 (zM2 hg4)) | skip); have s4 := E4.out.size; clear ho4 hb4 hg4 h0 h1 h2 h3 h4 h5 g0; have h0 : w4.cell? ⟨X, 0, none⟩ = some (.int .i64 m.k) := (E4.out.cell lX).trans H0.out; have h1 : w4.cell? ⟨X, 1, none⟩ = some (.int .i64 m.f) := (E4.out.cell lX).trans H1.out; have h2 : w4.cell? ⟨X, 2, none⟩ = some (.int .i64 m.o) := (E4.out.cell lX).trans H2.out; have h3 : w4.cell? ⟨X, 3, none⟩ = some (.int .i64 m.b) := (E4.out.cell lX).trans H3.out; have h4 : w4.cell? ⟨X, 4, none⟩ = some (.int .i64 m.t) := (E4.out.cell lX).trans H4.out; have h5 : w4.cell? ⟨X, 5, none⟩ = some (.string m.v) := (E4.out.cell lX).trans H5.out; have g0 : w4.cell? ⟨Y, 3, none⟩ = some (.slice t.pa t.y.ps.length t.pc) := (E4.out.cell lY).trans G0.out)))
            all_goals
              go_wp2_with fail
              go_meet
              refine ⟨rfl, b5, c5, ?_, ?_, ?_, ?_, ?_⟩
              · have := Blk.set (FYr.out.below E5.out lY) 3 (.slice b5 (t.y.ps.length + 1) c5)
                rw [← HPL.out] at this ⊢
                exact hide1 this
              · exact hide1 ((BW.out.trans (E5.out.mono BW.out.size)).setCell (p := ⟨Y, 3, none⟩) sY _)
              · have := rdG_of_own encN.len O5.out (by simp)
                rw [← HPS.out] at this
                exact hide1 (this.set (own_ne O5.out lY (VU.out.lw.trans BW.out.size)) 3 _)
              · exact hide1 (own_ne O5.out lB (VU.out.lw.trans BW.out.size))
              · exact hide1 (own_ne O5.out lY (VU.out.lw.trans BW.out.size))
          case rest =>
            obtain ⟨rfl, b5, c5, KY, KB, KR, KN, KNY⟩ := hcut
            clear FXr FYr lX lYr lY HR HZ hz g0 G0 h0 H0 h1 H1 h2 H2 h3 H3 h4 H4 h5 H5 BW lB
            generalize wc = w3 at *
            have CM := hide1 (fun w' => specMost_any (c.vs.length : Int) w' (by omega))
            rw [← HPS.out, show (t.y.ps.length : Int) + 1 = (ps.length : Int) by have := HPL.out; omega] at HA2
            have hpl : ps.length ≤ 1001 := by have := HPL.out; omega
            generalize mostI (c.vs.length : Int) = mo at *
            have y3 : w3.cell? ⟨Y, 3, none⟩ = some (.slice b5 ps.length c5) := KY.out.cell 3
            have b0 : w3.cell? ⟨B, 0, none⟩ = some (.slice A.va c.vs.length A.vc) := (VU.out.later KB.out).b.cell 0
            have D3 := hide1 (show Below w3.heap.size w3 w3.drew from (Below.refl _ _).drew)
            by_cases c3 : (ps.length : Int) = mo
            · have HQ := hide1 (HA2.out.trans (if_pos c3))
              have q3 : ((ps.length : Int) == mo) = true := by simp [c3]
              clear HA2 c3
              go_upto_region 10 with fail
              go_region_held3 (fun w' => w'.cell? ⟨Y, 3, none⟩ = some (.slice b5 ps.length c5) ∧ w'.cell? ⟨B, 0, none⟩ = some (.slice A.va c.vs.length A.vc)) (first | go_keep | exact ⟨y3, b0⟩) ((go_at_call 109; refine (CM.out _).mono ?_; rintro e w7 ⟨rfl, hw7⟩; subst hw7))
              generalize w3.drew = w4 at D3 ⊢
              have KY4 := hide1 (KY.out.below D3.out KY.out.lt)
              have KB4 := hide1 (KB.out.trans (D3.out.mono KB.out.size))
              have KR4 := hide1 (KR.out.later D3.out)
              clear KY KB KR D3 y3 b0 CM
              obtain ⟨pv, hpv⟩ : ∃ pv, (pickS ps t.y.v).2 = pv := ⟨_, rfl⟩
              have CP := hide1 (fun w' (h : RdG ntC 6 w' b5 ps) => specPick_any b5 ps c5 t.y.v w' (by omega) (rdN6_of_rdG h))
              rw [hpv] at HQ CP
              clear hpv
              have yf : ∀ i, w4.frozen? ⟨Y, i, none⟩ = false := fun i => KY4.out.froz i
              have y4 : w4.cell? ⟨Y, 4, none⟩ = some (.bool false) := KY4.out.cell 4
              go_upto_region 12 with fail
              have S5 := hide1 (And.intro (Blk.set KY4.out 4 (.bool true)) (And.intro (KB4.out.setCell (p := ⟨Y, 4, none⟩) sY (.bool true)) (KR4.out.set KNY.out 4 (.bool true))))
              generalize (w4.setCell ⟨Y, 4, none⟩ (.bool true)) = w5 at S5 ⊢
              clear yf y4 KY4 KB4 KR4
              have y2 : w5.cell? ⟨Y, 2, none⟩ = some (.string t.y.v) := S5.out.1.cell 2
              have y3 : w5.cell? ⟨Y, 3, none⟩ = some (.slice b5 ps.length c5) := S5.out.1.cell 3
              go_wp2_with fail
              refine (CP.out w5 S5.out.2.2).mono ?_
              rintro e w6 ⟨rfl, hb6⟩
              have KY6 := hide1 (S5.out.1.below hb6 S5.out.1.lt)
              have KB6 := hide1 (S5.out.2.1.trans (hb6.mono S5.out.2.1.size))
              have KR6 := hide1 (S5.out.2.2.later hb6)
              clear S5 y2 y3 hb6 CP
              have yf : ∀ i, w6.frozen? ⟨Y, i, none⟩ = false := fun i => KY6.out.froz i
              have y2 : w6.cell? ⟨Y, 2, none⟩ = some (.string t.y.v) := KY6.out.cell 2
              have S7 := hide1 (And.intro (Blk.set KY6.out 2 (.string pv)) (And.intro (KB6.out.setCell (p := ⟨Y, 2, none⟩) sY (.string pv)) (KR6.out.set KNY.out 2 (.string pv))))
              go_wp2
              generalize (w6.setCell ⟨Y, 2, none⟩ (.string pv)) = w8 at S7 ⊢
              have HT2 := hide1 (show TmR lo w8 B ⟨⟨t.y.i, t.y.b, pv, ps, true, t.y.tk, t.y.ch⟩, b5, c5, t.ka, t.kc⟩ from ⟨S7.out.2.2, KN.out, TU.out.2.2.1.later S7.out.2.1, TU.out.2.2.2⟩)
              have V8 := hide1 (VU.out.later S7.out.2.1)
              have G8 := hide1 (show w.grownBy w8 (some B) from gtrans GU.out (gnew S7.out.2.1))
              clear yf y2 KY6 KB6 KR6
              go_loopw [7] (fun iv wr => ∃ i : Nat, i ≤ c.vs.length ∧ iv = .int .i64 ((i : Int) + 1) ∧ ∃ A', Hid (VaC lo wr B A' { c with ns := c.ns ++ (List.range i).map (askT t.y.i t.y.b pv) }) ∧ Hid (w.grownBy wr (some B)) ∧ Hid (Blk wr Y 47 [.int .i64 t.y.i, .int .i64 t.y.b, .string pv, .slice b5 ps.length c5, .bool true, .slice t.ka t.y.tk.length t.kc, .bool t.y.ch]) ∧ Hid (TmR lo wr B ⟨⟨t.y.i, t.y.b, pv, ps, true, t.y.tk, t.y.ch⟩, b5, c5, t.ka, t.kc⟩)) (fun iv _ => c.vs.length + 1 - (intOf iv).toNat)
              case atStart =>
                refine ⟨0, Nat.zero_le _, rfl, A, ?_, G8, hide1 S7.out.1, HT2⟩
                rw [List.range_zero, List.map_nil, List.append_nil]
                exact V8
              case round =>
                obtain ⟨i, hi, rfl, A1, V9, G9, FY9, T9⟩ := hrel
                have b0 : wr.cell? ⟨B, 0, none⟩ = some (.slice A1.va c.vs.length A1.vc) := V9.out.b.cell 0
                have y0 : wr.cell? ⟨Y, 0, none⟩ = some (.int .i64 t.y.i) := FY9.out.cell 0
                have y1 : wr.cell? ⟨Y, 1, none⟩ = some (.int .i64 t.y.b) := FY9.out.cell 1
                have y2 : wr.cell? ⟨Y, 2, none⟩ = some (.string pv) := FY9.out.cell 2
                have y3 : wr.cell? ⟨Y, 3, none⟩ = some (.slice b5 ps.length c5) := FY9.out.cell 3
                have y4 : wr.cell? ⟨Y, 4, none⟩ = some (.bool true) := FY9.out.cell 4
                have y5 : wr.cell? ⟨Y, 5, none⟩ = some (.slice t.ka t.y.tk.length t.kc) := FY9.out.cell 5
                have y6 : wr.cell? ⟨Y, 6, none⟩ = some (.bool t.y.ch) := FY9.out.cell 6
                by_cases hlt : i < c.vs.length
                · have k2 : (i : Int) + 1 ≤ (c.vs.length : Int) := by omega
                  go_wp2_with fail
                  refine (specSay_any _ ⟨3, t.y.i, (i : Int) + 1, t.y.b, 0, pv⟩ B A1 wr V9.out (by simp; omega)).mono ?_
                  rintro r u4 ⟨rfl, ⟨na, nc, V5⟩, g5⟩
                  have HV5 := hide1 V5
                  have FY5 := hide1 (gblk g5 FY9.out (by intro e; injection e; omega))
                  have T5 := hide1 (T9.out.grown g5)
                  have G5 := hide1 (gtrans G9.out g5)
                  clear V5 g5 b0 y0 y1 y2 y3 y4 y5 y6
                  go_wp2
                  go_roundw
                  case rel =>
                    refine ⟨i + 1, by omega, by go_num, { A1 with na := na, nc := nc }, ?_, G5, FY5, T5⟩
                    rw [askT_next, ← List.append_assoc]
                    exact HV5
                  case measure => simp [intOf]; omega
                · obtain rfl : i = c.vs.length := by omega
                  have k2 : ¬ ((c.vs.length : Int) + 1 ≤ (c.vs.length : Int)) := by omega
                  go_wp2_with fail
                  refine (specTry_any _ ⟨⟨t.y.i, t.y.b, pv, ps, true, t.y.tk, t.y.ch⟩, b5, c5, t.ka, t.kc⟩ B A1 wr V9.out j HI.out hjl ht5 T9.out).mono ?_
                  rintro r u5 ⟨rfl, ⟨ta, tc, V6⟩, g6⟩
                  have HV6 := hide1 V6
                  have G6 := hide1 (gtrans G9.out g6)
                  clear V6 g6 b0 y0 y1 y2 y3 y4 y5 y6
                  go_wp2
                  go_ret
                  exact ⟨by rw [HQ.out]; rfl, ⟨_, by rw [HQ.out]; exact HV6.out⟩, G6.out⟩
            · have HQ := hide1 (HA2.out.trans (if_neg c3))
              have q3 : ((ps.length : Int) == mo) = false := by simp [c3]
              clear HA2 c3
              go_upto_region 10 with fail
              go_region_held3 (fun w' => w'.cell? ⟨Y, 3, none⟩ = some (.slice b5 ps.length c5) ∧ w'.cell? ⟨B, 0, none⟩ = some (.slice A.va c.vs.length A.vc)) (first | go_keep | exact ⟨y3, b0⟩) ((go_at_call 109; refine (CM.out _).mono ?_; rintro e w7 ⟨rfl, hw7⟩; subst hw7))
              generalize w3.drew = w4 at D3 ⊢
              have KY4 := hide1 (KY.out.below D3.out KY.out.lt)
              have KB4 := hide1 (KB.out.trans (D3.out.mono KB.out.size))
              have KR4 := hide1 (KR.out.later D3.out)
              clear KY KB KR D3 y3 b0 CM
              have V8 := hide1 (VU.out.later KB4.out)
              have G8 := hide1 (show w.grownBy w4 (some B) from gtrans GU.out (gnew KB4.out))
              have HT1 := hide1 (show TmR lo w4 B ⟨⟨t.y.i, t.y.b, t.y.v, ps, false, t.y.tk, t.y.ch⟩, b5, c5, t.ka, t.kc⟩ from ⟨KR4.out, KN.out, TU.out.2.2.1.later KB4.out, TU.out.2.2.2⟩)
              have y0 : w4.cell? ⟨Y, 0, none⟩ = some (.int .i64 t.y.i) := KY4.out.cell 0
              have y1 : w4.cell? ⟨Y, 1, none⟩ = some (.int .i64 t.y.b) := KY4.out.cell 1
              have y2 : w4.cell? ⟨Y, 2, none⟩ = some (.string t.y.v) := KY4.out.cell 2
              have y3 : w4.cell? ⟨Y, 3, none⟩ = some (.slice b5 ps.length c5) := KY4.out.cell 3
              have y4 : w4.cell? ⟨Y, 4, none⟩ = some (.bool false) := KY4.out.cell 4
              have y5 : w4.cell? ⟨Y, 5, none⟩ = some (.slice t.ka t.y.tk.length t.kc) := KY4.out.cell 5
              have y6 : w4.cell? ⟨Y, 6, none⟩ = some (.bool t.y.ch) := KY4.out.cell 6
              go_wp2_with fail
              refine (specTry_any c ⟨⟨t.y.i, t.y.b, t.y.v, ps, false, t.y.tk, t.y.ch⟩, b5, c5, t.ka, t.kc⟩ B A w4 V8.out j HI.out hjl ht5 HT1.out).mono ?_
              rintro r u5 ⟨rfl, ⟨ta, tc, V6⟩, g6⟩
              have HV6 := hide1 V6
              have G6 := hide1 (gtrans G8.out g6)
              clear V6 g6 y0 y1 y2 y3 y4 y5 y6
              go_wp2
              go_ret
              have e9 : ({ t.y with ps := ps } : Ty) = ⟨t.y.i, t.y.b, t.y.v, ps, false, t.y.tk, t.y.ch⟩ := by rw [← HC2.out]
              exact ⟨by rw [HQ.out]; rfl, ⟨_, by rw [HQ.out, e9]; exact HV6.out⟩, G6.out⟩
    · have HQ := hide1 (show promC c m = (c, 1) by unfold promC; rw [HT.out, if_pos (.inr c2)])
      rw [c2] at y4
      clear c1 c2
      go_wp2
      go_ret
      exact ⟨by rw [HQ.out]; rfl, ⟨A, by rw [HQ.out]; exact V2.out⟩, G2.out⟩
  · have q1 : (t.y.b != m.b) = true := by simp [c1]
    have HQ := hide1 (show promC c m = (c, 1) by unfold promC; rw [HT.out, if_pos (.inl c1)])
    clear c1
    go_wp2
    go_ret
    exact ⟨by rw [HQ.out]; rfl, ⟨A, by rw [HQ.out]; exact V2.out⟩, G2.out⟩
end Go.Proofs.Ytgehdgmllilmgaa
