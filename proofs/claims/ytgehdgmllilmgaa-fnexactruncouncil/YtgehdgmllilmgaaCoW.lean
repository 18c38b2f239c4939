/- Decisions by the model: a try is told that its value was taken. -/
import Derived.Test.YtgehdgmllilmgaaCoV
namespace Go.Proofs.Ytgehdgmllilmgaa
open Go.RowKit
set_option linter.unusedVariables false
variable {lo : Nat → Prop}

theorem anyZ_next {l : List Int} {f : Int} {i : Nat} (h : i < l.length) (h0 : (l.take i).any (fun p => p == f) = false) (h1 : (l[i] == f) = false) : (l.take (i + 1)).any (fun p => p == f) = false := by
  rw [List.take_succ_eq_append_getElem h, List.any_append, h0]
  simpa using h1
theorem anyZ_met {l : List Int} {f : Int} {i : Nat} (h : i < l.length) (h1 : l[i] = f) : l.any (fun p => p == f) = true := List.any_eq_true.2 ⟨l[i], List.getElem_mem h, by simp [h1]⟩

set_option maxRecDepth 100000 in
set_option maxHeartbeats 1000000 in
theorem specInZ_any (ao : Option Addr) (l : List Int) (ca : Nat) (v : Int) (w : World) (hl : l.length ≤ 1048576) (hA : RdG izE 1 w ao l) :
    Calls Try.prog 111 #[.slice ao l.length ca, .int .i64 v] w fun e w' => e = .returned (.bool (l.any (fun p => p == v))) ∧ Below w.heap.size w w' := by
  have HA := hide1 hA
  clear hA
  go_enter Try.func111, Try.ntmps111
  go_wp2
  go_loopw [5] (fun iv wr => ∃ i : Nat, i ≤ l.length ∧ iv = .int .i64 (i : Int) ∧ Hid ((l.take i).any (fun p => p == v) = false) ∧ Below w.heap.size w wr) (fun iv _ => l.length - (intOf iv).toNat)
  case atStart => exact ⟨0, Nat.zero_le _, rfl, hide1 rfl, Below.refl _ _⟩
  case round =>
    obtain ⟨i, hi, rfl, ha, hbel⟩ := hrel
    by_cases hlt : i < l.length
    · have k1 : (i : Int) < (l.length : Int) := by omega
      obtain ⟨b, o, rfl, hb, h1⟩ := HA.out i hlt
      have x0 : wr.cell? ⟨b, o + i, none⟩ = some (.int .i64 l[i]) := by
        have := (hbel.cell (p := ⟨b, o + i * 1 + 0, none⟩) hb).trans (h1 0 (by omega))
        rw [Nat.mul_one] at this
        exact this
      have HM := hide1 (fun e : l[i] = v => anyZ_met hlt e)
      have HN := hide1 (fun e : (l[i] == v) = false => anyZ_next hlt ha.out e)
      clear h1 ha
      generalize l[i] = z at *
      by_cases c : z = v
      · have q : (z == v) = true := by simp [c]
        have HQ := hide1 (HM.out c)
        clear c HM HN
        go_wp2
        go_ret
        exact ⟨by rw [HQ.out]; rfl, by first | exact hbel | exact hbel.drew | exact below_drewN hbel _⟩
      · have q : (z == v) = false := by simp [c]
        have HQ := hide1 (HN.out q)
        clear c HM HN
        go_wp2
        go_roundw
        case rel => exact ⟨i + 1, by omega, by go_num, HQ, by first | exact hbel | exact hbel.drew | exact below_drewN hbel _⟩
        case measure => simp [intOf]; omega
    · obtain rfl : i = l.length := by omega
      have HQ := hide1 (show l.any (fun p => p == v) = false by have := ha.out; rwa [List.take_length] at this)
      go_wp2
      go_ret
      exact ⟨by rw [HQ.out]; rfl, hbel⟩

set_option maxRecDepth 100000 in
set_option maxHeartbeats 8000000 in
theorem specTak_any (c : Cn) (m : Nt) (B : Nat) (A : CA) (w : World) (h : VaC lo w B A c) (F : Fit12 c) (h1 : 1 ≤ m.o) (h2 : m.o ≤ c.ts.length) :
    Calls Try.prog 101 #[.pointer (some ⟨B, 0, none⟩), .agg #[.int .i64 m.k, .int .i64 m.f, .int .i64 m.o, .int .i64 m.b, .int .i64 m.t, .string m.v]] w fun r w' => r = .returned (.int .i64 (takC c m).2) ∧ (∃ A', VaC lo w' B A' (takC c m).1) ∧ w.grownBy w' (some B) := by
  obtain ⟨j, hj⟩ : ∃ j : Nat, m.o = (j : Int) + 1 := ⟨m.o.toNat - 1, by omega⟩
  have hjl : j < c.ts.length := by omega
  have F0 := hide1 (And.intro (Blk.new w 111 #[.int .i64 m.k, .int .i64 m.f, .int .i64 m.o, .int .i64 m.b, .int .i64 m.t, .string m.v]) ((Below.refl w.heap.size w).alloc (Nat.le_refl _) (.cells #[.int .i64 m.k, .int .i64 m.f, .int .i64 m.o, .int .i64 m.b, .int .i64 m.t, .string m.v] 111)))
  have HV := hide1 h
  have lBw : B < w.heap.size := h.b.lt
  have hb := F.b c.ts[j] (List.getElem_mem hjl)
  have hl := F.l c.ts[j] (List.getElem_mem hjl)
  have hid := F.i j hjl
  have hv5 := F.v
  have hn5 := F.n
  have ht5 := F.t
  have hc5 := F.h
  have HT := hide1 (tyAt_eq hj hjl)
  have HS := hide1 (fun t => setTy_eq (c := c) hj t)
  obtain ⟨t, hy, hTR, rb, ro, hra, hrl, hrc⟩ := h.ty hjl
  have HTR := hide1 hTR
  rw [← hy] at HT hb hl hid
  have HI := hide1 hid
  clear hid
  have HR := hide1 hrc
  clear h F hy hrc hTR
  have HJ := hide1 hj
  clear hj
  have HD : Hid (takC c m = takC c m) := hide1 rfl
  go_enter Try.func101, Try.ntmps101
  go_upto_region 1 with fail
  generalize (w.alloc (.cells #[.int .i64 m.k, .int .i64 m.f, .int .i64 m.o, .int .i64 m.b, .int .i64 m.t, .string m.v] 111)) = u at F0 ⊢
  obtain ⟨X, hX⟩ : ∃ X, X = w.heap.size := ⟨_, rfl⟩
  have VU := hide1 (HV.out.later F0.out.2)
  have FX := hide1 F0.out.1
  have GU := hide1 (show w.grownBy u (some B) from gnew F0.out.2)
  have TU := hide1 (HTR.out.grown GU.out)
  have hRu := fun i (hi : i < 7) => (F0.out.2.cell (p := ⟨rb, ro + j * 7 + i, none⟩) hrl).trans (HR.out i hi)
  rw [← hX] at FX ⊢
  have HX := hide1 hX
  have lB : B < u.heap.size := VU.out.b.lt
  have lX : X < u.heap.size := FX.out.lt
  have hne : B ≠ X := by omega
  clear hX F0 HV HTR
  have g0 : u.cell? ⟨B, 1, none⟩ = some (.slice A.ta c.ts.length A.tc) := VU.out.b.cell 1
  rw [hra] at g0
  have h2 : u.cell? ⟨X, 2, none⟩ = some (.int .i64 ((j : Int) + 1)) := by rw [← HJ.out]; exact FX.out.cell 2
  have r0 : u.cell? ⟨rb, ro + j * 7, none⟩ = some (.int .i64 t.y.i) := hRu 0 (by omega)
  have r1 : u.cell? ⟨rb, ro + j * 7 + 1, none⟩ = some (.int .i64 t.y.b) := hRu 1 (by omega)
  have r2 : u.cell? ⟨rb, ro + j * 7 + 2, none⟩ = some (.string t.y.v) := hRu 2 (by omega)
  have r3 : u.cell? ⟨rb, ro + j * 7 + 3, none⟩ = some (.slice t.pa t.y.ps.length t.pc) := hRu 3 (by omega)
  have r4 : u.cell? ⟨rb, ro + j * 7 + 4, none⟩ = some (.bool t.y.as) := hRu 4 (by omega)
  have r5 : u.cell? ⟨rb, ro + j * 7 + 5, none⟩ = some (.slice t.ka t.y.tk.length t.kc) := hRu 5 (by omega)
  have r6 : u.cell? ⟨rb, ro + j * 7 + 6, none⟩ = some (.bool t.y.ch) := hRu 6 (by omega)
  have qj : ((j : Int) + 1) - 1 = (j : Int) := by omega
  have qw : IntKind.i64.wrap ((j : Int) + 1 - 1) = (j : Int) := by rw [qj]; exact IntWalk.i64_in _ ⟨by omega, by omega⟩
  have qw2 : IntKind.i64.wrap (j : Int) = (j : Int) := IntWalk.i64_in _ ⟨by omega, by omega⟩
  have k1 : (j : Int) < (c.ts.length : Int) := by omega
  have k0 : (0 : Int) ≤ (j : Int) := by omega
  clear qj hRu
  have lr : rb < u.heap.size := Nat.lt_of_lt_of_le hrl (by have := lX; have := HX.out; omega)
  go_region_held3 (fun w' => w'.cell? ⟨B, 1, none⟩ = some (.slice (some ⟨rb, ro, none⟩) c.ts.length A.tc) ∧ w'.cell? ⟨X, 2, none⟩ = some (.int .i64 ((j : Int) + 1)) ∧ w'.cell? ⟨rb, ro + j * 7, none⟩ = some (.int .i64 t.y.i) ∧ w'.cell? ⟨rb, ro + j * 7 + 1, none⟩ = some (.int .i64 t.y.b) ∧ w'.cell? ⟨rb, ro + j * 7 + 2, none⟩ = some (.string t.y.v) ∧ w'.cell? ⟨rb, ro + j * 7 + 3, none⟩ = some (.slice t.pa t.y.ps.length t.pc) ∧ w'.cell? ⟨rb, ro + j * 7 + 4, none⟩ = some (.bool t.y.as) ∧ w'.cell? ⟨rb, ro + j * 7 + 5, none⟩ = some (.slice t.ka t.y.tk.length t.kc) ∧ w'.cell? ⟨rb, ro + j * 7 + 6, none⟩ = some (.bool t.y.ch)) (first | go_keep | exact ⟨g0, h2, r0, r1, r2, r3, r4, r5, r6⟩) (fail)
  have GY := hide1 (And.intro (show Blk (u.alloc (.cells #[.int .i64 t.y.i, .int .i64 t.y.b, .string t.y.v, .slice t.pa t.y.ps.length t.pc, .bool t.y.as, .slice t.ka t.y.tk.length t.kc, .bool t.y.ch] 47)).drew u.heap.size 47 [.int .i64 t.y.i, .int .i64 t.y.b, .string t.y.v, .slice t.pa t.y.ps.length t.pc, .bool t.y.as, .slice t.ka t.y.tk.length t.kc, .bool t.y.ch] from Blk.new u _ _) ((Below.refl u.heap.size u).alloc (Nat.le_refl _) (.cells #[.int .i64 t.y.i, .int .i64 t.y.b, .string t.y.v, .slice t.pa t.y.ps.length t.pc, .bool t.y.as, .slice t.ka t.y.tk.length t.kc, .bool t.y.ch] 47)).drew)
  generalize (u.alloc (.cells #[.int .i64 t.y.i, .int .i64 t.y.b, .string t.y.v, .slice t.pa t.y.ps.length t.pc, .bool t.y.as, .slice t.ka t.y.tk.length t.kc, .bool t.y.ch] 47)).drew = u2 at GY ⊢
  obtain ⟨Y, hY⟩ : ∃ Y, Y = u.heap.size := ⟨_, rfl⟩
  have FY := hide1 GY.out.1
  have V2 := hide1 (VU.out.later GY.out.2)
  have FX2 := hide1 (FX.out.below GY.out.2 lX)
  have G2 := hide1 (show w.grownBy u2 (some B) from gtrans GU.out (gnew GY.out.2))
  have T2 := hide1 (TU.out.grown (gnew GY.out.2))
  rw [← hY] at FY ⊢
  have lY : Y < u2.heap.size := FY.out.lt
  have lB2 : B < u2.heap.size := V2.out.b.lt
  have lX2 : X < u2.heap.size := FX2.out.lt
  have hne2 : B ≠ Y := by omega
  have hne3 : X ≠ Y := by omega
  have lwY : w.heap.size ≤ Y := by have := HX.out; omega
  clear HR
  have BU := hide1 GY.out.2
  have SY := hide1 hY
  clear hY GY g0 h2 r0 r1 r2 r3 r4 r5 r6 lB lX lr hrl qw qw2 k1 k0 hra
  have y0 : u2.cell? ⟨Y, 0, none⟩ = some (.int .i64 t.y.i) := FY.out.cell 0
  have y1 : u2.cell? ⟨Y, 1, none⟩ = some (.int .i64 t.y.b) := FY.out.cell 1
  have y2 : u2.cell? ⟨Y, 2, none⟩ = some (.string t.y.v) := FY.out.cell 2
  have y3 : u2.cell? ⟨Y, 3, none⟩ = some (.slice t.pa t.y.ps.length t.pc) := FY.out.cell 3
  have y4 : u2.cell? ⟨Y, 4, none⟩ = some (.bool t.y.as) := FY.out.cell 4
  have y5 : u2.cell? ⟨Y, 5, none⟩ = some (.slice t.ka t.y.tk.length t.kc) := FY.out.cell 5
  have y6 : u2.cell? ⟨Y, 6, none⟩ = some (.bool t.y.ch) := FY.out.cell 6
  have x1 : u2.cell? ⟨X, 1, none⟩ = some (.int .i64 m.f) := FX2.out.cell 1
  have x3 : u2.cell? ⟨X, 3, none⟩ = some (.int .i64 m.b) := FX2.out.cell 3
  by_cases c1 : t.y.b = m.b
  · have q1 : (t.y.b != m.b) = false := by simp [c1]
    have CI := hide1 (specInZ_any t.ka t.y.tk t.kc m.f u2 (by omega) T2.out.2.2.1)
    go_wp2_with fail
    refine CI.out.mono ?_
    rintro e wr ⟨rfl, hbr⟩
    have HB := hide1 hbr
    clear hbr CI
    cases c2 : t.y.tk.any (fun p => p == m.f)
    · have HA2 := hide1 (show takC c m = if (t.y.tk.length : Int) + 1 = mostI c.vs.length then ({ c with ts := c.ts.set j { t.y with tk := t.y.tk ++ [m.f], ch := true }, ch := c.ch ++ [t.y.v] }, 0) else ({ c with ts := c.ts.set j { t.y with tk := t.y.tk ++ [m.f] } }, 0) by
        unfold takC
        rw [HT.out, if_neg (by rw [c2]; intro h; rcases h with h | h; exact h c1; cases h), HS.out, HS.out])
      clear c1 c2
      have BW := hide1 (BU.out.trans (HB.out.mono BU.out.size))
      have FXr := hide1 (FX2.out.below HB.out lX2)
      have FYr := hide1 (FY.out.below HB.out lY)
      have lB : B < wr.heap.size := Nat.lt_of_lt_of_le lB2 HB.out.size
      have lX : X < wr.heap.size := FXr.out.lt
      have lYr : Y < wr.heap.size := FYr.out.lt
      have sY : u.heap.size ≤ Y := by have := SY.out; omega
      have lBu : B < u.heap.size := VU.out.b.lt
      have lXu : X < u.heap.size := FX.out.lt
      have HR := hide1 (T2.out.2.2.1.later HB.out)
      clear HB y0 y1 y2 y3 y4 y5 y6 x1 x3 V2 FX2 FY G2 T2 BU
      have lY := lYr
      have hn2 : t.y.tk.length ≤ 1000000 := by omega
      have HZ := hide1 (FYr.out.froz 5)
      have hz : wr.frozen? ⟨Y, 5, none⟩ = false := HZ.out
      have g0 : wr.cell? ⟨Y, 5, none⟩ = some (.slice t.ka t.y.tk.length t.kc) := FYr.out.cell 5
      have G0 := hide1 g0
      have h0 : wr.cell? ⟨X, 1, none⟩ = some (.int .i64 m.f) := FXr.out.cell 1
      have H0 := hide1 h0
      obtain ⟨ps, hps⟩ : ∃ ps, ps = t.y.tk ++ [m.f] := ⟨_, rfl⟩
      have hpl : ps.length = t.y.tk.length + 1 := by rw [hps]; simp
      have HPS := hide1 hps
      have HPL := hide1 hpl
      clear hps hpl
      go_upto_region 4 with fail
      go_cut [4] (fun iv wx => ∃ b5 c5, Hid (Blk wx Y 47 [.int .i64 t.y.i, .int .i64 t.y.b, .string t.y.v, .slice t.pa t.y.ps.length t.pc, .bool t.y.as, .slice b5 ps.length c5, .bool t.y.ch]) ∧ Hid (Below u.heap.size u wx) ∧ Hid (RdG izE 1 wx b5 ps) ∧ Hid (NeA lo B b5 ps.length) ∧ Hid (NeA lo Y b5 ps.length))
      case first =>
        go_region_law ((first | (have := E4.out; refine step_pushG encZ rowZ rfl (.tmp 30) (.tmp 33) rfl wr.heap.size b4 t.y.tk.length c4 t.y.tk rfl (by first | exact O4.out | exact O4.out.alloc _ | exact O4.out.drew) _ (m.f) rfl (by first | exact ZM.out | exact Blk.new _ _ _ | exact blkE1 _ _) hn2 (by have := E4.out.size; go_size) ?_; intro b5 c5 w5 ho5 hb5; have E5 : Hid (Below wr.heap.size wr w5) := E4.out.trans ((show Below wr.heap.size w4 _ by go_grown).trans hb5); have O5 := hide1 ho5; have s5 := E5.out.size; have hz : w5.frozen? ⟨Y, 5, none⟩ = false := (E5.out.frozen lY).trans HZ.out; clear ho5 hb5 h0 g0; have h0 : w5.cell? ⟨X, 1, none⟩ = some (.int .i64 m.f) := (E5.out.cell lX).trans H0.out; have g0 : w5.cell? ⟨Y, 5, none⟩ = some (.slice t.ka t.y.tk.length t.kc) := (E5.out.cell lY).trans G0.out) | (refine step_copyG encZ rowZ rfl (.tmp 27) (.tmp 29) rfl wr.heap.size _ rfl (by first | exact Blk.new _ _ _ | exact blkE1 _ _ | exact Blk.more (Blk.new _ _ _) _ | exact blkE2 _ _ _ | exact (blkN2 _ _ _ _ _).2.1 | exact blkE3 _ _ _) (by first | exact Nat.le_refl _ | exact Nat.le_succ _) t.ka t.y.tk.length t.kc t.y.tk rfl rfl (HR.out.later (by go_grown)) (by omega) ?_; intro b4 c4 w4 ho4 hb4 hg4; have E4 : Hid (Below wr.heap.size wr w4) := (show Below wr.heap.size wr _ by go_grown).trans hb4; have O4 := hide1 ho4; (first | (have ZM := hide1 (zM1D hg4)) | (have ZM := hide1 (zM2D hg4)) | (have ZM := hide1 (zM1 hg4)) | (have ZM := hide1 (zM2 hg4)) | skip); have s4 := E4.out.size; clear ho4 hb4 hg4 h0 g0; have h0 : w4.cell? ⟨X, 1, none⟩ = some (.int .i64 m.f) := (E4.out.cell lX).trans H0.out; have g0 : w4.cell? ⟨Y, 5, none⟩ = some (.slice t.ka t.y.tk.length t.kc) := (E4.out.cell lY).trans G0.out)))
        all_goals
          go_wp2_with fail
          go_meet
          refine ⟨b5, c5, ?_, ?_, ?_, ?_, ?_⟩
          · have := Blk.set (FYr.out.below E5.out lY) 5 (.slice b5 (t.y.tk.length + 1) c5)
            rw [← HPL.out] at this ⊢
            exact hide1 this
          · exact hide1 ((BW.out.trans (E5.out.mono BW.out.size)).setCell (p := ⟨Y, 5, none⟩) sY _)
          · have := rdG_of_own encZ.len O5.out (by simp)
            rw [← HPS.out] at this
            exact hide1 (this.set (own_ne O5.out lY (VU.out.lw.trans BW.out.size)) 5 _)
          · exact hide1 (own_ne O5.out lB (VU.out.lw.trans BW.out.size))
          · exact hide1 (own_ne O5.out lY (VU.out.lw.trans BW.out.size))
      case rest =>
      obtain ⟨b5, c5, KY, KB, KR, KN, KNY⟩ := hcut
      clear FXr FYr lX lYr lY HR HZ hz g0 G0 h0 H0 BW lB
      generalize wc = w3 at *
      have CM := hide1 (fun w' => specMost_any (c.vs.length : Int) w' (by omega))
      rw [← HPS.out, show (t.y.tk.length : Int) + 1 = (ps.length : Int) by have := HPL.out; omega] at HA2
      have hpl : ps.length ≤ 1001 := by have := HPL.out; omega
      generalize mostI (c.vs.length : Int) = mo at *
      have y5 : w3.cell? ⟨Y, 5, none⟩ = some (.slice b5 ps.length c5) := KY.out.cell 5
      have b0 : w3.cell? ⟨B, 0, none⟩ = some (.slice A.va c.vs.length A.vc) := (VU.out.later KB.out).b.cell 0
      have D3 := hide1 (show Below w3.heap.size w3 w3.drew from (Below.refl _ _).drew)
      by_cases c3 : (ps.length : Int) = mo
      · have HQ := hide1 (HA2.out.trans (if_pos c3))
        have q3 : ((ps.length : Int) == mo) = true := by simp [c3]
        clear HA2 c3
        go_upto_region 5 with fail
        go_region_held3 (fun w' => w'.cell? ⟨Y, 5, none⟩ = some (.slice b5 ps.length c5) ∧ w'.cell? ⟨B, 0, none⟩ = some (.slice A.va c.vs.length A.vc)) (first | go_keep | exact ⟨y5, b0⟩) ((go_at_call 109; refine (CM.out _).mono ?_; rintro e w7 ⟨rfl, hw7⟩; subst hw7))
        generalize w3.drew = w4 at D3 ⊢
        have KY4 := hide1 (KY.out.below D3.out KY.out.lt)
        have KB4 := hide1 (KB.out.trans (D3.out.mono KB.out.size))
        have KR4 := hide1 (KR.out.later D3.out)
        clear KY KB KR D3 y5 b0 CM
        have yf : ∀ i, w4.frozen? ⟨Y, i, none⟩ = false := fun i => KY4.out.froz i
        have y6 : w4.cell? ⟨Y, 6, none⟩ = some (.bool t.y.ch) := KY4.out.cell 6
        go_upto_region 7 with fail
        have S5 := hide1 (And.intro (Blk.set KY4.out 6 (.bool true)) (And.intro (KB4.out.setCell (p := ⟨Y, 6, none⟩) sY (.bool true)) (KR4.out.set KNY.out 6 (.bool true))))
        generalize (w4.setCell ⟨Y, 6, none⟩ (.bool true)) = wS at S5 ⊢
        clear yf y6 KY4 KB4 KR4
        have VS := hide1 (VU.out.later S5.out.2.1)
        have lB : B < wS.heap.size := VS.out.b.lt
        have lY : Y < wS.heap.size := S5.out.1.lt
        have hn2 : c.ch.length ≤ 1000000 := by omega
        have HR := hide1 VS.out.r.c
        have HZ := hide1 (VS.out.b.froz 3)
        have hz : wS.frozen? ⟨B, 3, none⟩ = false := HZ.out
        have g0 : wS.cell? ⟨B, 3, none⟩ = some (.slice A.ca c.ch.length A.cc) := VS.out.b.cell 3
        have G0 := hide1 g0
        have h0 : wS.cell? ⟨Y, 2, none⟩ = some (.string t.y.v) := S5.out.1.cell 2
        have H0 := hide1 h0
        go_cut [4] (fun iv wx => ∃ ca cc, Hid (VaC lo wx B { A with ca := ca, cc := cc } { c with ch := c.ch ++ [t.y.v] }) ∧ Hid (Blk wx Y 47 [.int .i64 t.y.i, .int .i64 t.y.b, .string t.y.v, .slice t.pa t.y.ps.length t.pc, .bool t.y.as, .slice b5 ps.length c5, .bool true]) ∧ Hid (w.grownBy wx (some B)) ∧ Hid (TmR lo wx B ⟨⟨t.y.i, t.y.b, t.y.v, t.y.ps, t.y.as, ps, true⟩, t.pa, t.pc, b5, c5⟩))
        case first =>
          go_region_law ((first | (have := E8.out; refine step_pushG encX rowX rfl (.tmp 53) (.tmp 56) rfl wS.heap.size b8 c.ch.length c8 c.ch rfl (by first | exact O8.out | exact O8.out.alloc _ | exact O8.out.drew) _ (t.y.v) rfl (by first | exact ZM.out | exact Blk.new _ _ _ | exact blkE1 _ _) hn2 (by have := E8.out.size; go_size) ?_; intro b9 c9 w9 ho9 hb9; have E9 : Hid (Below wS.heap.size wS w9) := E8.out.trans ((show Below wS.heap.size w8 _ by go_grown).trans hb9); have O9 := hide1 ho9; have s9 := E9.out.size; have hz : w9.frozen? ⟨B, 3, none⟩ = false := (E9.out.frozen lB).trans HZ.out; clear ho9 hb9 h0 g0; have h0 : w9.cell? ⟨Y, 2, none⟩ = some (.string t.y.v) := (E9.out.cell lY).trans H0.out; have g0 : w9.cell? ⟨B, 3, none⟩ = some (.slice A.ca c.ch.length A.cc) := (E9.out.cell lB).trans G0.out) | (refine step_copyG encX rowX rfl (.tmp 48) (.tmp 52) rfl wS.heap.size _ rfl (by first | exact Blk.new _ _ _ | exact blkE1 _ _ | exact Blk.more (Blk.new _ _ _) _ | exact blkE2 _ _ _ | exact (blkN2 _ _ _ _ _).2.1 | exact blkE3 _ _ _) (by first | exact Nat.le_refl _ | exact Nat.le_succ _) A.ca c.ch.length A.cc c.ch rfl rfl (HR.out.later (by go_grown)) (by omega) ?_; intro b8 c8 w8 ho8 hb8 hg8; have E8 : Hid (Below wS.heap.size wS w8) := (show Below wS.heap.size wS _ by go_grown).trans hb8; have O8 := hide1 ho8; (first | (have ZM := hide1 (zM1D hg8)) | (have ZM := hide1 (zM2D hg8)) | (have ZM := hide1 (zM1 hg8)) | (have ZM := hide1 (zM2 hg8)) | skip); have s8 := E8.out.size; clear ho8 hb8 hg8 h0 g0; have h0 : w8.cell? ⟨Y, 2, none⟩ = some (.string t.y.v) := (E8.out.cell lY).trans H0.out; have g0 : w8.cell? ⟨B, 3, none⟩ = some (.slice A.ca c.ch.length A.cc) := (E8.out.cell lB).trans G0.out)))
          all_goals
            go_wp2_with fail
            go_meet
            have e1 : (c.ch ++ [t.y.v]).length = c.ch.length + 1 := by simp
            have hg := put_grown (B := B) E9.out 3 (.slice b9 (c.ch.length + 1) c9)
            have P := VaC.putC (l := c.ch ++ [t.y.v]) VS.out E9.out (by rw [e1]; exact O9.out) lB VS.out.lw
            rw [e1] at P
            refine ⟨b9, c9, hide1 P, hide1 (gblk hg S5.out.1 (by intro e; injection e; omega)), hide1 (gtrans (gtrans GU.out (gnew S5.out.2.1)) hg), hide1 ?_⟩
            exact TmR.grown (w := wS) ⟨TU.out.1.later S5.out.2.1, TU.out.2.1, S5.out.2.2, KN.out⟩ hg
        case rest =>
        obtain ⟨ca, cc, V9, FY9, G9, T9⟩ := hcut
        clear S5 VS lB lY HR HZ hz g0 G0 h0 H0
        generalize wc = w6 at *
        have y0 : w6.cell? ⟨Y, 0, none⟩ = some (.int .i64 t.y.i) := FY9.out.cell 0
        have y1 : w6.cell? ⟨Y, 1, none⟩ = some (.int .i64 t.y.b) := FY9.out.cell 1
        have y2 : w6.cell? ⟨Y, 2, none⟩ = some (.string t.y.v) := FY9.out.cell 2
        have y3 : w6.cell? ⟨Y, 3, none⟩ = some (.slice t.pa t.y.ps.length t.pc) := FY9.out.cell 3
        have y4 : w6.cell? ⟨Y, 4, none⟩ = some (.bool t.y.as) := FY9.out.cell 4
        have y5 : w6.cell? ⟨Y, 5, none⟩ = some (.slice b5 ps.length c5) := FY9.out.cell 5
        have y6 : w6.cell? ⟨Y, 6, none⟩ = some (.bool true) := FY9.out.cell 6
        go_wp2_with fail
        refine (specTry_any _ ⟨⟨t.y.i, t.y.b, t.y.v, t.y.ps, t.y.as, ps, true⟩, t.pa, t.pc, b5, c5⟩ B _ w6 V9.out j HI.out hjl ht5 T9.out).mono ?_
        rintro r u5 ⟨rfl, ⟨ta, tc, V6⟩, g6⟩
        have HV6 := hide1 V6
        have G6 := hide1 (gtrans G9.out g6)
        clear V6 g6 y0 y1 y2 y3 y4 y5 y6
        go_wp2
        go_ret
        exact ⟨by rw [HQ.out]; rfl, ⟨_, by rw [HQ.out]; exact HV6.out⟩, G6.out⟩
      · have HQ := hide1 (HA2.out.trans (if_neg c3))
        have q3 : ((ps.length : Int) == mo) = false := by simp [c3]
        clear HA2 c3
        go_upto_region 5 with fail
        go_region_held3 (fun w' => w'.cell? ⟨Y, 5, none⟩ = some (.slice b5 ps.length c5) ∧ w'.cell? ⟨B, 0, none⟩ = some (.slice A.va c.vs.length A.vc)) (first | go_keep | exact ⟨y5, b0⟩) ((go_at_call 109; refine (CM.out _).mono ?_; rintro e w7 ⟨rfl, hw7⟩; subst hw7))
        generalize w3.drew = w4 at D3 ⊢
        have KY4 := hide1 (KY.out.below D3.out KY.out.lt)
        have KB4 := hide1 (KB.out.trans (D3.out.mono KB.out.size))
        have KR4 := hide1 (KR.out.later D3.out)
        clear KY KB KR D3 y5 b0 CM
        have V8 := hide1 (VU.out.later KB4.out)
        have G8 := hide1 (show w.grownBy w4 (some B) from gtrans GU.out (gnew KB4.out))
        have HT1 := hide1 (show TmR lo w4 B ⟨⟨t.y.i, t.y.b, t.y.v, t.y.ps, t.y.as, ps, t.y.ch⟩, t.pa, t.pc, b5, c5⟩ from ⟨TU.out.1.later KB4.out, TU.out.2.1, KR4.out, KN.out⟩)
        have y0 : w4.cell? ⟨Y, 0, none⟩ = some (.int .i64 t.y.i) := KY4.out.cell 0
        have y1 : w4.cell? ⟨Y, 1, none⟩ = some (.int .i64 t.y.b) := KY4.out.cell 1
        have y2 : w4.cell? ⟨Y, 2, none⟩ = some (.string t.y.v) := KY4.out.cell 2
        have y3 : w4.cell? ⟨Y, 3, none⟩ = some (.slice t.pa t.y.ps.length t.pc) := KY4.out.cell 3
        have y4 : w4.cell? ⟨Y, 4, none⟩ = some (.bool t.y.as) := KY4.out.cell 4
        have y5 : w4.cell? ⟨Y, 5, none⟩ = some (.slice b5 ps.length c5) := KY4.out.cell 5
        have y6 : w4.cell? ⟨Y, 6, none⟩ = some (.bool t.y.ch) := KY4.out.cell 6
        go_wp2_with fail
        refine (specTry_any c ⟨⟨t.y.i, t.y.b, t.y.v, t.y.ps, t.y.as, ps, t.y.ch⟩, t.pa, t.pc, b5, c5⟩ B A w4 V8.out j HI.out hjl ht5 HT1.out).mono ?_
        rintro r u5 ⟨rfl, ⟨ta, tc, V6⟩, g6⟩
        have HV6 := hide1 V6
        have G6 := hide1 (gtrans G8.out g6)
        clear V6 g6 y0 y1 y2 y3 y4 y5 y6
        go_wp2
        go_ret
        exact ⟨by rw [HQ.out]; rfl, ⟨_, by rw [HQ.out]; exact HV6.out⟩, G6.out⟩
    · have HQ := hide1 (show takC c m = (c, 1) by unfold takC; rw [HT.out, if_pos (.inr c2)])
      clear c1 c2
      go_wp2
      go_ret
      exact ⟨by rw [HQ.out]; rfl, ⟨A, by rw [HQ.out]; exact V2.out.later HB.out⟩, gtrans G2.out (gnew HB.out)⟩
  · have q1 : (t.y.b != m.b) = true := by simp [c1]
    have HQ := hide1 (show takC c m = (c, 1) by unfold takC; rw [HT.out, if_pos (.inl c1)])
    clear c1
    go_wp2
    go_ret
    exact ⟨by rw [HQ.out]; rfl, ⟨A, by rw [HQ.out]; exact V2.out⟩, G2.out⟩
end Go.Proofs.Ytgehdgmllilmgaa
