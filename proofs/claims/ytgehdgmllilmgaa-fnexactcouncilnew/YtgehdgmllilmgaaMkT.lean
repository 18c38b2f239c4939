/- Rows of tries marked, and looked at for the marks. -/
import Derived.Test.YtgehdgmllilmgaaYS
namespace Go.Proofs.Ytgehdgmllilmgaa
open Go.RowKit
set_option linter.unusedVariables false

set_option maxRecDepth 100000 in
set_option maxHeartbeats 4000000 in
theorem markTryS_any (A : CA) (c : Cn) (k base : Nat) (w : World) (hl : A.L.length ≤ 4) (hs : ∀ t ∈ A.L, tsz t.y ≤ 10000) (hk0 : 0 < k) (hk : k ≤ 1000000) (h : OwC base w A c) (hb : base ≤ w.heap.size) :
    Calls Try.prog 52 #[.slice A.ta c.ts.length A.tc, .int .i64 (k : Int)] w fun e w' => e = .returned (.int .i64 ((kAt k A.L A.L.length : Nat) : Int)) ∧ OwC base w' { A with L := mkL k A.L A.L.length } { c with ts := (mkL k A.L A.L.length).map (·.y) } ∧ Fr A w A w' := by
  have hcl := h.len
  rw [← hcl]
  cases hta : A.ta with
  | none =>
    have h0 : A.L.length = 0 := by
      rw [hcl]
      rcases h.t.2 with ⟨_, h0⟩ | ⟨g, cap, cur, hv, _⟩
      · exact h0
      · rw [hta] at hv; cases hv
    have hL : A.L = [] := List.eq_nil_of_length_eq_zero h0
    have HR := hide1 (show OwC base w { A with L := mkL k A.L A.L.length } { c with ts := (mkL k A.L A.L.length).map (·.y) } by
      rw [h0, mkL_zero]
      have e := h.e
      rw [e]
      exact h)
    have HK := hide1 (show kAt k A.L A.L.length = k by rw [h0, kAt_zero])
    rw [HK.out, h0]
    rw [h0, hta] at HR
    clear h hs hl hcl h0 hL HK
    go_enter Try.func52, Try.ntmps52
    go_wp2
    refine wp_loop_rounds 1 ?_
    rw [rounds_succ]
    go_wp2
    go_ret
    exact ⟨by simp, HR.out, Fr.refl _ _⟩
  | some x =>
    obtain ⟨g, rfl⟩ : ∃ g, x = ⟨g, 0, none⟩ := by
      rcases h.t.2 with ⟨hv, _⟩ | ⟨g, cap, cur, hv, _⟩
      · rw [hta] at hv; cases hv
      · rw [hta] at hv; injection hv with e1; injection e1 with e1; exact ⟨g, e1⟩
    obtain ⟨n, hn⟩ : ∃ n, A.L.length = n := ⟨_, rfl⟩
    obtain ⟨tc, htc⟩ : ∃ tc, A.tc = tc := ⟨_, rfl⟩
    have HN := hide1 hn
    have HTC := hide1 htc
    have HL := hide1 hs
    have HA := hide1 (show ({ A with L := mkL k A.L 0 } : CA) = A by rw [mkL_zero])
    have H0 := hide1 (show OwC base w { A with L := mkL k A.L 0 } { c with ts := (mkL k A.L 0).map (·.y) } by
      rw [mkL_zero]
      have e := h.e
      rw [e]
      exact h)
    have HT := hide1 hta
    rw [hn, htc]
    have hn4 : n ≤ 4 := by omega
    clear h hs hta hcl hl hn htc HA
    go_enter Try.func52, Try.ntmps52
    go_wp2
    go_loopw [1, 5] (fun kv iv wr => ∃ i kk : Nat, i ≤ n ∧ iv = .int .i64 (i : Int) ∧ kv = .int .i64 (kk : Int) ∧ Hid (kk = kAt k A.L i) ∧ 0 < kk ∧ kk ≤ 1040000 ∧ Hid (OwC base wr { A with L := mkL k A.L i } { c with ts := (mkL k A.L i).map (·.y) }) ∧ Hid (Fr A w A wr)) (fun _ iv _ => n - (intOf iv).toNat)
    case atStart => exact ⟨0, k, by omega, rfl, rfl, (kAt_zero _ _).symm, hk0, by omega, H0, hide1 (Fr.refl _ _)⟩
    case round =>
      obtain ⟨i, kk, hi, rfl, rfl, hkk, hkp, hkm, HO, HB⟩ := hrel
      by_cases hlt : i < n
      · have k1 : (i : Int) < (n : Int) := by omega
        obtain ⟨t, ht⟩ : ∃ t, A.L[i]? = some t := ⟨_, List.getElem?_eq_getElem (by rw [HN.out]; exact hlt)⟩
        have hsz := HL.out t (List.mem_of_getElem? ht)
        have hq := (mkL_at k A.L i).trans ht
        have hnp : t.y.ps.length ≤ 10000 := by unfold tsz at hsz; omega
        have hnt : t.y.tk.length ≤ 10000 := by unfold tsz at hsz; omega
        have HKN := hide1 (show kAt k A.L (i + 1) = kk + tsz t.y by rw [kAt_next k A.L ht, hkk.out])
        have HKL := hide1 (show kAt k A.L (i + 1) ≤ 1040000 by
          have := kAt_le k A.L 10000 HL.out (i + 1) (by rw [HN.out]; omega)
          omega)
        have HX := hide1 (mkL_next k A.L ht)
        have HQ := hide1 hq
        have HT2 := hide1 ht
        have l7 : i * 7 + 6 < (({ c with ts := (mkL k A.L i).map (·.y) } : Cn).ts.length) * 7 := by
          show i * 7 + 6 < ((mkL k A.L i).map (·.y)).length * 7
          rw [List.length_map, mkL_length, HN.out]
          omega
        have L7 := hide1 l7
        clear l7
        have ge : InA A g ∨ w.heap.size ≤ g := .inl ⟨1, _, HT.out, rfl⟩
        obtain ⟨u0, x0⟩ := HO.out.someX HT.out (m := i * 7) (by have := L7.out; omega)
        obtain ⟨u1, x1⟩ := HO.out.someX HT.out (m := i * 7 + 1) (by have := L7.out; omega)
        have f0 := HO.out.frozX HT.out (i * 7)
        have f1 := HO.out.frozX HT.out (i * 7 + 1)
        have H1 := hide1 ((HO.out.setX HT.out (i * 7) (.int .i64 (kk : Int))).setX HT.out (i * 7 + 1) (.int .i64 ((kk : Int) + 1)))
        have B1 := hide1 ((HB.out.set ge (i * 7) (.int .i64 (kk : Int))).set ge (i * 7 + 1) (.int .i64 ((kk : Int) + 1)))
        have C2 := hide1 (fun (z : Int) (w : World) (hz : z = ((kk + 2 : Nat) : Int)) => mark_atNote z (kk + 2) w hz (by omega) (by omega))
        clear hq HB HO H0
        go_wp2_with fail
        clear x0 x1 f0 f1
        refine (C2.out _ _ (by omega)).mono ?_
        rintro e w2 ⟨rfl, hb2⟩
        obtain ⟨z2, hz2⟩ : ∃ z, z = mkT (kk + 2) := ⟨_, rfl⟩
        rw [← hz2]
        have Z2 := hide1 hz2
        clear hz2
        have H2 := hide1 (H1.out.kept hb2)
        have B2 := hide1 (B1.out.below hb2)
        have V3 := hide1 (show (((rowG tmC (mkL k A.L i)).set (i * 7) (.int .i64 (kk : Int))).set (i * 7 + 1) (.int .i64 ((kk : Int) + 1)))[i * 7 + 3]? = some (.slice t.pa t.y.ps.length t.pc) by
          obtain ⟨hi', e⟩ := List.getElem?_eq_some_iff.1 HQ.out
          have := rowG_at tmC 7 encT.len (mkL k A.L i) i 3 hi' (by decide)
          rw [List.getElem?_set_ne (by omega), List.getElem?_set_ne (by omega), this, e]
          rfl)
        have V5 := hide1 (show (((rowG tmC (mkL k A.L i)).set (i * 7) (.int .i64 (kk : Int))).set (i * 7 + 1) (.int .i64 ((kk : Int) + 1)))[i * 7 + 5]? = some (.slice t.ka t.y.tk.length t.kc) by
          obtain ⟨hi', e⟩ := List.getElem?_eq_some_iff.1 HQ.out
          have := rowG_at tmC 7 encT.len (mkL k A.L i) i 5 hi' (by decide)
          rw [List.getElem?_set_ne (by omega), List.getElem?_set_ne (by omega), this, e]
          rfl)
        obtain ⟨u2, x2⟩ := H2.out.someX HT.out (m := i * 7 + 2) (by show _ < ((mkL k A.L i).map (·.y)).length * 7; rw [List.length_map, mkL_length, HN.out]; omega)
        have f2 := H2.out.frozX HT.out (i * 7 + 2)
        have x3 : w2.cell? ⟨g, i * 7 + 3, none⟩ = some (.slice t.pa t.y.ps.length t.pc) := H2.out.cellX HT.out V3.out
        have H3 := hide1 (H2.out.setX HT.out (i * 7 + 2) (.string z2))
        have B3 := hide1 (B2.out.set ge (i * 7 + 2) (.string z2))
        have C3 := hide1 (fun (z : Int) (w : World) (hz : z = ((kk + 3 : Nat) : Int)) (ho : w.ownsRow base 111 6 (.slice t.pa t.y.ps.length t.pc) t.y.ps.length (rowG ntC t.y.ps)) => show Calls Try.prog 53 #[.slice t.pa t.y.ps.length t.pc, .int .i64 z] w (fun e w' => e = .returned (.int .i64 (((kk + 3 : Nat) : Int) + 6 * (t.y.ps.length : Int))) ∧ w'.ownsRow base 111 6 (.slice t.pa t.y.ps.length t.pc) t.y.ps.length (rowG ntC (patG mN 6 (kk + 3) t.y.ps.length)) ∧ w.grownBy w' (Value.slice t.pa t.y.ps.length t.pc).ownBlock) by subst hz; exact markNoteS_any _ _ (kk + 3) _ base w (by omega) (by omega) (by omega) ho)
        clear hb2 H1 B1 H2 B2 C2
        go_wp2_with fail
        clear x2 f2 x3
        refine (C3.out _ _ (by omega) (H3.out.r t (List.mem_of_getElem? HQ.out)).p).mono ?_
        rintro e w4 ⟨rfl, ho4, hg4⟩
        have H4 := hide1 (H3.out.putP' HQ.out (a' := t.pa) (c' := t.pc) (ps := patG mN 6 (kk + 3) t.y.ps.length) hg4 (by rw [patG_length]; exact ho4) (Lies.refl _ _))
        have B4 := hide1 (B3.out.step hg4 (fun q hq => .inl (inP HT2.out hq)))
        obtain ⟨b4, hb4⟩ : ∃ b : Bool, (((kk + 3 + 6 * t.y.ps.length : Nat) : Int) % 3 == 0) = b := ⟨_, rfl⟩
        have HB4 := hide1 hb4
        have q4 : (((kk + 3 : Nat) : Int) + 6 * (t.y.ps.length : Int)) = ((kk + 3 + 6 * t.y.ps.length : Nat) : Int) := by omega
        rw [q4]
        obtain ⟨k4, hk4⟩ : ∃ k4, kk + 3 + 6 * t.y.ps.length = k4 := ⟨_, rfl⟩
        rw [hk4]
        rw [hk4] at hb4
        have HK4 := hide1 hk4
        have hk4m : k4 ≤ 1110000 := by omega
        obtain ⟨u4, x4⟩ := H4.out.someX HT.out (m := i * 7 + 4) (by show _ < (((mkL k A.L i).map (·.y)).set i _).length * 7; rw [List.length_set, List.length_map, mkL_length, HN.out]; omega)
        have f4 := H4.out.frozX HT.out (i * 7 + 4)
        have x5 : w4.cell? ⟨g, i * 7 + 5, none⟩ = some (.slice t.ka t.y.tk.length t.kc) := H4.out.cellX HT.out (by rw [List.getElem?_set_ne (by omega)]; exact V5.out)
        have H5 := hide1 (H4.out.setX HT.out (i * 7 + 4) (.bool b4))
        have B5 := hide1 (B4.out.set ge (i * 7 + 4) (.bool b4))
        have hq5 := hide1 (show (((mkL k A.L i).set i { t with y := { t.y with ps := patG mN 6 (kk + 3) t.y.ps.length }, pa := t.pa, pc := t.pc })[i]? = some { t with y := { t.y with ps := patG mN 6 (kk + 3) t.y.ps.length }, pa := t.pa, pc := t.pc }) by rw [getL_set (List.getElem?_eq_some_iff.1 HQ.out).1, if_pos rfl])
        have ho5 := hide1 (show (w4.setCell ⟨g, i * 7 + 4, none⟩ (.bool b4)).ownsRow base 3 1 (.slice t.ka t.y.tk.length t.kc) t.y.tk.length (iz t.y.tk) by
          rw [iz_row]
          exact (H5.out.r _ (List.mem_of_getElem? hq5.out)).k)
        have C5 := hide1 (fun (z : Int) (w : World) (hz : z = ((k4 + 1 : Nat) : Int)) (ho : w.ownsRow base 3 1 (.slice t.ka t.y.tk.length t.kc) t.y.tk.length (iz t.y.tk)) => show Calls Try.prog 32 #[.slice t.ka t.y.tk.length t.kc, .int .i64 z] w (fun e w' => e = .returned (.int .i64 (((k4 + 1 : Nat) : Int) + (t.y.tk.length : Int))) ∧ w'.ownsRow base 3 1 (.slice t.ka t.y.tk.length t.kc) t.y.tk.length (iz (patZ (k4 + 1) t.y.tk.length)) ∧ w.grownBy w' (Value.slice t.ka t.y.tk.length t.kc).ownBlock) by subst hz; exact markIntS_any _ _ (k4 + 1) base _ w (by omega) (by omega) ho)
        clear hk4 q4 ho4 hg4 H3 B3 C3 H4 B4
        go_wp2_with fail
        clear x4 f4 x5
        refine (C5.out _ _ (by omega) ho5.out).mono ?_
        rintro e w6 ⟨rfl, ho6, hg6⟩
        rw [iz_row] at ho6
        have H6 := hide1 (H5.out.putK' hq5.out (a' := t.ka) (c' := t.kc) (tk := patZ (k4 + 1) t.y.tk.length) hg6 (by rw [patZ_length]; exact ho6) (Lies.refl _ _))
        have B6 := hide1 (B5.out.step hg6 (fun q hq => .inl (inK HT2.out hq)))
        have q6 : (((k4 + 1 : Nat) : Int) + (t.y.tk.length : Int)) = ((k4 + 1 + t.y.tk.length : Nat) : Int) := by omega
        rw [q6]
        obtain ⟨k6, hk6⟩ : ∃ k6, k4 + 1 + t.y.tk.length = k6 := ⟨_, rfl⟩
        rw [hk6]
        have HK6 := hide1 hk6
        have hk6m : k6 ≤ 1200000 := by omega
        obtain ⟨b6, hb6⟩ : ∃ b : Bool, ((k6 : Int) % 3 == 0) = b := ⟨_, rfl⟩
        have HB6 := hide1 hb6
        obtain ⟨u6, x6⟩ := H6.out.someX HT.out (m := i * 7 + 6) (by show _ < ((((mkL k A.L i).map (·.y)).set i _).set i _).length * 7; rw [List.length_set, List.length_set, List.length_map, mkL_length, HN.out]; omega)
        have f6 := H6.out.frozX HT.out (i * 7 + 6)
        have H7 := hide1 (H6.out.setX HT.out (i * 7 + 6) (.bool b6))
        have B7 := hide1 (B6.out.set ge (i * 7 + 6) (.bool b6))
        clear hk6 q6 ho6 hg6 H5 B5 C5 H6 B6 ho5
        go_wp2
        go_roundw
        case rel =>
          have e6 : k6 + 1 = kAt k A.L (i + 1) := by
            rw [HKN.out, ← HK6.out, ← HK4.out]
            unfold tsz
            omega
          refine ⟨i + 1, k6 + 1, by omega, by go_num, by go_num, e6, by omega, by rw [e6]; exact HKL.out, hide1 ?_, B7⟩
          have e1 : (mkL k A.L i).set i { t with y := mkY kk t.y } = mkL k A.L (i + 1) := by rw [hkk.out]; exact HX.out
          have hu2 : (mkY kk t.y).v = z2 := Z2.out.symm
          have hu4 : (mkY kk t.y).as = b4 := HB4.out
          have hu6 : (mkY kk t.y).ch = b6 := by
            show (((kk + 4 + 6 * t.y.ps.length + t.y.tk.length : Nat) : Int) % 3 == 0) = b6
            rw [show kk + 4 + 6 * t.y.ps.length + t.y.tk.length = k6 by have := HK6.out; have := HK4.out; omega]
            exact HB6.out
          have e2 : (((((rowG tmC (mkL k A.L i)).set (i * 7) (.int .i64 (mkY kk t.y).i)).set (i * 7 + 1) (.int .i64 (mkY kk t.y).b)).set (i * 7 + 2) (.string (mkY kk t.y).v)).set (i * 7 + 4) (.bool (mkY kk t.y).as)).set (i * 7 + 6) (.bool (mkY kk t.y).ch) = rowG tmC ((mkL k A.L i).set i { t with y := mkY kk t.y }) := set5of7 HQ.out (u := { t with y := mkY kk t.y }) (by
            unfold tmC
            show [_, _, _, Value.slice t.pa (patG mN 6 (kk + 3) t.y.ps.length).length t.pc, _, Value.slice t.ka (patZ (kk + 4 + 6 * t.y.ps.length) t.y.tk.length).length t.kc, _] = _
            rw [patG_length, patZ_length])
          rw [hu2, hu4, hu6, e1] at e2
          have HH := H7.out.putY' (j := i) (by rw [getL_set (by rw [List.length_set]; exact (List.getElem?_eq_some_iff.1 HQ.out).1), if_pos rfl]) (mkY kk t.y) rfl (by
            show patZ (kk + 4 + 6 * t.y.ps.length) t.y.tk.length = patZ (k4 + 1) t.y.tk.length
            rw [show kk + 4 + 6 * t.y.ps.length = k4 + 1 by have := HK4.out; omega])
          simp only [List.set_set] at HH
          have e3 : ((mkL k A.L i).map (·.y)).set i (mkY kk t.y) = (mkL k A.L (i + 1)).map (·.y) := by rw [← e1, List.map_set]
          have e4 : (mkL k A.L i).set i (Tm.mk (mkY kk t.y) t.pa t.pc t.ka t.kc) = mkL k A.L (i + 1) := e1
          rw [e4, e3] at HH
          show OwX base _ _ (rowG tmC (mkL k A.L (i + 1))) _
          rw [← e2]
          exact HH
        case measure => simp [intOf]; omega
      · obtain rfl : i = n := by omega
        have k1 : ¬ ((i : Int) < (i : Int)) := by omega
        go_wp2
        go_ret
        have HO' := HO.out
        rw [HT.out, HTC.out] at HO'
        exact ⟨by rw [← hkk.out]; rfl, HO', HB.out⟩

set_option maxRecDepth 100000 in
set_option maxHeartbeats 4000000 in
theorem heldTryS_any (a : Option Addr) (n ca : Nat) (L : List Tm) (k : Nat) (w : World) (hl : L.length ≤ 4) (hn : L.length = n) (hs : ∀ t ∈ L, tsz t.y ≤ 10000) (hk0 : 0 < k) (hk : k ≤ 1000000) (hA : RdG tmC 7 w a (mkL k L n)) (hr : ∀ t ∈ mkL k L n, RdG ntC 6 w t.pa t.y.ps ∧ RdG izE 1 w t.ka t.y.tk) :
    Calls Try.prog 56 #[.slice a n ca, .int .i64 (k : Int)] w fun e w' => e = .returned (.int .i64 ((kAt k L n : Nat) : Int)) ∧ Below w.heap.size w w' := by
  have HA := hide1 hA
  have HR := hide1 hr
  have HN := hide1 hn
  have HL := hide1 hs
  have hn4 : n ≤ 4 := by omega
  clear hA hr hn hs hl
  go_enter Try.func56, Try.ntmps56
  go_wp2
  go_loopw [1, 5] (fun kv iv wr => ∃ i kk : Nat, i ≤ n ∧ iv = .int .i64 (i : Int) ∧ kv = .int .i64 (kk : Int) ∧ Hid (kk = kAt k L i) ∧ 0 < kk ∧ kk ≤ 1040000 ∧ Hid (Below w.heap.size w wr)) (fun _ iv _ => n - (intOf iv).toNat)
  case atStart => exact ⟨0, k, by omega, rfl, rfl, (kAt_zero _ _).symm, hk0, by omega, hide1 (Below.refl _ _)⟩
  case round =>
    obtain ⟨i, kk, hi, rfl, rfl, hkk, hkp, hkm, HB⟩ := hrel
    by_cases hlt : i < n
    · have k1 : (i : Int) < (n : Int) := by omega
      obtain ⟨t, ht⟩ : ∃ t, L[i]? = some t := ⟨_, List.getElem?_eq_getElem (by rw [HN.out]; exact hlt)⟩
      have hsz := HL.out t (List.mem_of_getElem? ht)
      have hq := mkL_lt k L hlt ht
      have hnp : t.y.ps.length ≤ 10000 := by unfold tsz at hsz; omega
      have hnt : t.y.tk.length ≤ 10000 := by unfold tsz at hsz; omega
      have HKN := hide1 (show kAt k L (i + 1) = kk + tsz t.y by rw [kAt_next k L ht, hkk.out])
      have HKL := hide1 (show kAt k L (i + 1) ≤ 1040000 by
        have := kAt_le k L 10000 HL.out (i + 1) (by rw [HN.out]; omega)
        omega)
      rw [← hkk.out] at hq
      obtain ⟨hqi, hqe⟩ := List.getElem?_eq_some_iff.1 hq
      obtain ⟨R1, R2⟩ := HR.out _ (List.mem_of_getElem? hq)
      have R1 : RdG ntC 6 w t.pa (patG mN 6 (kk + 3) t.y.ps.length) := R1
      have R2 : RdG izE 1 w t.ka (patZ (kk + 4 + 6 * t.y.ps.length) t.y.tk.length) := R2
      have RP := hide1 R1
      have RK := hide1 R2
      obtain ⟨g, q, rfl, hg, h1⟩ := HA.out i hqi
      rw [hqe] at h1
      have hbel := HB.out
      have hgr : g < wr.heap.size := Nat.lt_of_lt_of_le hg hbel.size
      obtain ⟨z2, hz2⟩ : ∃ z, z = mkT (kk + 2) := ⟨_, rfl⟩
      obtain ⟨k4, hk4⟩ : ∃ k4, kk + 3 + 6 * t.y.ps.length = k4 := ⟨_, rfl⟩
      obtain ⟨k6, hk6⟩ : ∃ k6, k4 + 1 + t.y.tk.length = k6 := ⟨_, rfl⟩
      obtain ⟨b4, hb4⟩ : ∃ b : Bool, ((k4 : Int) % 3 == 0) = b := ⟨_, rfl⟩
      obtain ⟨b6, hb6⟩ : ∃ b : Bool, ((k6 : Int) % 3 == 0) = b := ⟨_, rfl⟩
      have x0 : wr.cell? ⟨g, q + i * 7, none⟩ = some (.int .i64 (kk : Int)) := (hbel.cell (p := ⟨g, q + i * 7 + 0, none⟩) hg).trans (h1 0 (by omega))
      have x1 : wr.cell? ⟨g, q + i * 7 + 1, none⟩ = some (.int .i64 ((kk : Int) + 1)) := (hbel.cell (p := ⟨g, q + i * 7 + 1, none⟩) hg).trans (h1 1 (by omega))
      have x2 : wr.cell? ⟨g, q + i * 7 + 2, none⟩ = some (.string z2) := by rw [hz2]; exact (hbel.cell (p := ⟨g, q + i * 7 + 2, none⟩) hg).trans (h1 2 (by omega))
      have x3 : wr.cell? ⟨g, q + i * 7 + 3, none⟩ = some (.slice t.pa t.y.ps.length t.pc) := by
        have := (hbel.cell (p := ⟨g, q + i * 7 + 3, none⟩) hg).trans (h1 3 (by omega))
        have e : (tmC { t with y := mkY kk t.y })[3]? = some (.slice t.pa (patG mN 6 (kk + 3) t.y.ps.length).length t.pc) := rfl
        rw [this, e, patG_length]
      have x4 : wr.cell? ⟨g, q + i * 7 + 4, none⟩ = some (.bool b4) := by
        have := (hbel.cell (p := ⟨g, q + i * 7 + 4, none⟩) hg).trans (h1 4 (by omega))
        rw [this, ← hb4, ← hk4]
        rfl
      have x5 : wr.cell? ⟨g, q + i * 7 + 5, none⟩ = some (.slice t.ka t.y.tk.length t.kc) := by
        have := (hbel.cell (p := ⟨g, q + i * 7 + 5, none⟩) hg).trans (h1 5 (by omega))
        have e : (tmC { t with y := mkY kk t.y })[5]? = some (.slice t.ka (patZ (kk + 4 + 6 * t.y.ps.length) t.y.tk.length).length t.kc) := rfl
        rw [this, e, patZ_length]
      have x6 : wr.cell? ⟨g, q + i * 7 + 6, none⟩ = some (.bool b6) := by
        have := (hbel.cell (p := ⟨g, q + i * 7 + 6, none⟩) hg).trans (h1 6 (by omega))
        rw [this, ← hb6, ← hk6, ← hk4]
        show some (Value.bool (((kk + 4 + 6 * t.y.ps.length + t.y.tk.length : Nat) : Int) % 3 == 0)) = _
        rw [show kk + 4 + 6 * t.y.ps.length + t.y.tk.length = kk + 3 + 6 * t.y.ps.length + 1 + t.y.tk.length by omega]
      have C2 := hide1 (fun (z : Int) (w : World) (hz : z = ((kk + 2 : Nat) : Int)) => show Calls Try.prog 62 #[.int .i64 z] w (fun e w' => e = .returned (.string z2) ∧ Below w.heap.size w w') by rw [hz2]; exact mark_atNote z (kk + 2) w hz (by omega) (by omega))
      have hk4m : k4 ≤ 1110000 := by omega
      have hk6m : k6 ≤ 1200000 := by omega
      have C3 := hide1 (fun (z : Int) (w' : World) (hz : z = ((kk + 3 : Nat) : Int)) (hw : Below w.heap.size w w') => show Calls Try.prog 57 #[.slice t.pa t.y.ps.length t.pc, .int .i64 z] w' (fun e w'' => e = .returned (.int .i64 (k4 : Int)) ∧ Below w'.heap.size w' w'') by
        subst hz
        have := heldNoteS_any t.pa t.y.ps.length t.pc (kk + 3) w' (by omega) (by omega) (by omega) (RP.out.later hw)
        rw [show (((kk + 3 : Nat) : Int) + 6 * (t.y.ps.length : Int)) = (k4 : Int) by omega] at this
        exact this)
      have C5 := hide1 (fun (z : Int) (w' : World) (hz : z = ((k4 + 1 : Nat) : Int)) (hw : Below w.heap.size w w') => show Calls Try.prog 33 #[.slice t.ka t.y.tk.length t.kc, .int .i64 z] w' (fun e w'' => e = .returned (.int .i64 (k6 : Int)) ∧ w'' = w') by
        subst hz
        have e : kk + 4 + 6 * t.y.ps.length = k4 + 1 := by omega
        have hz := RK.out.later hw
        rw [e] at hz
        have := heldIntS_any t.ka t.y.tk.length t.kc (k4 + 1) w' (by omega) (by omega) (rdZ_G hz)
        rw [show (((k4 + 1 : Nat) : Int) + (t.y.tk.length : Int)) = (k6 : Int) by omega] at this
        exact this)
      have HK4 := hide1 hk4
      have HK6 := hide1 hk6
      clear hz2 h1 R1 R2 hk4 hk6 hq hqi hqe ht
      have e0 : (z2.toList == z2.toList) = true := by simp
      have e1 : ((kk : Int) != (kk : Int)) = false := by simp
      have e2 : ((kk : Int) + 1 != (kk : Int) + 1) = false := by simp
      have e4 : (b4 != b4) = false := by simp
      have e6 : (b6 != b6) = false := by simp
      clear hbel
      go_wp2
      go_region_held3 (fun w' => w'.cell? ⟨g, q + i * 7 + 2, none⟩ = some (.string z2)) (first | go_keep | exact (hb2.cell hgr).trans x2) ((go_at_call 62; refine (C2.out _ _ (by omega)).mono ?_; rintro e w2 ⟨rfl, hb2⟩))
      have y3 : w2.cell? ⟨g, q + i * 7 + 3, none⟩ = some (.slice t.pa t.y.ps.length t.pc) := (hb2.cell hgr).trans x3
      have y4 : w2.cell? ⟨g, q + i * 7 + 4, none⟩ = some (.bool b4) := (hb2.cell hgr).trans x4
      have y5 : w2.cell? ⟨g, q + i * 7 + 5, none⟩ = some (.slice t.ka t.y.tk.length t.kc) := (hb2.cell hgr).trans x5
      have y6 : w2.cell? ⟨g, q + i * 7 + 6, none⟩ = some (.bool b6) := (hb2.cell hgr).trans x6
      have hgr2 : g < w2.heap.size := Nat.lt_of_lt_of_le hgr hb2.size
      have B2 := hide1 (HB.out.trans ((Below.refl _ _).drew.trans (hb2.mono HB.out.size)))
      clear hb2 x0 x1 x2 x3 x4 x5 x6 C2
      go_wp2_with fail
      refine (C3.out _ _ (by omega) B2.out).mono ?_
      rintro e w3 ⟨rfl, hb3⟩
      have z4 : w3.cell? ⟨g, q + i * 7 + 4, none⟩ = some (.bool b4) := (hb3.cell hgr2).trans y4
      have z5 : w3.cell? ⟨g, q + i * 7 + 5, none⟩ = some (.slice t.ka t.y.tk.length t.kc) := (hb3.cell hgr2).trans y5
      have z6 : w3.cell? ⟨g, q + i * 7 + 6, none⟩ = some (.bool b6) := (hb3.cell hgr2).trans y6
      have B3 := hide1 (B2.out.trans (hb3.mono B2.out.size))
      clear hb3 y3 y4 y5 y6 C3 B2
      go_wp2_with fail
      refine (C5.out _ _ (by omega) B3.out).mono ?_
      rintro e w4 ⟨rfl, rfl⟩
      go_wp2
      go_roundw
      case rel =>
        have e6 : k6 + 1 = kAt k L (i + 1) := by
          rw [HKN.out, ← HK6.out, ← HK4.out]
          unfold tsz
          omega
        exact ⟨i + 1, k6 + 1, by omega, by go_num, by go_num, e6, by omega, by rw [e6]; exact HKL.out, B3⟩
      case measure => simp [intOf]; omega
    · obtain rfl : i = n := by omega
      have k1 : ¬ ((i : Int) < (i : Int)) := by omega
      go_wp2
      go_ret
      exact ⟨by rw [← hkk.out]; rfl, HB.out⟩
end Go.Proofs.Ytgehdgmllilmgaa
