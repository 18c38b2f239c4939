/- The program's tries: whether a note counts. -/
import Derived.Test.YtgehdgmllilmgaaYO
import Derived.Deep.RegionHeld3
import Derived.Test.YtgehdgmllilmgaaYF
namespace Go.Proofs.Ytgehdgmllilmgaa
open Go.RowKit
set_option linter.unusedVariables false

set_option maxRecDepth 100000 in
set_option maxHeartbeats 1000000 in
theorem hasP_any (g o pc : Nat) (pa : Option Addr) (l : List Nt) (f : Int) (w : World) (hl : l.length ≤ 1048576) (x3 : w.cell? ⟨g, o + 3, none⟩ = some (.slice pa l.length pc)) (hR : RdG ntC 6 w pa l) :
    Calls Try.prog 118 #[.pointer (some ⟨g, o, none⟩), .int .i64 f] w fun e w' => e = .returned (.bool (l.any (fun p => p.f == f))) ∧ Below w.heap.size w w' := by
  have HR := hide1 hR
  clear hR
  go_enter Try.func118, Try.ntmps118
  go_wp2
  go_loopw [12] (fun iv wr => ∃ i : Nat, i ≤ l.length ∧ iv = .int .i64 (i : Int) ∧ Hid ((l.take i).any (fun p => p.f == f) = false) ∧ Hid (Below w.heap.size w wr)) (fun iv _ => l.length - (intOf iv).toNat)
  case atStart => exact ⟨0, by omega, rfl, hide1 (by simp), hide1 (Below.refl _ _)⟩
  case round =>
    obtain ⟨i, hi, rfl, ha, HB⟩ := hrel
    by_cases hlt : i < l.length
    · have k1 : (i : Int) < (l.length : Int) := by omega
      have k0 : (0 : Int) ≤ (i : Int) := by omega
      obtain ⟨b, q, rfl, hb, h1⟩ := HR.out i hlt
      have HN := hide1 (show (l.take (i + 1)).any (fun p => p.f == f) = (l[i].f == f) by rw [List.take_succ_eq_append_getElem hlt, List.any_append, ha.out]; simp)
      have HT := hide1 (show (l[i].f == f) = true → l.any (fun p => p.f == f) = true from fun hq => List.any_eq_true.2 ⟨l[i], List.getElem_mem hlt, hq⟩)
      have x0 : wr.cell? ⟨b, q + i * 6, none⟩ = some (.int .i64 l[i].k) := (HB.out.cell (p := ⟨b, q + i * 6 + 0, none⟩) hb).trans (h1 0 (by omega))
      have x1 : wr.cell? ⟨b, q + i * 6 + 1, none⟩ = some (.int .i64 l[i].f) := (HB.out.cell (p := ⟨b, q + i * 6 + 1, none⟩) hb).trans (h1 1 (by omega))
      have x2 : wr.cell? ⟨b, q + i * 6 + 2, none⟩ = some (.int .i64 l[i].o) := (HB.out.cell (p := ⟨b, q + i * 6 + 2, none⟩) hb).trans (h1 2 (by omega))
      have y3 : wr.cell? ⟨b, q + i * 6 + 3, none⟩ = some (.int .i64 l[i].b) := (HB.out.cell (p := ⟨b, q + i * 6 + 3, none⟩) hb).trans (h1 3 (by omega))
      have x4 : wr.cell? ⟨b, q + i * 6 + 4, none⟩ = some (.int .i64 l[i].t) := (HB.out.cell (p := ⟨b, q + i * 6 + 4, none⟩) hb).trans (h1 4 (by omega))
      have x5 : wr.cell? ⟨b, q + i * 6 + 5, none⟩ = some (.string l[i].v) := (HB.out.cell (p := ⟨b, q + i * 6 + 5, none⟩) hb).trans (h1 5 (by omega))
      clear h1 ha
      generalize l[i] = s at *
      have F := hide1 (HB.out.alloc HB.out.size (.cells #[.int .i64 s.k, .int .i64 s.f, .int .i64 s.o, .int .i64 s.b, .int .i64 s.t, .string s.v] 111))
      cases cf : (s.f == f)
      · rw [cf] at HN
        go_wp2
        go_roundw
        case rel => exact ⟨i + 1, by omega, by go_num, HN, F⟩
        case measure => simp [intOf]; omega
      · have HT2 := hide1 (HT.out cf)
        go_wp2
        go_ret
        exact ⟨by rw [HT2.out]; rfl, F.out⟩
    · obtain rfl : i = l.length := by omega
      have k1 : ¬ ((l.length : Int) < (l.length : Int)) := by omega
      have hz := ha.out
      rw [List.take_length] at hz
      have HZ := hide1 hz
      clear hz ha
      go_wp2
      go_ret
      exact ⟨by rw [HZ.out]; rfl, HB.out⟩
set_option maxRecDepth 100000 in
set_option maxHeartbeats 1000000 in
theorem indexZ_any (a : Option Addr) (ca : Nat) (l : List Int) (f : Int) (w : World) (hl : l.length ≤ 1048576) (hR : RdG izE 1 w a l) :
    Calls Try.prog 121 #[.slice a l.length ca, .int .i64 f] w fun e w' => (∃ z : Int, e = .returned (.int .i64 z) ∧ decide (0 ≤ z) = l.any (fun p => p == f) ∧ -1 ≤ z ∧ z ≤ 1048576) ∧ w' = w := by
  have HR := hide1 hR
  clear hR
  go_enter Try.func121, Try.ntmps121
  go_wp2
  go_loopw [8] (fun iv wr => ∃ i : Nat, i ≤ l.length ∧ iv = .int .i64 (i : Int) ∧ Hid ((l.take i).any (fun p => p == f) = false) ∧ wr = w) (fun iv _ => l.length - (intOf iv).toNat)
  case atStart => exact ⟨0, by omega, rfl, hide1 (by simp), rfl⟩
  case round =>
    obtain ⟨i, hi, rfl, ha, rfl⟩ := hrel
    by_cases hlt : i < l.length
    · have k1 : (i : Int) < (l.length : Int) := by omega
      have k0 : (0 : Int) ≤ (i : Int) := by omega
      obtain ⟨b, q, rfl, hb, h1⟩ := HR.out i hlt
      have HN := hide1 (show (l.take (i + 1)).any (fun p => p == f) = (l[i] == f) by rw [List.take_succ_eq_append_getElem hlt, List.any_append, ha.out]; simp)
      have HT := hide1 (show (l[i] == f) = true → l.any (fun p => p == f) = true from fun hq => List.any_eq_true.2 ⟨l[i], List.getElem_mem hlt, hq⟩)
      have x0 : wr.cell? ⟨b, q + i, none⟩ = some (.int .i64 l[i]) := by have := h1 0 (by omega); rw [Nat.mul_one] at this; exact this
      clear h1 ha
      generalize l[i] = s at *
      have hsym : (f == s) = (s == f) := by rw [Bool.eq_iff_iff, beq_iff_eq, beq_iff_eq]; exact eq_comm
      cases cf : (s == f)
      · rw [cf] at HN hsym
        go_wp2
        go_roundw
        case rel => exact ⟨i + 1, by omega, by go_num, HN, trivial⟩
        case measure => simp [intOf]; omega
      · have HT2 := hide1 (HT.out cf)
        rw [cf] at hsym
        go_wp2
        go_ret
        exact ⟨⟨(i : Int), rfl, by rw [HT2.out]; simp, by omega, by omega⟩, rfl⟩
    · obtain rfl : i = l.length := by omega
      have k1 : ¬ ((l.length : Int) < (l.length : Int)) := by omega
      have hz := ha.out
      rw [List.take_length] at hz
      have HZ := hide1 hz
      clear hz ha
      go_wp2
      go_ret
      exact ⟨⟨-1, rfl, by rw [HZ.out]; rfl, by omega, by omega⟩, rfl⟩
set_option maxRecDepth 100000 in
theorem containsZ_any (a : Option Addr) (ca : Nat) (l : List Int) (f : Int) (w : World) (hl : l.length ≤ 1048576) (hR : RdG izE 1 w a l) :
    Calls Try.prog 119 #[.slice a l.length ca, .int .i64 f] w fun e w' => e = .returned (.bool (l.any (fun p => p == f))) ∧ w' = w := by
  have C := hide1 (indexZ_any a ca l f w hl hR)
  clear hR
  go_enter Try.func119, Try.ntmps119
  go_wp2_with fail
  refine C.out.mono ?_
  rintro e w1 ⟨⟨z, rfl, hz, _, _⟩, rfl⟩
  have HZ := hide1 hz
  clear hz
  go_wp2
  go_ret
  exact ⟨by rw [← HZ.out]; rfl, rfl⟩
/-- Whether a note counts for a try. -/
def waitB (t : Ty) (m : Nt) : Bool := if m.k = 2 ∧ (t.as || t.ps.any (fun p => p.f == m.f)) = true then false else if m.k = 2 ∨ m.k = 4 then ((m.b == t.b) && !(t.tk.any (fun p => p == m.f))) else false
set_option maxRecDepth 100000 in
set_option maxHeartbeats 2000000 in
theorem waits_any (g o : Nat) (t : Tm) (m : Nt) (w : World) (hk : m.k = 2 ∨ m.k = 4) (hp : t.y.ps.length ≤ 1048576) (ht : t.y.tk.length ≤ 1048576) (hc : ∀ q, q < 7 → w.cell? ⟨g, o + q, none⟩ = (tmC t)[q]?) (hR : RdG ntC 6 w t.pa t.y.ps) (hZ : RdG izE 1 w t.ka t.y.tk) :
    Calls Try.prog 108 #[.pointer (some ⟨g, o, none⟩), .agg #[.int .i64 m.k, .int .i64 m.f, .int .i64 m.o, .int .i64 m.b, .int .i64 m.t, .string m.v]] w fun e w' => e = .returned (.bool (waitB t.y m)) ∧ Below w.heap.size w w' := by
  have x1 : w.cell? ⟨g, o + 1, none⟩ = some (.int .i64 t.y.b) := hc 1 (by omega)
  have x3 : w.cell? ⟨g, o + 3, none⟩ = some (.slice t.pa t.y.ps.length t.pc) := hc 3 (by omega)
  have x4 : w.cell? ⟨g, o + 4, none⟩ = some (.bool t.y.as) := hc 4 (by omega)
  have x5 : w.cell? ⟨g, o + 5, none⟩ = some (.slice t.ka t.y.tk.length t.kc) := hc 5 (by omega)
  have lg : g < w.heap.size := World.block_lt_of_cell? w _ x1
  have F0 := hide1 (And.intro (Blk.new w 111 #[.int .i64 m.k, .int .i64 m.f, .int .i64 m.o, .int .i64 m.b, .int .i64 m.t, .string m.v]) ((Below.refl w.heap.size w).alloc (Nat.le_refl _) (.cells #[.int .i64 m.k, .int .i64 m.f, .int .i64 m.o, .int .i64 m.b, .int .i64 m.t, .string m.v] 111)))
  have X := hide1 (And.intro x1 (And.intro x3 (And.intro x4 x5)))
  have CH := hide1 (fun w' (hb : Below w.heap.size w w') => hasP_any g o t.pc t.pa t.y.ps m.f w' hp ((hb.cell lg).trans x3) (hR.later hb))
  have CZ := hide1 (fun w' (hb : Below w.heap.size w w') => containsZ_any t.ka t.kc t.y.tk m.f w' ht (hZ.later hb))
  have HW := hide1 (show waitB t.y m = if m.k = 2 ∧ (t.y.as || t.y.ps.any (fun p => p.f == m.f)) = true then false else ((m.b == t.y.b) && !(t.y.tk.any (fun p => p == m.f))) by unfold waitB; rw [if_pos hk])
  rw [HW.out]
  clear hR hZ hc x1 x3 x4 x5 HW
  obtain ⟨hp1, hhp⟩ : ∃ b, t.y.ps.any (fun p => p.f == m.f) = b := ⟨_, rfl⟩
  obtain ⟨ht1, hht⟩ : ∃ b, t.y.tk.any (fun p => p == m.f) = b := ⟨_, rfl⟩
  obtain ⟨hb1, hhb⟩ : ∃ b, (m.b == t.y.b) = b := ⟨_, rfl⟩
  rw [hhp] at CH ⊢
  rw [hht] at CZ ⊢
  rw [hhb]
  clear hhp hht
  obtain ⟨as1, has⟩ : ∃ b, t.y.as = b := ⟨_, rfl⟩
  rw [has]
  rw [has] at X
  clear has
  obtain ⟨res, hres⟩ : ∃ r, (if m.k = 2 ∧ (as1 || hp1) = true then false else (hb1 && !ht1)) = r := ⟨_, rfl⟩
  rw [hres]
  go_enter Try.func108, Try.ntmps108
  go_upto_region 1 with fail
  generalize (w.alloc (.cells #[.int .i64 m.k, .int .i64 m.f, .int .i64 m.o, .int .i64 m.b, .int .i64 m.t, .string m.v] 111)) = u at F0 ⊢
  obtain ⟨G, hG⟩ : ∃ G, G = w.heap.size := ⟨_, rfl⟩
  have K0 := hide1 F0.out.1
  have B0 := hide1 F0.out.2
  rw [← hG] at K0 ⊢
  have hgG : g ≠ G := by omega
  clear F0 hG
  have lgu : g < u.heap.size := Nat.lt_of_lt_of_le lg B0.out.size
  have lGu : G < u.heap.size := K0.out.lt
  have n0 : u.cell? ⟨G, 0, none⟩ = some (.int .i64 m.k) := K0.out.cell 0
  have n1 : u.cell? ⟨G, 1, none⟩ = some (.int .i64 m.f) := K0.out.cell 1
  have n3 : u.cell? ⟨G, 3, none⟩ = some (.int .i64 m.b) := K0.out.cell 3
  have x1 : u.cell? ⟨g, o + 1, none⟩ = some (.int .i64 t.y.b) := (B0.out.cell lg).trans X.out.1
  have x4 : u.cell? ⟨g, o + 4, none⟩ = some (.bool as1) := (B0.out.cell lg).trans X.out.2.2.1
  have x5 : u.cell? ⟨g, o + 5, none⟩ = some (.slice t.ka t.y.tk.length t.kc) := (B0.out.cell lg).trans X.out.2.2.2
  have N := hide1 (And.intro n1 (And.intro n3 (And.intro x1 x5)))
  rcases hk with hk | hk
  · have q2 : (m.k == 2) = true := by simp [hk]
    by_cases cas : as1 = true
    · subst cas
      have ER := hide1 (show res = false from hres.symm.trans (if_pos ⟨hk, rfl⟩))
      clear hk hres
      go_wp2
      go_ret
      exact ⟨by rw [ER.out]; rfl, B0.out⟩
    · have cas : as1 = false := by cases as1 <;> simp_all
      subst cas
      cases hp1
      · have ER := hide1 (show res = (hb1 && !ht1) from hres.symm.trans (if_neg (by simp)))
        clear hk hres
        go_wp2_with fail
        refine (CH.out u B0.out).mono ?_
        rintro e w2 ⟨rfl, hb2⟩
        have D2 := hide1 hb2
        clear hb2 n1 n3 x1 x5 n0 x4 CH
        have n1 : w2.cell? ⟨G, 1, none⟩ = some (.int .i64 m.f) := (D2.out.cell lGu).trans N.out.1
        have n3 : w2.cell? ⟨G, 3, none⟩ = some (.int .i64 m.b) := (D2.out.cell lGu).trans N.out.2.1
        have x1 : w2.cell? ⟨g, o + 1, none⟩ = some (.int .i64 t.y.b) := (D2.out.cell lgu).trans N.out.2.2.1
        have x5 : w2.cell? ⟨g, o + 5, none⟩ = some (.slice t.ka t.y.tk.length t.kc) := (D2.out.cell lgu).trans N.out.2.2.2
        have B2 := hide1 (B0.out.trans (D2.out.mono B0.out.size))
        cases hb1
        · go_wp2_with fail
          go_quiet (fail)
          go_wp2
          go_ret
          exact ⟨by rw [ER.out]; rfl, below_drewN B2.out nq⟩
        cases ht1
        all_goals
          go_wp2_with fail
          go_region_held3 (fun w' => w'.cell? ⟨G, 3, none⟩ = some (.int .i64 m.b) ∧ w'.cell? ⟨g, o + 1, none⟩ = some (.int .i64 t.y.b) ∧ w'.cell? ⟨G, 1, none⟩ = some (.int .i64 m.f) ∧ w'.cell? ⟨g, o + 5, none⟩ = some (.slice t.ka t.y.tk.length t.kc)) (go_keep) ((go_at_call 119; refine (CZ.out _ (B2.out.trans (show Below w.heap.size w2 _ by go_grown))).mono ?_; rintro e w3 ⟨rfl, rfl⟩))
          go_wp2
          go_ret
          exact ⟨by rw [ER.out]; rfl, by first | exact B2.out | exact B2.out.drew⟩
      · have ER := hide1 (show res = false from hres.symm.trans (if_pos ⟨hk, rfl⟩))
        clear hk hres
        go_wp2_with fail
        refine (CH.out u B0.out).mono ?_
        rintro e w2 ⟨rfl, hb2⟩
        go_wp2
        go_ret
        exact ⟨by rw [ER.out]; rfl, B0.out.trans (hb2.mono B0.out.size)⟩
  · have q2 : (m.k == 2) = false := by simp [hk]
    have q4 : (m.k == 4) = true := by simp [hk]
    have ER := hide1 (show res = (hb1 && !ht1) from hres.symm.trans (if_neg (fun h => by have := h.1; omega)))
    clear hk hres
    cases hb1
    · go_wp2_with fail
      go_quiet (fail)
      go_wp2
      go_ret
      exact ⟨by rw [ER.out]; rfl, below_drewN B0.out nq⟩
    cases ht1
    all_goals
      go_wp2_with fail
      go_region_held3 (fun w' => w'.cell? ⟨G, 3, none⟩ = some (.int .i64 m.b) ∧ w'.cell? ⟨g, o + 1, none⟩ = some (.int .i64 t.y.b) ∧ w'.cell? ⟨G, 1, none⟩ = some (.int .i64 m.f) ∧ w'.cell? ⟨g, o + 5, none⟩ = some (.slice t.ka t.y.tk.length t.kc)) (go_keep) ((go_at_call 119; refine (CZ.out _ (B0.out.trans (show Below w.heap.size u _ by go_grown))).mono ?_; rintro e w3 ⟨rfl, rfl⟩))
      go_wp2
      go_ret
      exact ⟨by rw [ER.out]; rfl, by first | exact B0.out | exact B0.out.drew⟩
end Go.Proofs.Ytgehdgmllilmgaa
namespace Go.Proofs.Ytgehdgmllilmgaa
open Go.RowKit
set_option linter.unusedVariables false

theorem rowG_set1 {L : List Tm} {j q : Nat} {t t' : Tm} {v : Value} (hq7 : q < 7) (hq : L[j]? = some t) (hs : ∀ p, p ≠ q → (tmC t')[p]? = (tmC t)[p]?) (hv : (tmC t')[q]? = some v) : (rowG tmC L).set (j * 7 + q) v = rowG tmC (L.set j t') := by
  obtain ⟨hj, rfl⟩ := List.getElem?_eq_some_iff.1 hq
  refine List.ext_getElem? fun i => ?_
  have hl := rowG_length tmC 7 encT.len L
  have hl2 := rowG_length tmC 7 encT.len (L.set j t')
  rw [List.length_set] at hl2
  by_cases hi : i < L.length * 7
  · have ha : i / 7 < L.length := by omega
    have hb : i % 7 < 7 := by omega
    have e : i = i / 7 * 7 + i % 7 := by omega
    have r1 := rowG_at tmC 7 encT.len L (i / 7) (i % 7) ha hb
    have r2 := rowG_at tmC 7 encT.len (L.set j t') (i / 7) (i % 7) (by rw [List.length_set]; exact ha) hb
    rw [← e] at r1 r2
    rw [r2, List.getElem_set]
    by_cases c : j * 7 + q = i
    · rw [List.getElem?_set, if_pos c, if_pos (by rw [hl]; omega), if_pos (by omega), show i % 7 = q by omega, hv]
    · rw [List.getElem?_set, if_neg c, r1]
      by_cases cj : j = i / 7
      · rw [if_pos cj]
        subst cj
        exact (hs (i % 7) (by omega)).symm
      · rw [if_neg cj]
  · rw [List.getElem?_eq_none (by rw [List.length_set, hl]; omega), List.getElem?_eq_none (by rw [hl2]; omega)]
theorem inA_L {A : CA} {j : Nat} {t t' : Tm} (ht : A.L[j]? = some t) {G : Nat} (h : InA { A with L := A.L.set j t' } G) : InA A G ∨ (∃ x, t'.pa = some x ∧ x.block = G) ∨ ∃ x, t'.ka = some x ∧ x.block = G := by
  obtain ⟨hj, _⟩ := List.getElem?_eq_some_iff.1 ht
  obtain ⟨q, x, hx, e⟩ := h
  rcases slotCase q with rfl | rfl | rfl | rfl | ⟨p, rfl⟩ | ⟨p, rfl⟩
  · exact .inl ⟨0, x, hx, e⟩
  · exact .inl ⟨1, x, hx, e⟩
  · exact .inl ⟨2, x, hx, e⟩
  · exact .inl ⟨3, x, hx, e⟩
  · rw [slotP] at hx
    have hx : (match (A.L.set j t')[p]? with | none => none | some t => t.pa) = some x := hx
    rw [getL_set hj] at hx
    by_cases ej : p = j
    · rw [if_pos ej] at hx
      exact .inr (.inl ⟨x, hx, e⟩)
    · rw [if_neg ej] at hx
      exact .inl ⟨2 * p + 4, x, by rw [slotP]; exact hx, e⟩
  · rw [slotK] at hx
    have hx : (match (A.L.set j t')[p]? with | none => none | some t => t.ka) = some x := hx
    rw [getL_set hj] at hx
    by_cases ej : p = j
    · rw [if_pos ej] at hx
      exact .inr (.inr ⟨x, hx, e⟩)
    · rw [if_neg ej] at hx
      exact .inl ⟨2 * p + 5, x, by rw [slotK]; exact hx, e⟩
theorem inA_pa {A : CA} {j : Nat} {t : Tm} (ht : A.L[j]? = some t) {x : Addr} (hx : t.pa = some x) : InA A x.block := ⟨2 * j + 4, x, by rw [slotP, ht]; exact hx, rfl⟩
theorem inA_ka {A : CA} {j : Nat} {t : Tm} (ht : A.L[j]? = some t) {x : Addr} (hx : t.ka = some x) : InA A x.block := ⟨2 * j + 5, x, by rw [slotK, ht]; exact hx, rfl⟩
section
variable {base : Nat} {w w' : World} {B : Nat} {A : CA} {c : Cn} {g j : Nat} {t : Tm}
/-- One cell of a try is stored. -/
theorem VaO.cell1 (h : VaO base w B A c) (hta : A.ta = some ⟨g, 0, none⟩) (ht : A.L[j]? = some t) (y : Ty) (hp : y.ps = t.y.ps) (hk : y.tk = t.y.tk) (q : Nat) (hq7 : q < 7) (v : Value) (hs : ∀ p, p ≠ q → (tmC { t with y := y })[p]? = (tmC t)[p]?) (hv : (tmC { t with y := y })[q]? = some v) :
    VaO base (w.setCell ⟨g, j * 7 + q, none⟩ v) B { A with L := A.L.set j { t with y := y } } { c with ts := c.ts.set j y } ∧ FrB A B w { A with L := A.L.set j { t with y := y } } (w.setCell ⟨g, j * 7 + q, none⟩ v) := by
  have hin : InA A g := ⟨1, _, hta, rfl⟩
  have hBg : B ≠ g := fun e => h.nb (e ▸ hin)
  have hrow : ∀ G, InA { A with L := A.L.set j { t with y := y } } G → InA A G := fun G hG => by
    rcases inA_L ht hG with e | ⟨x, hx, rfl⟩ | ⟨x, hx, rfl⟩
    · exact e
    · exact inA_pa ht hx
    · exact inA_ka ht hx
  have hf : FrB A B w { A with L := A.L.set j { t with y := y } } (w.setCell ⟨g, j * 7 + q, none⟩ v) := ((FrB.refl A B w).step (gset (World.grownBy.refl w (some g)) _ v) (fun p hp => by injection hp with hp; subst hp; exact .inl hin)).put (fun G hG => .inl (hrow G hG))
  have o1 := (h.o.setX hta (j * 7 + q) v).putY' ht y hp hk
  rw [rowG_set1 hq7 ht hs hv] at o1
  refine ⟨⟨?_, o1, fun e => h.nb (hrow B e), Nat.le_trans h.lb hf.size⟩, hf⟩
  have := h.b.far ⟨g, j * 7 + q, none⟩ v hBg
  unfold cnC at this ⊢
  rw [List.length_set]
  exact this
/-- The promises of a try are changed, and their slice stored. -/
theorem VaO.prm (h : VaO base w B A c) (hta : A.ta = some ⟨g, 0, none⟩) (ht : A.L[j]? = some t) {a' : Option Addr} {c' : Nat} {ps : List Nt} (hg : w.grownBy w' (Value.slice t.pa t.y.ps.length t.pc).ownBlock) (ho : w'.ownsRow base 111 6 (.slice a' ps.length c') ps.length (rowG ntC ps)) (hl : ∀ x, a' = some x → (Value.slice t.pa t.y.ps.length t.pc).ownBlock = some x.block ∨ w.heap.size ≤ x.block) :
    VaO base (w'.setCell ⟨g, j * 7 + 3, none⟩ (.slice a' ps.length c')) B { A with L := A.L.set j { t with y := { t.y with ps := ps }, pa := a', pc := c' } } { c with ts := c.ts.set j { t.y with ps := ps } } ∧ FrB A B w { A with L := A.L.set j { t with y := { t.y with ps := ps }, pa := a', pc := c' } } (w'.setCell ⟨g, j * 7 + 3, none⟩ (.slice a' ps.length c')) := by
  have hin : InA A g := ⟨1, _, hta, rfl⟩
  have hBg : B ≠ g := fun e => h.nb (e ▸ hin)
  have hrow : ∀ G, InA { A with L := A.L.set j { t with y := { t.y with ps := ps }, pa := a', pc := c' } } G → InA A G ∨ w.heap.size ≤ G := fun G hG => by
    rcases inA_L ht hG with e | ⟨x, hx, rfl⟩ | ⟨x, hx, rfl⟩
    · exact .inl e
    · rcases hl x hx with e | e
      · exact .inl (inP ht e)
      · exact .inr e
    · exact .inl (inA_ka ht hx)
  have hf : FrB A B w { A with L := A.L.set j { t with y := { t.y with ps := ps }, pa := a', pc := c' } } (w'.setCell ⟨g, j * 7 + 3, none⟩ (.slice a' ps.length c')) := (((FrB.refl A B w).step hg (fun q hq => .inl (inP ht hq))).step (gset (World.grownBy.refl w' (some g)) _ _) (fun p hp => by injection hp with hp; subst hp; exact .inl hin)).put hrow
  have o1 := (h.o.putP' ht hg ho (lies_of hl)).setX (g := g) hta (j * 7 + 3) (.slice a' ps.length c')
  rw [rowG_set1 (t' := { t with y := { t.y with ps := ps }, pa := a', pc := c' }) (by omega) ht (fun p hp => by
    match p with
    | 0 => rfl
    | 1 => rfl
    | 2 => rfl
    | 3 => exact absurd rfl hp
    | 4 => rfl
    | 5 => rfl
    | 6 => rfl
    | p + 7 => rfl) rfl] at o1
  have hB : Blk w' B 32 (cnC A c) := gblk hg h.b (fun e => h.nb (inP ht e))
  refine ⟨⟨?_, o1, fun e => ?_, Nat.le_trans h.lb hf.size⟩, hf⟩
  · have := hB.far ⟨g, j * 7 + 3, none⟩ (.slice a' ps.length c') hBg
    unfold cnC at this ⊢
    rw [List.length_set]
    exact this
  · rcases hrow B e with e | e
    · exact h.nb e
    · have := h.b.lt; omega
/-- The takers of a try are changed, and their slice stored. -/
theorem VaO.tkn (h : VaO base w B A c) (hta : A.ta = some ⟨g, 0, none⟩) (ht : A.L[j]? = some t) {a' : Option Addr} {c' : Nat} {tk : List Int} (hg : w.grownBy w' (Value.slice t.ka t.y.tk.length t.kc).ownBlock) (ho : w'.ownsRow base 3 1 (.slice a' tk.length c') tk.length (rowG izE tk)) (hl : ∀ x, a' = some x → (Value.slice t.ka t.y.tk.length t.kc).ownBlock = some x.block ∨ w.heap.size ≤ x.block) :
    VaO base (w'.setCell ⟨g, j * 7 + 5, none⟩ (.slice a' tk.length c')) B { A with L := A.L.set j { t with y := { t.y with tk := tk }, ka := a', kc := c' } } { c with ts := c.ts.set j { t.y with tk := tk } } ∧ FrB A B w { A with L := A.L.set j { t with y := { t.y with tk := tk }, ka := a', kc := c' } } (w'.setCell ⟨g, j * 7 + 5, none⟩ (.slice a' tk.length c')) := by
  have hin : InA A g := ⟨1, _, hta, rfl⟩
  have hBg : B ≠ g := fun e => h.nb (e ▸ hin)
  have hrow : ∀ G, InA { A with L := A.L.set j { t with y := { t.y with tk := tk }, ka := a', kc := c' } } G → InA A G ∨ w.heap.size ≤ G := fun G hG => by
    rcases inA_L ht hG with e | ⟨x, hx, rfl⟩ | ⟨x, hx, rfl⟩
    · exact .inl e
    · exact .inl (inA_pa ht hx)
    · rcases hl x hx with e | e
      · exact .inl (inK ht e)
      · exact .inr e
  have hf : FrB A B w { A with L := A.L.set j { t with y := { t.y with tk := tk }, ka := a', kc := c' } } (w'.setCell ⟨g, j * 7 + 5, none⟩ (.slice a' tk.length c')) := (((FrB.refl A B w).step hg (fun q hq => .inl (inK ht hq))).step (gset (World.grownBy.refl w' (some g)) _ _) (fun p hp => by injection hp with hp; subst hp; exact .inl hin)).put hrow
  have o1 := (h.o.putK' ht hg ho (lies_of hl)).setX (g := g) hta (j * 7 + 5) (.slice a' tk.length c')
  rw [rowG_set1 (t' := { t with y := { t.y with tk := tk }, ka := a', kc := c' }) (by omega) ht (fun p hp => by
    match p with
    | 0 => rfl
    | 1 => rfl
    | 2 => rfl
    | 3 => rfl
    | 4 => rfl
    | 5 => exact absurd rfl hp
    | 6 => rfl
    | p + 7 => rfl) rfl] at o1
  have hB : Blk w' B 32 (cnC A c) := gblk hg h.b (fun e => h.nb (inK ht e))
  refine ⟨⟨?_, o1, fun e => ?_, Nat.le_trans h.lb hf.size⟩, hf⟩
  · have := hB.far ⟨g, j * 7 + 5, none⟩ (.slice a' tk.length c') hBg
    unfold cnC at this ⊢
    rw [List.length_set]
    exact this
  · rcases hrow B e with e | e
    · exact h.nb e
    · have := h.b.lt; omega
/-- The seven cells of a try. -/
theorem VaO.try7 (h : VaO base w B A c) (hta : A.ta = some ⟨g, 0, none⟩) (ht : A.L[j]? = some t) : (∀ q, q < 7 → w.cell? ⟨g, j * 7 + q, none⟩ = (tmC t)[q]?) ∧ (∀ q, w.frozen? ⟨g, q, none⟩ = false) ∧ g < w.heap.size := by
  obtain ⟨hj, rfl⟩ := List.getElem?_eq_some_iff.1 ht
  refine ⟨fun q hq => ?_, fun q => h.o.frozX hta q, (h.o.geX hta).2⟩
  have := rowG_at tmC 7 encT.len A.L j q hj hq
  cases hv : (tmC A.L[j])[q]? with
  | none => have := encT.len A.L[j]; rw [List.getElem?_eq_none_iff] at hv; omega
  | some v => rw [hv] at this; exact h.o.cellX hta this
end
end Go.Proofs.Ytgehdgmllilmgaa
