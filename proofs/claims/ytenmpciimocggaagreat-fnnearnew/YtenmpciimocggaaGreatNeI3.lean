/- Whether the handles of right near entries agree, by the program. -/
import Derived.Test.YtenmpciimocggaaGreatNeI2
import Derived.Deep.QuietTactic
import Derived.BigQuiet
namespace Go.Proofs.YtenmpciimocggaaGreat
open Go.RowKit
set_option linter.unusedVariables false

/-- A cell of the table that has a key: its handle is of a slot with this key. -/
theorem InT.cell {sl : List Sl} {fr : Int} {ce : List Ce} {K : List ByteArray} (h : InT sl fr ce K) {i : Nat} (hi : i < ce.length) (hk : ce[i].key.toList ≠ []) : ∃ (j : Nat) (hj : j < sl.length), AtA sl fr ce[i].h j ∧ sl[j].key = ce[i].key ∧ -9223372036854775808 ≤ ce[i].h ∧ ce[i].h ≤ 9223372036854775807 := by
  have he : Ent ce [] ce[i].key ce[i].h := ⟨ce[i], .inl (List.getElem_mem hi), rfl, rfl⟩
  obtain ⟨j, hj, hu, hkj⟩ := h.ent _ (h.back _ _ hk he)
  have h1 := (h.used j hj hu).2
  rw [hkj] at h1
  have e := ent_uniq h.tb hk he h1
  have hsl := h.ar.slots j hj
  have hm := h.ar.most
  refine ⟨j, hj, ?_, hkj, ?_, ?_⟩
  · rw [e]; exact h.at hj hu
  · have h1 := hsl.1; omega
  · have h2 := hsl.2.1; omega

set_option maxRecDepth 100000 in
set_option maxHeartbeats 4000000 in
theorem handlesI {w : World} {A : NA} {N : Nr} (h : InN N) (hA : RdN w A N) :
    Calls Tryz.prog 46 #[neV A N] w fun e w' => e = .returned (.bool true) ∧ Below w.heap.size w w' := by
  have hl := h.small
  have BX := hide1 (And.intro (show Blk (w.alloc (.cells #[.slice A.a N.sl.length A.ac, .int .i64 N.fr, .slice A.c N.ce.length A.cc, .slice A.o N.od.length A.oc, .int .i64 N.mv, .int .i64 N.wm, .slice A.w N.w.length A.wc, .int .i64 N.tm, .slice A.t N.t.length A.tc, .int .i64 N.sm, .slice A.s N.s.length A.sc, .slice A.k N.sk.length A.kc, .int .i64 N.ad, .int .i64 N.dr] 40)) w.heap.size 40 (neC A N) from Blk.new w 40 _) ((Below.refl w.heap.size w).alloc (Nat.le_refl _) (.cells #[.slice A.a N.sl.length A.ac, .int .i64 N.fr, .slice A.c N.ce.length A.cc, .slice A.o N.od.length A.oc, .int .i64 N.mv, .int .i64 N.wm, .slice A.w N.w.length A.wc, .int .i64 N.tm, .slice A.t N.t.length A.tc, .int .i64 N.sm, .slice A.s N.s.length A.sc, .slice A.k N.sk.length A.kc, .int .i64 N.ad, .int .i64 N.dr] 40)))
  have C1 := hide1 (fun w' (hb : Below w.heap.size w w') => roomOf_any A.a N.sl A.ac N.fr w' hl.fa (hA.fa.later hb))
  unfold arV at C1
  have HC := hide1 hA.fc
  have HI := hide1 h
  have hcl : N.ce.length ≤ 1048576 := hl.fc
  have hcl' : (N.ce.length : Int) ≤ 1048576 := by omega
  clear hA hl h
  unfold neV
  go_enter Tryz.func46, Tryz.ntmps46
  go_wp2_with fail
  generalize (w.alloc (.cells #[.slice A.a N.sl.length A.ac, .int .i64 N.fr, .slice A.c N.ce.length A.cc, .slice A.o N.od.length A.oc, .int .i64 N.mv, .int .i64 N.wm, .slice A.w N.w.length A.wc, .int .i64 N.tm, .slice A.t N.t.length A.tc, .int .i64 N.sm, .slice A.s N.s.length A.sc, .slice A.k N.sk.length A.kc, .int .i64 N.ad, .int .i64 N.dr] 40)) = w0 at BX ⊢
  obtain ⟨K0, B0⟩ := BX.out
  have K0 := hide1 K0
  have B0 := hide1 B0
  clear BX
  refine (C1.out w0 B0.out).mono ?_
  rintro e w1 ⟨⟨r, p, V, rfl, hr, ho, hc, hR, hk⟩ | ⟨rfl, hn⟩, hb1⟩
  rotate_left
  · exact absurd HI.out.inT.ar hn
  have HR := hide1 hR
  have HO := hide1 ho
  have K1 := hide1 (K0.out.below hb1 K0.out.lt)
  have B1 := hide1 (B0.out.trans (hb1.mono B0.out.size))
  have hrl := hR.lt
  clear hb1 C1 K0 B0 hc hk hR ho hr
  have x2 : w1.cell? ⟨w.heap.size, 2, none⟩ = some (.slice A.c N.ce.length A.cc) := K1.out.cell 2
  go_wp2
  go_loopw [21] (fun iv wr => ∃ i : Nat, i ≤ N.ce.length ∧ iv = .int .i64 (i : Int) ∧ Hid (Below w1.heap.size w1 wr)) (fun iv _ => N.ce.length - (intOf iv).toNat)
  case atStart => exact ⟨0, by omega, rfl, Below.refl _ _⟩
  case round =>
    obtain ⟨i, hi, rfl, hbel⟩ := hrel
    by_cases hlt : i < N.ce.length
    · have k1 : (i : Int) < (N.ce.length : Int) := by omega
      have BW : Below w.heap.size w wr := B1.out.trans (hbel.out.mono B1.out.size)
      obtain ⟨g, hao, hg, y0, y1⟩ := (HC.out.later BW).at i hlt
      have HCE := hide1 (fun hk => HI.out.inT.cell hlt hk)
      generalize hcell : N.ce[i] = c at *
      rw [hao]
      clear hcell hao BW
      obtain ⟨ky, hd⟩ := c
      simp only at y0 y1 HCE
      have NX := hide1 (And.intro (Blk.new wr 102 #[.string ky, .int .i64 hd]) ((Below.refl wr.heap.size wr).alloc (Nat.le_refl _) (.cells #[.string ky, .int .i64 hd] 102)))
      by_cases hk : ky.toList = []
      · have qe : ky.toList.isEmpty = true := by rw [hk]; rfl
        have hb2 := hide1 (hbel.out.trans (NX.out.2.mono hbel.out.size))
        clear HCE NX hk hbel
        go_wp2
        go_roundw
        case rel => exact ⟨i + 1, by omega, by go_num, hb2⟩
        case measure => simp [intOf]; omega
      · have qe : ky.toList.isEmpty = false := by cases e : ky.toList with | nil => exact absurd e hk | cons a b => rfl
        obtain ⟨j, hj, hat, hkj, hd1, hd2⟩ := HCE.out hk
        have HAT := hide1 hat
        have HKJ := hide1 hkj
        clear HCE hk hat hkj
        go_wp2_with fail
        generalize (wr.alloc (.cells #[.string ky, .int .i64 hd] 102)) = wn at NX ⊢
        obtain ⟨KN, BN⟩ := NX.out
        have BH := hide1 (hbel.out.trans (BN.mono hbel.out.size))
        have HRn := hide1 (HR.out.below BH.out hrl)
        have KN := hide1 KN
        clear NX BN hbel y0 y1
        refine (placeOfA_any HRn.out HO.out hd hd1 hd2).mono ?_
        rintro e w2 ⟨⟨k, rfl, hk⟩ | ⟨rfl, hn⟩, hw⟩
        rotate_left
        · exact absurd HAT.out (hn j)
        obtain rfl : k = j := AtA.det hk HAT.out
        have hw := hw.symm
        subst hw
        have n24 := HO.out.most
        have k24 : (k : Int) < 24 := by omega
        obtain ⟨_, _, y2, _, _⟩ := HRn.out.of n24 k hj
        rw [HKJ.out] at y2
        have yc : wn.cell? ⟨wr.heap.size, 0, none⟩ = some (.string ky) := KN.out.cell 0
        have qq : (ky.toList != ky.toList) = false := by simp
        clear hk HRn KN HAT HKJ
        go_wp2_with fail
        go_quiet (fail)
        all_goals go_wp2
        all_goals go_roundw
        case rel => exact ⟨i + 1, by omega, by go_num, by have := BH.out; first | exact this | exact this.drew | exact below_drewN this _⟩
        case measure => simp [intOf]; omega
    · obtain rfl : i = N.ce.length := by omega
      have hb2 := hide1 (B1.out.trans (hbel.out.mono B1.out.size))
      go_wp2
      go_ret
      exact ⟨rfl, hb2.out⟩
end Go.Proofs.YtenmpciimocggaaGreat
