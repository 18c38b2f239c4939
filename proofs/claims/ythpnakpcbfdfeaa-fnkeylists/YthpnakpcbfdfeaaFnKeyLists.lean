/- The keys of a drawn table ascend, and are those that are found: whatever is drawn. -/
import Derived.Test.YthpnakpcbfdfeaaRows
import Derived.ProofKit
import Derived.OpenShut
import Derived.ShutString
import Derived.ChangeOld
import Derived.Test.YthpnakpcbfdfeaaXO
namespace Go.Proofs.Ythpnakpcbfdfeaa
open Go.ChangeShapes Go.WideShapes Go.ChangeAt Go.RowKit
open Go.ChangeMaps (open_string shut_string)
set_option linter.unusedVariables false

theorem ent_new (n : Nat) : sortE (entT (List.replicate n nC) []) = [] := by
  have h : keyed (List.replicate n nC) = [] := by
    unfold keyed
    rw [List.filter_eq_nil_iff]
    intro x hx
    rw [List.eq_of_mem_replicate hx, nC_no]
    simp
  unfold entT
  rw [h]
  rfl

theorem rdT2 {w : World} {base n ca : Nat} {lo : Option Addr} {ks : List ByteArray} (h : w.ownsRow base 9 1 (.slice lo n ca) n (sc ks)) : ∀ j (hj : j < ks.length), ∃ g, lo = some ⟨g, 0, none⟩ ∧ g < w.heap.size ∧ w.cell? ⟨g, j, none⟩ = some (.string ks[j]) := by
  intro j hj
  have hn : ks.length = n := by have := h.1; rw [sc_length] at this; omega
  rcases h.2 with ⟨hv, h0⟩ | ⟨g, cap, cur, hv, hb, hh, r⟩
  · omega
  · injection hv with h1 h2 h3
    subst h1
    refine ⟨g, rfl, (Array.getElem?_eq_some_iff.1 hh).1, ?_⟩
    rw [h.cellAt j (by omega)]
    unfold sc
    rw [List.getElem?_map, List.getElem?_eq_getElem hj]
    rfl
theorem cntK_le (ks : List ByteArray) : ∀ i, cntK ks i ≤ i
  | 0 => Nat.le_refl _
  | i + 1 => by
    have := cntK_le ks i
    rw [cntK]
    split <;> omega

set_option maxRecDepth 100000 in
set_option maxHeartbeats 8000000 in
theorem walk_FnKeyLists (a : Option Addr) (len cap : Nat) (w : World) (hr : RowB w a len) :
    Calls Try.prog 7 #[.slice a len cap] w fun e w' => e = .returned (.bool true) ∧ Below w.heap.size w w' := by
  by_cases hbig : len ≤ 1048576
  · have CB := hide1 (big4_no a len cap w hbig)
    have CD := hide1 (drawRT_any w a len cap (hr.code hbig))
    unfold tbV at CD
    clear hr
    go_enter Try.func7, Try.ntmps7
    go_wp2_with fail
    refine CB.out.mono ?_
    rintro e w1 ⟨rfl, rfl⟩
    go_wp2_with fail
    refine CD.out.mono ?_
    rintro e w1 ⟨l, o, m, ao, ca, a', ca', ky, rfl, hok, hkin, _, ho1, ho2, hb1⟩
    have HOK := hide1 (okN_iff.2 hok)
    have hln := HOK.out.len
    have HKI := hide1 (keys_in HOK.out hkin)
    have F1 : Hid (RdC (w1.alloc (.cells #[.slice ao l.length ca, .slice a' o.length ca', .int .i64 (m : Int)] 29)) ao l ∧ RdC (w1.alloc (.cells #[.slice ao l.length ca, .slice a' o.length ca', .int .i64 (m : Int)] 29)) a' o ∧ Blk (w1.alloc (.cells #[.slice ao l.length ca, .slice a' o.length ca', .int .i64 (m : Int)] 29)) w1.heap.size 29 [.slice ao l.length ca, .slice a' o.length ca', .int .i64 (m : Int)] ∧ Below w.heap.size w (w1.alloc (.cells #[.slice ao l.length ca, .slice a' o.length ca', .int .i64 (m : Int)] 29))) :=
      ⟨rdC_of_own (ho1.alloc _), rdC_of_own (ho2.alloc _), Blk.new w1 _ _, hb1.alloc hb1.size _⟩
    clear hok hkin ho1 ho2 hb1 CB CD
    go_upto_region 4 with fail
    generalize (w1.alloc (.cells #[.slice ao l.length ca, .slice a' o.length ca', .int .i64 (m : Int)] 29)) = w2 at F1 ⊢
    obtain ⟨RD, RD', BA, BW⟩ := F1.out
    generalize w1.heap.size = A at BA ⊢
    have v0 : w2.cell? ⟨A, 0, none⟩ = some (.slice ao l.length ca) := BA.cell 0
    have v1 : w2.cell? ⟨A, 1, none⟩ = some (.slice a' o.length ca') := BA.cell 1
    have v2 : w2.cell? ⟨A, 2, none⟩ = some (.int .i64 (m : Int)) := BA.cell 2
    have RD := hide1 RD
    have RD' := hide1 RD'
    have BA := hide1 BA
    have BW := hide1 BW
    have CK := hide1 (implKeys_any ao a' l o ca ca' (m : Int) w2 (by omega) (by omega) RD.out.toJ RD'.out.toJ)
    unfold tbV at CK
    clear F1
    go_wp2_with fail
    refine CK.out.mono ?_
    rintro e w3 ⟨po, ks, pc, rfl, hka, hko, hb3⟩
    have hks : ks = keysL (sortE (entT l o)) := by
      rcases hka with ⟨_, h⟩ | ⟨h, _⟩
      · exact h
      · exact absurd HOK.out h
    have HKS := hide1 hks
    have hsm := hka.small
    have RD3 := hide1 (show RdC w3 ao l ∧ RdC w3 a' o from ⟨RD.out.later hb3, RD'.out.later hb3⟩)
    have BA3 := hide1 (BA.out.below hb3 BA.out.lt)
    have BW3 := hide1 (BW.out.trans (hb3.mono BW.out.size))
    have HKO := hide1 hko
    have CN := hide1 (names_any w3)
    clear hka hko hb3 CK hks v0 v1 v2 RD RD' BA BW
    go_wp2_with fail
    refine CN.out.mono ?_
    rintro e w4 ⟨rfl, hnm, hlt4, hb4⟩
    have HNM := hide1 hnm
    have RD4 := hide1 (show RdC w4 ao l ∧ RdC w4 a' o from ⟨RD3.out.1.later hb4, RD3.out.2.later hb4⟩)
    have BA4 := hide1 (BA3.out.below hb4 BA3.out.lt)
    have BW4 := hide1 (BW3.out.trans (hb4.mono BW3.out.size))
    have KO4 := hide1 (own_below HKO.out hb4)
    generalize w3.heap.size = N at *
    clear hnm hb4 CN RD3 BA3 BW3 HKO
    have hA4 : A < w4.heap.size := BA4.out.lt
    go_wp2
    go_loopw [7, 8] (fun nv iv wr => ∃ i : Nat, i ≤ 12 ∧ iv = .int .i64 (i : Int) ∧ nv = .int .i64 (cntK ks i : Int) ∧ Hid (Below w4.heap.size w4 wr)) (fun _ iv _ => 12 - (intOf iv).toNat)
    case atStart => exact ⟨0, by omega, rfl, rfl, Below.refl _ _⟩
    case round =>
      obtain ⟨i, hi, rfl, rfl, hbel⟩ := hrel
      have BR := hide1 (BA4.out.below hbel.out hA4)
      by_cases hlt : i < 12
      · have k1 : (i : Int) < 12 := by omega
        have x3 : wr.cell? ⟨N, i, none⟩ = some (.string (nmL i)) := (hbel.out.cell (p := ⟨N, i, none⟩) hlt4).trans (HNM.out i hlt)
        have hik : InK (nmL i) := ⟨i, hlt, rfl⟩
        have HSZ := hide1 hik.size
        have CX := hide1 (fun w' (hb : Below wr.heap.size wr w') => implSeek_any ao a' l o ca ca' (m : Int) (nmL i) w' (by omega) (by omega) (by have := HSZ.out; omega) (RD4.out.1.later (hbel.out.trans (hb.mono hbel.out.size))).toJ (RD4.out.2.later (hbel.out.trans (hb.mono hbel.out.size))).toJ)
        unfold tbV at CX
        have KW := hide1 (keys_seek HOK.out (key_ne HSZ.out.1))
        rw [← HKS.out] at KW
        have hcl := cntK_le ks i
        have HCT := hide1 (fun (h : nmL i ∈ ks) => show cntK ks (i + 1) = cntK ks i + 1 by rw [cntK, if_pos h])
        have HCF := hide1 (fun (h : nmL i ∉ ks) => show cntK ks (i + 1) = cntK ks i by rw [cntK, if_neg h]; rfl)
        generalize cntK ks i = cn at *
        generalize nmL i = nm at *
        have x0 : wr.cell? ⟨A, 0, none⟩ = some (.slice ao l.length ca) := BR.out.cell 0
        have x1 : wr.cell? ⟨A, 1, none⟩ = some (.slice a' o.length ca') := BR.out.cell 1
        have x2 : wr.cell? ⟨A, 2, none⟩ = some (.int .i64 (m : Int)) := BR.out.cell 2
        have hAr := BR.out.lt
        have hNr : N < wr.heap.size := Nat.lt_of_lt_of_le hlt4 hbel.out.size
        have Z := hide1 (And.intro x0 (And.intro x1 (And.intro x2 x3)))
        have KO5 := hide1 (fun w' (hb : Below w4.heap.size w4 w') => own_below KO4.out hb)
        clear hik
        go_upto_region 10 with fail
        go_region_held3 (fun w' => w'.cell? ⟨A, 0, none⟩ = some (.slice ao l.length ca) ∧ w'.cell? ⟨A, 1, none⟩ = some (.slice a' o.length ca') ∧ w'.cell? ⟨A, 2, none⟩ = some (.int .i64 (m : Int)) ∧ w'.cell? ⟨N, i, none⟩ = some (.string nm)) (first | go_keep | exact Z.out | exact ⟨(E5.out.cell hAr).trans Z.out.1, (E5.out.cell hAr).trans Z.out.2.1, (E5.out.cell hAr).trans Z.out.2.2.1, (E5.out.cell hNr).trans Z.out.2.2.2⟩) ((go_at_call 16; refine (CX.out _ (show Below wr.heap.size wr _ by go_grown)).mono ?_; rintro e w5 ⟨hv, tv, rfl, hsk, hb5⟩; have E5 : Hid (Below wr.heap.size wr w5) := (show Below wr.heap.size wr _ by go_grown).trans hb5; have HSK := hide1 hsk; clear hsk hb5))
        have y3 : w5.cell? ⟨N, i, none⟩ = some (.string nm) := (E5.out.cell (p := ⟨N, i, none⟩) hNr).trans Z.out.2.2.2
        have B5 := hide1 (hbel.out.trans (E5.out.mono hbel.out.size))
        have CH := hide1 (has_any po ks pc nm w5 (by omega) (rdT2 (KO5.out _ B5.out)))
        clear x0 x1 x2 x3 Z CX E5 KO5 BR
        go_wp2_with fail
        refine CH.out.mono ?_
        rintro e w6 ⟨t2, rfl, ht2, hw6⟩
        subst hw6
        have htt : tv = true ↔ nm ∈ ks := by
          rw [← KW.out]
          rcases HSK.out with ⟨h1, h2, h3, h4⟩ | ⟨h1, h2, h3⟩
          · exact ⟨fun _ => ⟨_, h4⟩, fun _ => h1⟩
          · exact ⟨(fun h => by rw [h1] at h; cases h), fun h => absurd ⟨HOK.out, key_ne HSZ.out.1, h⟩ h3⟩
        obtain rfl : t2 = tv := by
          cases t2 <;> cases tv <;> simp_all
        have HT2 := hide1 htt
        clear ht2 htt CH HSK y3
        rcases t2 with _ | _
        · have HCM := hide1 (HCF.out (fun h => by have := HT2.out.2 h; cases this))
          clear HCT HCF HT2 KW
          go_wp2
          go_roundw
          case rel => exact ⟨i + 1, by omega, by go_num, by rw [HCM.out], B5⟩
          case measure => simp [intOf]; omega
        · have HCM := hide1 (HCT.out (HT2.out.1 rfl))
          clear HCT HCF HT2 KW
          go_wp2
          go_roundw
          case rel => exact ⟨i + 1, by omega, by go_num, by rw [HCM.out]; go_num, B5⟩
          case measure => simp [intOf]; omega
      · obtain rfl : i = 12 := by omega
        have HC := hide1 (show cntK ks 12 = ks.length from cntK_all ks (by rw [HKS.out]; exact keys_nodup HOK.out) (fun k hk => HKI.out k (by rw [← HKS.out]; exact hk)))
        have HASC := hide1 (show ∀ j (hj : j + 1 < ks.length), Op.bytesLess ks[j].toList ks[j + 1].toList = true by
          intro j hj
          have hp := (sortE_asc (dis_ent HOK.out)).1
          have hl : (sortE (entT l o)).length = ks.length := by rw [HKS.out, keysL_length]
          have := List.pairwise_iff_getElem.1 hp j (j + 1) (by omega) (by omega) (by omega)
          have e1 : ks[j] = (sortE (entT l o))[j].key := by simp only [HKS.out, keysL, List.getElem_map]
          have e2 : ks[j + 1] = (sortE (entT l o))[j + 1].key := by simp only [HKS.out, keysL, List.getElem_map]
          rw [e1, e2]
          exact this)
        have KB := hide1 (rdT2 KO4.out)
        rw [HC.out]
        clear hlt BR hi
        go_wp2
        go_loopw [11] (fun jv wq => ∃ j : Nat, (j = 0 ∨ j + 1 ≤ ks.length) ∧ jv = .int .i64 ((j : Int) + 1) ∧ Hid (Below w4.heap.size w4 wq)) (fun jv _ => ks.length - (intOf jv).toNat)
        case atStart => exact ⟨0, .inl rfl, by go_num, hbel⟩
        case round =>
          clear hbel
          obtain ⟨j, hj, rfl, hbel⟩ := hrel
          by_cases hjl : j + 1 < ks.length
          · have k1 : (j : Int) + 1 < (ks.length : Int) := by omega
            have k2 : (j : Int) < (ks.length : Int) := by omega
            obtain ⟨kb, hpo, hkb, hc0⟩ := KB.out j (by omega)
            obtain ⟨kb', hpo', _, hc1⟩ := KB.out (j + 1) hjl
            obtain rfl : kb = kb' := by rw [hpo] at hpo'; injection hpo' with e; injection e
            have x0 : wr.cell? ⟨kb, j, none⟩ = some (.string ks[j]) := (hbel.out.cell (p := ⟨kb, j, none⟩) hkb).trans hc0
            have x1 : wr.cell? ⟨kb, j + 1, none⟩ = some (.string ks[j + 1]) := (hbel.out.cell (p := ⟨kb, j + 1, none⟩) hkb).trans hc1
            have hq := HASC.out j hjl
            have wm : IntKind.i64.wrap ((j : Int) + 1 - 1) = (j : Int) := by rw [Int.add_sub_cancel]; exact IntWalk.i64_in _ ⟨by omega, by omega⟩
            have tn : ((j : Int) + 1).toNat = j + 1 := by omega
            generalize ks[j] = s0 at *
            generalize ks[j + 1] = s1 at *
            rw [hpo]
            clear hc0 hc1 hpo hpo'
            go_wp2
            go_region
            all_goals go_wp2
            all_goals
              go_roundw
              case rel => exact ⟨j + 1, .inr (by omega), by go_num, by first | exact hbel | exact hbel.out.drew⟩
              case measure => simp [intOf]; omega
          · have k1 : decide ((j : Int) + 1 < (ks.length : Int)) = false := decide_eq_false (by omega)
            have BQ := hide1 (BW4.out.trans (hbel.out.mono BW4.out.size))
            have CT := hide1 (implNew_any 8 wr)
            clear hbel hj
            go_wp2_with fail
            refine CT.out.mono ?_
            rintro e w7 ⟨p, L0, c, p', O0, c', M0, t0, rfl, ha, o1, o2, _, hb7⟩
            have hans : L0 = List.replicate 8 nC ∧ O0 = [] ∧ M0 = 0 ∧ t0 = true := by
              rcases ha with ⟨_, h2, h3⟩ | ⟨h1, _⟩
              · unfold newR at h2
                injection h2 with h2
                injection h2 with e1 e2
                injection e2 with e2 e3
                exact ⟨e1.symm, e2.symm, e3.symm, h3⟩
              · exact absurd ⟨show szOk 8 by unfold szOk; omega, _, rfl⟩ h1
            obtain ⟨rfl, rfl, rfl, rfl⟩ := hans
            have F8 : Hid (RdC (w7.alloc (.cells #[.slice p 8 c, .slice p' 0 c', .int .i64 0] 29)) p (List.replicate 8 nC) ∧ RdC (w7.alloc (.cells #[.slice p 8 c, .slice p' 0 c', .int .i64 0] 29)) p' [] ∧ Blk (w7.alloc (.cells #[.slice p 8 c, .slice p' 0 c', .int .i64 0] 29)) w7.heap.size 29 [.slice p 8 c, .slice p' 0 c', .int .i64 0] ∧ Below w.heap.size w (w7.alloc (.cells #[.slice p 8 c, .slice p' 0 c', .int .i64 0] 29))) :=
              ⟨rdC_of_own (o1.alloc _), rdC_of_own (o2.alloc _), Blk.new w7 _ _, (BQ.out.trans (hb7.mono BQ.out.size)).alloc (Nat.le_trans BQ.out.size hb7.size) _⟩
            clear ha o1 o2 hb7 CT BQ
            unfold tbV
            rw [List.length_replicate, List.length_nil]
            go_upto_region 21 with fail
            generalize (w7.alloc (.cells #[.slice p 8 c, .slice p' 0 c', .int .i64 0] 29)) = w8 at F8 ⊢
            obtain ⟨RD8, RE8, BK8, BW8⟩ := F8.out
            have v0 : w8.cell? ⟨w7.heap.size, 0, none⟩ = some (.slice p 8 c) := BK8.cell 0
            have v1 : w8.cell? ⟨w7.heap.size, 1, none⟩ = some (.slice p' 0 c') := BK8.cell 1
            have v2 : w8.cell? ⟨w7.heap.size, 2, none⟩ = some (.int .i64 0) := BK8.cell 2
            have CK2 := hide1 (implKeys_any p p' (List.replicate 8 nC) [] c c' 0 w8 (by rw [List.length_replicate]; omega) (by simp) RD8.toJ RE8.toJ)
            have CO := hide1 (fun w' (hb : Below w8.heap.size w8 w') => implTOk_any p p' (List.replicate 8 nC) [] c c' 0 w' (by rw [List.length_replicate]; omega) (by simp) (RD8.later hb).toJ (RE8.later hb).toJ)
            unfold tbV at CK2 CO
            rw [List.length_replicate, List.length_nil] at CK2 CO
            have OK8 := hide1 (okN_iff.2 (OkN.new (n := 8) (by omega)))
            have qn : ((ks.length : Int) == (ks.length : Int)) = true := by simp
            have BK8 := hide1 BK8
            have BW8 := hide1 BW8
            clear F8 RD8 RE8
            go_wp2_with fail
            refine CK2.out.mono ?_
            rintro e w9 ⟨po2, ks2, pc2, rfl, hka2, _, hb9⟩
            obtain rfl : ks2 = [] := by
              rcases hka2 with ⟨_, h⟩ | ⟨_, h⟩
              · rw [h, ent_new]; rfl
              · exact h
            have u0 : w9.cell? ⟨w7.heap.size, 0, none⟩ = some (.slice p 8 c) := (hb9.cell (p := ⟨w7.heap.size, 0, none⟩) BK8.out.lt).trans v0
            have u1 : w9.cell? ⟨w7.heap.size, 1, none⟩ = some (.slice p' 0 c') := (hb9.cell (p := ⟨w7.heap.size, 1, none⟩) BK8.out.lt).trans v1
            have u2 : w9.cell? ⟨w7.heap.size, 2, none⟩ = some (.int .i64 0) := (hb9.cell (p := ⟨w7.heap.size, 2, none⟩) BK8.out.lt).trans v2
            have CO9 := hide1 (CO.out w9 hb9)
            have BW9 := hide1 (BW8.out.trans (hb9.mono BW8.out.size))
            clear hka2 hb9 CK2 CO v0 v1 v2
            rw [List.length_nil]
            go_wp2_with fail
            refine CO9.out.mono ?_
            rintro e w10 ⟨x, rfl, hx, hb10⟩
            obtain rfl : x = true := hx.2 OK8.out
            have BWA := hide1 (BW9.out.trans (hb10.mono BW9.out.size))
            clear hx hb10 CO9
            go_wp2
            go_ret
            exact ⟨rfl, BWA.out⟩
  · have CB := hide1 (big4_yes a len cap w hbig)
    go_enter Try.func7, Try.ntmps7
    go_wp2_with fail
    refine CB.out.mono ?_
    rintro e w1 ⟨rfl, rfl⟩
    go_wp2
    go_ret
    exact ⟨rfl, Below.refl _ _⟩

set_option maxRecDepth 100000 in
theorem lifted_FnKeyLists (os : Os) (started : os.Started) (H : Type) (enc : TypeId × Value → H) :
    ReturnsInHanded {} Try.checked os 7 .any (Rows.fnKeyListsSpec.pre6 enc Try.prog Try.f7 Rows.fnKeyListsRow.domain false) (Rows.fnKeyListsSpec.post enc Try.prog Try.f7 false true false false) := by
  refine returnsInHanded_of_change (C := Try.checked) (show ownKnob Try.prog.godebug = none by kernel_rfl) started (by kernel_rfl) Try.func7
    (ChangeSpec.witness6 (enc := enc) (C := Try.checked) false ⟨#[], #[.slice none 0 0], []⟩ 8 (by kernel_rfl) (by kernel_rfl) (by kernel_rfl) (by kernel_rfl)) ?_
  intro W base args ds gs before hval0 hW hcnd _
  have hval : ∀ (j : Nat) t v, Try.f7.params[j]? = some t → args[j]? = some v → Value.okWide Try.prog W .any base t v := hval0
  have hW' := hW
  obtain ⟨p, q, hA0, hV, rfl, hfz, hnd⟩ := hW
  have hA : DataW.TrodAll enc Try.prog W 0 (fun _ => true) true Try.f7.params.toList args.toList ds p := hA0
  rw [Try.params7] at hA hval
  obtain ⟨v0, d0, rfl, rfl, h0⟩ := trodAll_one hA
  obtain ⟨rfl, rfl⟩ := trodVars_none hV
  obtain ⟨a0, len0, cap0, rfl⟩ := okWide_slice Try.underlying22 (hval 0 22 v0 rfl rfl)
  have k0 := h0
  have lt0 : ∀ x ∈ p, x.block < W.heap.size := by obtain ⟨m, hm⟩ := k0; exact DataW.trod_lt m _ _ _ hm
  have r0 : RowB W a0 len0 := by
    obtain ⟨fuel, hf⟩ := h0
    rcases open_ints Try.underlying22 Try.underlying5 (by kernel_rfl) hf with ⟨hcs, _⟩ | ⟨x, l, c, zs, hcs, _, hl, hm, hz, _, hcell, hwz⟩
    · simp [Value.cells] at hcs
      obtain ⟨rfl, rfl, rfl⟩ := hcs
      exact fun j hj => absurd hj (Nat.not_lt_zero _)
    · simp [Value.cells] at hcs
      obtain ⟨rfl, rfl, rfl⟩ := hcs
      exact rowB_of hl (by simpa using hz) hcell (fun n hn => bounds_u8 (hwz n hn))
  clear hA0 hval0
  refine (walk_FnKeyLists a0 len0 cap0 W r0).mono fun e W' ⟨he, bel⟩ => ?_
  subst he
  exact ⟨_, rfl, _, _, _, [], _, [], hW', trodAll_mk1 (shut_bool Try.underlying4 _), trodAll_mk1 (Below.trod (show laidOutB Try.prog = true by kernel_rfl) (by kernel_rfl) (of_decide_eq_true (by kernel_rfl)) k0 bel lt0), rfl, bel.frame _, fun h => by cases h⟩

theorem proved_FnKeyLists : Rows.FnKeyListsSaid :=
  OpenClaim.holds_of_wide 7 Try.f7 rfl rfl rfl rfl rfl rfl rfl ⟨rfl, rfl, rfl, rfl, rfl⟩ rfl rfl rfl rfl rfl (by kernel_rfl) Try.func7 (by kernel_rfl)
    (of_decide_eq_true (by kernel_rfl)) (by unfold Func.isWrapper; first | (rw [if_pos (by decide +kernel)]; kernel_rfl) | (rw [if_neg (by decide +kernel)]; exact ⟨rfl, rfl⟩))
    (fun os started H enc _ => lifted_FnKeyLists os started H enc)
#print axioms proved_FnKeyLists
end Go.Proofs.Ythpnakpcbfdfeaa
