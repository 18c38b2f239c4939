/- Each slot of a drawn place that is used has a handle that finds it, two of them have unlike ones, others have none: whatever is drawn. -/
import Derived.Test.YtpckbhficjjogaaRows
import Derived.ProofKit
import Derived.OpenShut
import Derived.ShutString
import Derived.ChangeOld
import Derived.Test.YtpckbhficjjogaaLawA
namespace Go.Proofs.Ytpckbhficjjogaa
open Go.ChangeShapes Go.WideShapes Go.ChangeAt Go.RowKit
open Go.ChangeMaps (open_string shut_string)
set_option linter.unusedVariables false

theorem icI_append (L M : List Int) : icI (L ++ M) = icI L ++ icI M := by simp [icI]

set_option maxRecDepth 100000 in
set_option maxHeartbeats 4000000 in
theorem walk_FnHandles (a : Option Addr) (len cap : Nat) (w : World) (hr : RowB w a len) :
    Calls Try.prog 4 #[.slice a len cap] w fun e w' => e = .returned (.bool true) ∧ Below w.heap.size w w' := by
  by_cases hbig : len ≤ 1048576
  · have CB := hide1 (big3_no a len cap w hbig)
    have CD := hide1 (drawRight_any w a len cap (hr.code hbig))
    obtain ⟨i0, hi0, hz0, hz1, hz2⟩ := info_parts Try.infoInt3
    clear hr
    go_enter Try.func4, Try.ntmps4
    go_wp2_with fail
    refine CB.out.mono ?_
    rintro e w1 ⟨rfl, rfl⟩
    go_wp2_with fail
    refine CD.out.mono ?_
    rintro e w1 ⟨b, c, l, f, ky, vl, rfl, hok, _, hown, hb1⟩
    have n24 := hok.most
    have n1 := hok.least
    have HOK := hide1 hok
    have F1 : Hid (RdA (w1.alloc (.cells #[.slice (some ⟨b, 0, none⟩) l.length c, .int .i64 f] 26)) (some ⟨b, 0, none⟩) l ∧ Blk (w1.alloc (.cells #[.slice (some ⟨b, 0, none⟩) l.length c, .int .i64 f] 26)) w1.heap.size 26 [.slice (some ⟨b, 0, none⟩) l.length c, .int .i64 f] ∧ Below w.heap.size w (w1.alloc (.cells #[.slice (some ⟨b, 0, none⟩) l.length c, .int .i64 f] 26))) :=
      ⟨rdA_of_own (own_kept hown ((Below.refl _ _).alloc (Nat.le_refl _) _)), Blk.new w1 _ _, hb1.alloc hb1.size _⟩
    clear hok hown hb1 CB CD
    go_upto_region 4 with fail
    generalize (w1.alloc (.cells #[.slice (some ⟨b, 0, none⟩) l.length c, .int .i64 f] 26)) = w2 at F1 ⊢
    obtain ⟨RD, BA, BW⟩ := F1.out
    have RD := hide1 RD
    have BA := hide1 BA
    have BW := hide1 BW
    generalize w1.heap.size = A at BA ⊢
    have hA2 : Hid (A < w2.heap.size) := BA.out.lt
    clear F1
    go_wp2
    go_loopw [6, 7] (fun lv iv wr => ∃ (i : Nat) (L : List Int) (lo : Option Addr) (lc : Nat), i ≤ l.length ∧ iv = .int .i64 (i : Int) ∧ lv = .slice lo L.length lc ∧ Hid (wr.ownsRow w2.heap.size 3 1 (.slice lo L.length lc) L.length (icI L)) ∧ Hid (∀ x ∈ L, ∃ j, j < i ∧ x = hnd l j) ∧ Hid (L.length = usedN l i) ∧ Hid (Below w2.heap.size w2 wr)) (fun _ iv _ => l.length - (intOf iv).toNat)
    case atStart => exact ⟨0, [], _, _, by omega, rfl, rfl, owns_empty w2 3, (fun x hx => by cases hx), rfl, (Below.refl _ _).alloc (Nat.le_refl _) _⟩
    case round =>
      obtain ⟨i, L, lo, lc, hi, rfl, rfl, hown, hL, hLn, hbel⟩ := hrel
      have RR := hide1 (RD.out.later hbel.out)
      have BR := hide1 (BA.out.below hbel.out hA2.out)
      have v0 : wr.cell? ⟨A, 0, none⟩ = some (.slice (some ⟨b, 0, none⟩) l.length c) := BR.out.cell 0
      have v1 : wr.cell? ⟨A, 1, none⟩ = some (.int .i64 f) := BR.out.cell 1
      have BWr : Hid (Below w.heap.size w wr) := BW.out.trans (hbel.out.mono BW.out.size)
      by_cases hlt : i < l.length
      · have k1 : (i : Int) < (l.length : Int) := by omega
        have hun : Hid (usedN l (i + 1) = usedN l i + (if l[i].used = true then 1 else 0)) := by
          show usedN l (i + 1) = _
          rw [usedN, List.getElem?_eq_getElem hlt]
          simp
        rcases hu : l[i].used with _ | _
        · have CH := hide1 (kHandleNo (ca := c) HOK.out RR.out (p := (i : Int)) (by rintro ⟨j, hj, e, h⟩; obtain rfl : i = j := (by omega); rw [hu] at h; cases h))
          go_wp2_with fail
          refine CH.out.mono ?_
          rintro e w3 ⟨rfl, hb3⟩
          have B3 := hide1 (hbel.out.trans (hb3.mono hbel.out.size))
          have O3 := hide1 (own_kept hown.out hb3)
          have v0 := (hb3.cell (p := ⟨A, 0, none⟩) BR.out.lt).trans v0
          obtain ⟨b0, hb0, _, hsl⟩ := (RR.out.later hb3).at i hlt
          obtain rfl : b = b0 := by simpa using hb0
          obtain ⟨_, y1, _, _, _⟩ := hsl
          rw [hu] at y1 hun
          clear hu CH hb3 hown hb0 RR BR hbel BWr
          go_wp2
          go_roundw
          case rel => exact ⟨i + 1, L, lo, lc, by omega, by go_num, rfl, O3, (fun x hx => by obtain ⟨j, h1, h2⟩ := hL.out x hx; exact ⟨j, by omega, h2⟩), by show L.length = _; rw [hun.out, hLn.out]; rfl, B3⟩
          case measure => simp [intOf]; omega
        · have CH := hide1 (kHandle (ca := c) HOK.out RR.out hlt hu)
          obtain ⟨g1, g2, g3, g4⟩ := HOK.out.hnd_in hlt
          have HAT := hide1 (HOK.out.hnd_AtA hlt hu)
          have q1 : decide (0 ≤ hnd l i) = true := decide_eq_true g1
          have q2 : decide (hnd l i < 0) = false := decide_eq_false (by omega)
          have HNI : Hid (hnd l i ∉ L) := fun hx => by
            obtain ⟨j, hj, e⟩ := hL.out _ hx
            have hjl : j < l.length := by omega
            have := (HOK.out.hnd_in hjl).2.2.1
            rw [← e] at this
            omega
          have HL2 : Hid (∀ x ∈ L ++ [hnd l i], ∃ j, j < i + 1 ∧ x = hnd l j) := fun x hx => by
            rcases List.mem_append.1 hx with h | h
            · obtain ⟨j, h1, h2⟩ := hL.out x h; exact ⟨j, by omega, h2⟩
            · simp at h; exact ⟨i, by omega, h⟩
          have G2 := hide1 g2
          have LL : L.length ≤ 24 := by rw [hLn.out]; have := usedN_le l i; omega
          clear g1 g2 g3 g4
          generalize hnd l i = hv at *
          go_wp2_with fail
          refine CH.out.mono ?_
          rintro e w3 ⟨rfl, hb3⟩
          have R3 := hide1 (RR.out.later hb3)
          have Bk3 := hide1 (BR.out.below hb3 BR.out.lt)
          have B3 := hide1 (hbel.out.trans (hb3.mono hbel.out.size))
          have O3 := hide1 (own_kept hown.out hb3)
          have v0 : w3.cell? ⟨A, 0, none⟩ = some (.slice (some ⟨b, 0, none⟩) l.length c) := Bk3.out.cell 0
          have v1 : w3.cell? ⟨A, 1, none⟩ = some (.int .i64 f) := Bk3.out.cell 1
          obtain ⟨b0, hb0, _, hsl⟩ := R3.out.at i hlt
          obtain rfl : b = b0 := by simpa using hb0
          have y1 := hsl.2.1
          rw [hu] at y1 hun
          have CL := hide1 (kLook (ca := c) R3.out hlt HAT.out G2.out)
          clear hu CH hb3 hown hb0 hsl RR BR hbel BWr
          go_wp2_with fail
          refine CL.out.mono ?_
          rintro e w4 ⟨rfl, hb4⟩
          have R4 := hide1 (R3.out.later hb4)
          have Bk4 := hide1 (Bk3.out.below hb4 Bk3.out.lt)
          have B4 := hide1 (B3.out.trans (hb4.mono B3.out.size))
          have O4 := hide1 (own_kept O3.out hb4)
          have v0 : w4.cell? ⟨A, 0, none⟩ = some (.slice (some ⟨b, 0, none⟩) l.length c) := Bk4.out.cell 0
          obtain ⟨b0, hb0, _, hsl⟩ := R4.out.at i hlt
          obtain rfl : b = b0 := by simpa using hb0
          have y2 := hsl.2.2.1
          have y3 := hsl.2.2.2.1
          have CI := hide1 (lawIn_any (.slice lo L.length lc) L hv w2.heap.size w4 (by omega) O4.out)
          generalize l[i].key = lk at *
          generalize l[i].val = lw at *
          have qk : (lk.toList == lk.toList) = true := by simp
          have qv : (lw.toList == lw.toList) = true := by simp
          clear CL hb4 hb0 hsl R3 Bk3 B3 O3
          go_wp2_with fail
          refine CI.out.mono ?_
          rintro e w5 ⟨yy, rfl, hy, rfl⟩
          have hyf : yy = false := by
            rcases yy with _ | _
            · rfl
            · exact absurd (hy.1 rfl) HNI.out
          subst hyf
          clear hy CI
          have LN : Hid ((L ++ [hv]).length = usedN l (i + 1)) := by show (L ++ [hv]).length = _; rw [hun.out, List.length_append, hLn.out]; rfl
          go_wp2_with (at_builtin; (refine wpList_push1 rfl _ _ 37 rfl w2.heap.size 3 i0 (.int .i64 0) 8 Try.underlying37 hi0 hz0 hz1 hz2 rfl (by decide) _ L.length (icI L) rfl O4.out _ rfl rfl (by omega) B4.out.size ?_; intro v' w6 hown6 hb6))
          have O6 : Hid (w6.ownsRow w2.heap.size 3 1 v' (L ++ [hv]).length (icI (L ++ [hv]))) := by
            show w6.ownsRow w2.heap.size 3 1 v' (L ++ [hv]).length (icI (L ++ [hv]))
            rw [icI_append, List.length_append]
            exact hown6
          obtain ⟨lo', lc', rfl⟩ := own_slice O6.out
          have B6 := hide1 (B4.out.trans hb6)
          clear hown6 hb6
          go_wp2
          go_roundw
          case rel => exact ⟨i + 1, L ++ [hv], lo', lc', by omega, by go_num, rfl, O6, HL2, LN, B6⟩
          case measure => simp [intOf]; omega
      · obtain rfl : i = l.length := by omega
        have k1 : decide ((l.length : Int) < (l.length : Int)) = false := by simp
        have CL := hide1 (kLookNo (ca := c) (f := f) (h := -1) n24 RR.out (fun k hk => by have := hk.nonneg; omega) (by omega) (by omega))
        go_wp2_with fail
        refine CL.out.mono ?_
        rintro e w3 ⟨rfl, hb3⟩
        have R3 := hide1 (RR.out.later hb3)
        have Bk3 := hide1 (BR.out.below hb3 BR.out.lt)
        have B3 := hide1 (BWr.out.trans (hb3.mono BWr.out.size))
        have v0 : w3.cell? ⟨A, 0, none⟩ = some (.slice (some ⟨b, 0, none⟩) l.length c) := Bk3.out.cell 0
        have v1 : w3.cell? ⟨A, 1, none⟩ = some (.int .i64 f) := Bk3.out.cell 1
        have CU := hide1 (kUsed (ca := c) HOK.out R3.out)
        clear CL hb3 RR BR BWr hbel hown
        go_wp2_with fail
        refine CU.out.mono ?_
        rintro e w4 ⟨rfl, hb4⟩
        have R4 := hide1 (R3.out.later hb4)
        have Bk4 := hide1 (Bk3.out.below hb4 Bk3.out.lt)
        have B4 := hide1 (B3.out.trans (hb4.mono B3.out.size))
        have v0 : w4.cell? ⟨A, 0, none⟩ = some (.slice (some ⟨b, 0, none⟩) l.length c) := Bk4.out.cell 0
        have v1 : w4.cell? ⟨A, 1, none⟩ = some (.int .i64 f) := Bk4.out.cell 1
        have CO := hide1 (kOk (ca := c) HOK.out R4.out)
        have qn : ((L.length : Int) == (usedN l l.length : Int)) = true := by rw [hLn.out]; simp
        clear CU hb4 R3 Bk3 B3
        go_wp2_with fail
        refine CO.out.mono ?_
        rintro e w5 ⟨rfl, hb5⟩
        have R5 := hide1 (R4.out.later hb5)
        have Bk5 := hide1 (Bk4.out.below hb5 Bk4.out.lt)
        have B5 := hide1 (B4.out.trans (hb5.mono B4.out.size))
        have v0 : w5.cell? ⟨A, 0, none⟩ = some (.slice (some ⟨b, 0, none⟩) l.length c) := Bk5.out.cell 0
        have v1 : w5.cell? ⟨A, 1, none⟩ = some (.int .i64 f) := Bk5.out.cell 1
        have CH := hide1 (kHandleNo (ca := c) HOK.out R5.out (p := (l.length : Int)) (by rintro ⟨j, hj, e, _⟩; omega))
        clear CO hb5 R4 Bk4 B4
        go_wp2_with fail
        refine CH.out.mono ?_
        rintro e w6 ⟨rfl, hb6⟩
        go_wp2
        go_ret
        exact ⟨rfl, B5.out.trans (hb6.mono B5.out.size)⟩
  · have CB := hide1 (big3_yes a len cap w hbig)
    go_enter Try.func4, Try.ntmps4
    go_wp2_with fail
    refine CB.out.mono ?_
    rintro e w1 ⟨rfl, rfl⟩
    go_wp2
    go_ret
    exact ⟨rfl, Below.refl _ _⟩

set_option maxRecDepth 100000 in
theorem lifted_FnHandles (os : Os) (started : os.Started) (H : Type) (enc : TypeId × Value → H) :
    ReturnsInHanded {} Try.checked os 4 .any (Rows.fnHandlesSpec.pre6 enc Try.prog Try.f4 Rows.fnHandlesRow.domain false) (Rows.fnHandlesSpec.post enc Try.prog Try.f4 false true false false) := by
  refine returnsInHanded_of_change (C := Try.checked) (show ownKnob Try.prog.godebug = none by kernel_rfl) started (by kernel_rfl) Try.func4
    (ChangeSpec.witness6 (enc := enc) (C := Try.checked) false ⟨#[], #[.slice none 0 0], []⟩ 8 (by kernel_rfl) (by kernel_rfl) (by kernel_rfl) (by kernel_rfl)) ?_
  intro W base args ds gs before hval0 hW hcnd _
  have hval : ∀ (j : Nat) t v, Try.f4.params[j]? = some t → args[j]? = some v → Value.okWide Try.prog W .any base t v := hval0
  have hW' := hW
  obtain ⟨p, q, hA0, hV, rfl, hfz, hnd⟩ := hW
  have hA : DataW.TrodAll enc Try.prog W 0 (fun _ => true) true Try.f4.params.toList args.toList ds p := hA0
  rw [Try.params4] at hA hval
  obtain ⟨v0, d0, rfl, rfl, h0⟩ := trodAll_one hA
  obtain ⟨rfl, rfl⟩ := trodVars_none hV
  obtain ⟨a0, len0, cap0, rfl⟩ := okWide_slice Try.underlying22 (hval 0 22 v0 rfl rfl)
  have k0 := h0
  have lt0 : ∀ x ∈ p, x.block < W.heap.size := by obtain ⟨m, hm⟩ := k0; exact DataW.trod_lt m _ _ _ hm
  have r0 : RowB W a0 len0 := by
    obtain ⟨fuel, hf⟩ := h0
    rcases open_ints Try.underlying22 Try.underlying5 (by kernel_rfl) hf with ⟨hcs, _⟩ | ⟨x, l, c, zs, hcs, _, hl, hm, hz, _, hcell, hwz⟩
    · simp [Value.cells] at hcs
      obtain ⟨rfl, rfl, rfl⟩ := hcs
      exact fun j hj => absurd hj (Nat.not_lt_zero _)
    · simp [Value.cells] at hcs
      obtain ⟨rfl, rfl, rfl⟩ := hcs
      exact rowB_of hl (by simpa using hz) hcell (fun n hn => bounds_u8 (hwz n hn))
  clear hA0 hval0
  refine (walk_FnHandles a0 len0 cap0 W r0).mono fun e W' ⟨he, bel⟩ => ?_
  subst he
  exact ⟨_, rfl, _, _, _, [], _, [], hW', trodAll_mk1 (shut_bool Try.underlying4 _), trodAll_mk1 (Below.trod (show laidOutB Try.prog = true by kernel_rfl) (by kernel_rfl) (of_decide_eq_true (by kernel_rfl)) k0 bel lt0), rfl, bel.frame _, fun h => by cases h⟩

theorem proved_FnHandles : Rows.FnHandlesSaid :=
  OpenClaim.holds_of_wide 4 Try.f4 rfl rfl rfl rfl rfl rfl rfl ⟨rfl, rfl, rfl, rfl, rfl⟩ rfl rfl rfl rfl rfl (by kernel_rfl) Try.func4 (by kernel_rfl)
    (of_decide_eq_true (by kernel_rfl)) (by unfold Func.isWrapper; first | (rw [if_pos (by decide +kernel)]; kernel_rfl) | (rw [if_neg (by decide +kernel)]; exact ⟨rfl, rfl⟩))
    (fun os started H enc _ => lifted_FnHandles os started H enc)
#print axioms proved_FnHandles
end Go.Proofs.Ytpckbhficjjogaa
