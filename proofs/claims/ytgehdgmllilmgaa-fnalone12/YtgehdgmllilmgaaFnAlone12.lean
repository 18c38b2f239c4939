/- One proposer whose notes are all carried has its value chosen. -/
import Derived.Test.YtgehdgmllilmgaaRows
import Derived.ProofKit
import Derived.OpenShut
import Derived.ShutString
import Derived.ChangeOld
import Derived.Test.YtgehdgmllilmgaaLawB
import Derived.Test.YtgehdgmllilmgaaYD
import Derived.Test.YtgehdgmllilmgaaYQ
import Derived.Test.YtgehdgmllilmgaaCnY
import Derived.Test.YtgehdgmllilmgaaCnZ
import Derived.Test.YtgehdgmllilmgaaCoEq
import Derived.Test.YtgehdgmllilmgaaYR
namespace Go.Proofs.Ytgehdgmllilmgaa
open Go.ChangeShapes Go.WideShapes Go.ChangeAt Go.RowKit
open Go.ChangeMaps (open_string shut_string)
set_option linter.unusedVariables false

theorem alone_next (i : Nat) : (⟨1, 1, 0, itT⟩ :: List.replicate i aloneC : List Hp) ++ [aloneC] = ⟨1, 1, 0, itT⟩ :: List.replicate (i + 1) aloneC := by
  rw [List.cons_append, ← List.replicate_succ']
theorem alone_at {n : Nat} {R : Cn × List Int × Bool} (e : runR n 1 (aloneE n) = R) (h : 1 ≤ n ∧ n ≤ 5) : R.2.2 = true ∧ R.1.ch = [itT] ∧ ∃ t, R.1.ts[0]? = some t ∧ t.ch = true ∧ t.b = 1 := by
  obtain ⟨h1, h2, h3⟩ := alone_run n h
  unfold aloneT at h3
  rw [e] at h1 h2 h3
  refine ⟨h1, h2, ?_⟩
  cases hq : R.1.ts[0]? with
  | none => rw [hq] at h3; cases h3
  | some t =>
    rw [hq] at h3
    simp only [Option.map_some, Option.some.injEq, Prod.mk.injEq] at h3
    exact ⟨t, rfl, h3.1, h3.2⟩
set_option maxRecDepth 100000 in
set_option maxHeartbeats 4000000 in
theorem walk_FnAlone12 (a : Option Addr) (len cap : Nat) (w : World) (hr : RowB w a len) :
    Calls Try.prog 5 #[.slice a len cap] w fun e w' => e = .returned (.bool true) ∧ Below w.heap.size w w' := by
  by_cases hbig : len ≤ 1048576
  · have CB := hide1 (big11_no a len cap w hbig)
    have CD := hide1 (drawPl_any w a len cap (hr.code hbig))
    clear hr
    go_enter Try.func5, Try.ntmps5
    go_wp2_with fail
    refine CB.out.mono ?_
    rintro e w1 ⟨rfl, rfl⟩
    clear CB
    go_wp2_with fail
    refine CD.out.mono ?_
    rintro e w1 ⟨xs, p, c1, hxl, hxs, rfl, hp1, hp2, hxc, hb1⟩
    have x0 := hxc 0 (by omega)
    have hy := hxs xs[0] (List.getElem_mem (by omega))
    have B1 := hide1 hb1
    generalize xs[0]'(by omega) = y at *
    obtain ⟨q, hq⟩ : ∃ q, y % 5 = q := ⟨_, rfl⟩
    have hmod : Int.tmod (y : Int) 5 = (q : Int) := by rw [Int.tmod_eq_emod_of_nonneg (by omega)]; omega
    obtain ⟨n, hn⟩ : ∃ n, 1 + q = n := ⟨_, rfl⟩
    obtain ⟨m, hm⟩ : ∃ m, 5 * n = m := ⟨_, rfl⟩
    have hnb : 1 ≤ n ∧ n ≤ 5 := by omega
    have hmb : m ≤ 25 := by omega
    have hadd : (1 : Int) + (q : Int) = (n : Int) := by omega
    have hmul : 5 * (n : Int) = (m : Int) := by omega
    have hwn : IntKind.i64.wrap (n : Int) = (n : Int) := IntWalk.i64_in _ ⟨by omega, by omega⟩
    have hwm : IntKind.i64.wrap (m : Int) = (m : Int) := IntWalk.i64_in _ ⟨by omega, by omega⟩
    have HNB := hide1 (And.intro hnb hm)
    clear hxc hxl hxs hb1 CD hq hn hnb hm
    have FE := hide1 (And.intro (Blk.new w1 40 #[.int .i64 1, .int .i64 1, .int .i64 0, .string itT]) ((Below.refl w1.heap.size w1).alloc (Nat.le_refl _) (.cells #[.int .i64 1, .int .i64 1, .int .i64 0, .string itT] 40)))
    unfold itT at FE
    go_upto_region 5 with fail
    generalize (w1.alloc (.cells #[.int .i64 1, .int .i64 1, .int .i64 0, .string ⟨#[105, 116]⟩] 40)) = u at FE ⊢
    have OE := hide1 (own_blk (base := w1.heap.size) (n := 1) (k := 4) FE.out.1 rfl (by unfold maxLen; omega) (Nat.le_refl _))
    have BU := hide1 (B1.out.trans (FE.out.2.mono B1.out.size))
    have lu : w1.heap.size ≤ u.heap.size := FE.out.2.size
    have lw1 : w.heap.size ≤ w1.heap.size := B1.out.size
    clear FE
    obtain ⟨bs, hbs⟩ : ∃ b, b = w1.heap.size := ⟨_, rfl⟩
    rw [← hbs] at OE lu ⊢
    have hbw : w.heap.size ≤ bs := by omega
    clear hbs x0 hp1 hp2 B1
    go_wp2
    go_loopw [5, 4] (fun iv ev wr => ∃ i : Nat, i ≤ m ∧ iv = .int .i64 (i : Int) ∧ ∃ eb ec, ev = .slice eb (i + 1) ec ∧ Hid (wr.ownsRow bs 40 4 (.slice eb (i + 1) ec) (i + 1) (rowG hpC (⟨1, 1, 0, itT⟩ :: List.replicate i aloneC))) ∧ Hid (Below w.heap.size w wr) ∧ bs ≤ wr.heap.size) (fun iv _ _ => m - (intOf iv).toNat)
    case atStart => exact ⟨0, by omega, rfl, _, _, rfl, OE, BU, lu⟩
    case round =>
      obtain ⟨i, hi, rfl, eb, ec, rfl, OB, BB, lbs⟩ := hrel
      by_cases hlt : i < m
      · have k1 : (i : Int) < (m : Int) := by omega
        have FL := hide1 (And.intro (Blk.new wr 40 #[.int .i64 2, .int .i64 1, .int .i64 0, .string ⟨#[]⟩]) ((Below.refl wr.heap.size wr).alloc (Nat.le_refl _) (.cells #[.int .i64 2, .int .i64 1, .int .i64 0, .string ⟨#[]⟩] 40)))
        go_wp2_with (at_builtin; (refine wpList_push1G encH rowH rfl (.tmp 25) (.tmp 27) rfl bs eb (i + 1) ec (⟨1, 1, 0, itT⟩ :: List.replicate i aloneC) rfl (OB.out.alloc _) wr.heap.size aloneC rfl FL.out.1 (by omega) (by rw [World.size_alloc]; omega) ?_; intro b5 c5 w5 ho5 hb5; have E5 : Hid (Below bs wr w5) := (FL.out.2.mono lbs).trans hb5; have O5 := hide1 ho5; clear ho5 hb5))
        rw [alone_next] at O5
        go_roundw
        case rel => exact ⟨i + 1, by omega, by go_num, b5, c5, rfl, O5, hide1 (BB.out.trans (E5.out.mono hbw)), Nat.le_trans lbs E5.out.size⟩
        case measure => simp [intOf]; omega
      · obtain rfl : i = m := by omega
        have k1 : ¬ ((i : Int) < (i : Int)) := by omega
        obtain ⟨R, hR⟩ : ∃ R, runR (n : Int) 1 (aloneE n) = R := ⟨_, rfl⟩
        have HA := hide1 (alone_at hR HNB.out.1)
        have CR := hide1 (implRun_any (n : Int) 1 eb ec (aloneE n) R wr (by rw [alone_len]; have := HNB.out; omega) (alone_z n) (rdG_of_own encH.len (by have e1 := HNB.out.2; have := OB.out; unfold aloneE; rw [e1]; exact this) (by rw [alone_len]; have := HNB.out; omega)) hR)
        rw [alone_len, HNB.out.2] at CR
        clear hR OB
        go_wp2_with fail
        refine CR.out.mono ?_
        rintro e w2 ⟨⟨A, cb, cc, rfl, hO, _, _⟩, hb2⟩
        clear CR
        obtain ⟨ha1, ha2, t, ha3, ha4, ha5⟩ := HA.out
        have hlen := (List.getElem?_eq_some_iff.1 ha3).1
        have hL := hO.len
        obtain ⟨tb, to_, hta, htb, htc⟩ := (rdG_of_own encT.len hO.t hL) 0 (by omega)
        have hte : A.L[0].y = t := by
          have := hO.e
          have h0 : (A.L.map (·.y))[0]? = some t := by rw [this]; exact ha3
          rw [List.getElem?_map, List.getElem?_eq_getElem (by omega)] at h0
          simpa using h0
        have z6 : w2.cell? ⟨tb, to_ + 6, none⟩ = some (.bool true) := by
          have := htc 6 (by omega)
          rw [Nat.zero_mul, Nat.add_zero] at this
          rw [this]
          show some (Value.bool A.L[0].y.ch) = _
          rw [hte, ha4]
        have z1 : w2.cell? ⟨tb, to_ + 1, none⟩ = some (.int .i64 1) := by
          have := htc 1 (by omega)
          rw [Nat.zero_mul, Nat.add_zero] at this
          rw [this]
          show some (Value.int .i64 A.L[0].y.b) = _
          rw [hte, ha5]
        have hqc : RdQ w2 A.ca [itT] := by
          have := rdQ_of (rdG_of_own encX.len hO.c rfl)
          rwa [ha2] at this
        rw [hta, ha1, ha2]
        have lbw : 0 < R.1.ts.length := hlen
        have B2 := hide1 (BB.out.trans (hb2.mono BB.out.size))
        have CS := hide1 (And.intro (Blk.new w2 32 #[.slice A.va R.1.vs.length A.vc, .slice (some ⟨tb, to_, none⟩) R.1.ts.length A.tc, .slice A.na R.1.ns.length A.nc, .slice A.ca 1 A.cc]) ((Below.refl w2.heap.size w2).alloc (Nat.le_refl _) (.cells #[.slice A.va R.1.vs.length A.vc, .slice (some ⟨tb, to_, none⟩) R.1.ts.length A.tc, .slice A.na R.1.ns.length A.nc, .slice A.ca 1 A.cc] 32)))
        have HQC := hide1 hqc
        have hkt : (0 : Int) < (R.1.ts.length : Int) := by omega
        clear hqc htc hte ha1 ha2 ha3 ha4 ha5 HA hL hta hO hb2 BB lbs
        generalize R.1.ts.length = tl at *
        generalize R.1.vs.length = vl at *
        generalize R.1.ns.length = nl at *
        go_upto_region 10 with fail
        generalize (w2.alloc (.cells #[.slice A.va vl A.vc, .slice (some ⟨tb, to_, none⟩) tl A.tc, .slice A.na nl A.nc, .slice A.ca 1 A.cc] 32)) = w3 at CS ⊢
        obtain ⟨G, hG⟩ : ∃ G, G = w2.heap.size := ⟨_, rfl⟩
        have K3 := hide1 CS.out.1
        rw [← hG] at K3 ⊢
        have g3 : w3.cell? ⟨G, 3, none⟩ = some (.slice A.ca 1 A.cc) := K3.out.cell 3
        have lG : G < w3.heap.size := K3.out.lt
        have ltb : tb < w3.heap.size := by omega
        have B3 := hide1 (B2.out.trans (CS.out.2.mono B2.out.size))
        have FT := hide1 (And.intro (Blk.new w3 9 #[.string itT]) ((Below.refl w3.heap.size w3).alloc (Nat.le_refl _) (.cells #[.string itT] 9)))
        have CT := hide1 (sameT_any A.ca (some ⟨w3.heap.size, 0, none⟩) [itT] [itT] A.cc 1 (w3.alloc (.cells #[.string itT] 9)) (by simp) ((HQC.out.later CS.out.2).later FT.out.2) (rdQ_of (rd_one (y := itT) encX FT.out.1)))
        have z6' : w3.cell? ⟨tb, to_ + 6, none⟩ = some (.bool true) := (CS.out.2.cell (p := ⟨tb, to_ + 6, none⟩) htb).trans z6
        have z1' : w3.cell? ⟨tb, to_ + 1, none⟩ = some (.int .i64 1) := (CS.out.2.cell (p := ⟨tb, to_ + 1, none⟩) htb).trans z1
        clear z6 z1 hG CS HQC B2
        unfold itT at CT FT
        go_wp2_with (go_at_call 15; refine CT.out.mono ?_; rintro e w4 ⟨x, rfl, hx, hb4⟩; (obtain rfl : x = true := hx.2 rfl); have E4 : Hid (Below w3.heap.size w3 w4) := FT.out.2.trans (hb4.mono FT.out.2.size); have y1 : w4.cell? ⟨G, 1, none⟩ = some (.slice (some ⟨tb, to_, none⟩) tl A.tc) := (E4.out.cell (p := ⟨G, 1, none⟩) lG).trans (K3.out.cell 1); have y6 : w4.cell? ⟨tb, to_ + 6, none⟩ = some (.bool true) := (E4.out.cell (p := ⟨tb, to_ + 6, none⟩) ltb).trans z6'; have y7 : w4.cell? ⟨tb, to_ + 1, none⟩ = some (.int .i64 1) := (E4.out.cell (p := ⟨tb, to_ + 1, none⟩) ltb).trans z1'; clear hb4 hx)
        go_ret
        exact ⟨rfl, B3.out.trans (E4.out.mono B3.out.size)⟩
  · have CB := hide1 (big11_yes a len cap w hbig)
    go_enter Try.func5, Try.ntmps5
    go_wp2_with fail
    refine CB.out.mono ?_
    rintro e w1 ⟨rfl, rfl⟩
    go_wp2
    go_ret
    exact ⟨rfl, Below.refl _ _⟩

set_option maxRecDepth 100000 in
theorem lifted_FnAlone12 (os : Os) (started : os.Started) (H : Type) (enc : TypeId × Value → H) :
    ReturnsInHanded {} Try.checked os 5 .any (Rows.fnAlone12Spec.pre6 enc Try.prog Try.f5 Rows.fnAlone12Row.domain false) (Rows.fnAlone12Spec.post enc Try.prog Try.f5 false true false false) := by
  refine returnsInHanded_of_change (C := Try.checked) (show ownKnob Try.prog.godebug = none by kernel_rfl) started (by kernel_rfl) Try.func5
    (ChangeSpec.witness6 (enc := enc) (C := Try.checked) false ⟨#[], #[.slice none 0 0], []⟩ 8 (by kernel_rfl) (by kernel_rfl) (by kernel_rfl) (by kernel_rfl)) ?_
  intro W base args ds gs before hval0 hW hcnd _
  have hval : ∀ (j : Nat) t v, Try.f5.params[j]? = some t → args[j]? = some v → Value.okWide Try.prog W .any base t v := hval0
  have hW' := hW
  obtain ⟨p, q, hA0, hV, rfl, hfz, hnd⟩ := hW
  have hA : DataW.TrodAll enc Try.prog W 0 (fun _ => true) true Try.f5.params.toList args.toList ds p := hA0
  rw [Try.params5] at hA hval
  obtain ⟨v0, d0, rfl, rfl, h0⟩ := trodAll_one hA
  obtain ⟨rfl, rfl⟩ := trodVars_none hV
  obtain ⟨a0, len0, cap0, rfl⟩ := okWide_slice Try.underlying22 (hval 0 22 v0 rfl rfl)
  have k0 := h0
  have lt0 : ∀ x ∈ p, x.block < W.heap.size := by obtain ⟨m, hm⟩ := k0; exact DataW.trod_lt m _ _ _ hm
  have r0 : RowB W a0 len0 := by
    obtain ⟨fuel, hf⟩ := h0
    rcases Go.ChangeShapes.open_ints Try.underlying22 Try.underlying5 (by kernel_rfl) hf with ⟨hcs, _⟩ | ⟨x, l, c, zs, hcs, _, hl, hm, hz, _, hcell, hwz⟩
    · simp [Value.cells] at hcs
      obtain ⟨rfl, rfl, rfl⟩ := hcs
      exact fun j hj => absurd hj (Nat.not_lt_zero _)
    · simp [Value.cells] at hcs
      obtain ⟨rfl, rfl, rfl⟩ := hcs
      exact rowB_of hl (by simpa using hz) hcell (fun n hn => bounds_u8 (hwz n hn))
  clear hA0 hval0
  refine (walk_FnAlone12 a0 len0 cap0 W r0).mono fun e W' ⟨he, bel⟩ => ?_
  subst he
  exact ⟨_, rfl, _, _, _, [], _, [], hW', trodAll_mk1 (shut_bool Try.underlying4 _), trodAll_mk1 (Below.trod (show laidOutB Try.prog = true by kernel_rfl) (by kernel_rfl) (of_decide_eq_true (by kernel_rfl)) k0 bel lt0), rfl, bel.frame _, fun h => by cases h⟩

theorem proved_FnAlone12 : Rows.FnAlone12Said :=
  OpenClaim.holds_of_wide 5 Try.f5 rfl rfl rfl rfl rfl rfl rfl ⟨rfl, rfl, rfl, rfl, rfl⟩ rfl rfl rfl rfl rfl (by kernel_rfl) Try.func5 (by kernel_rfl)
    (of_decide_eq_true (by kernel_rfl)) (by unfold Func.isWrapper; first | (rw [if_pos (by decide +kernel)]; kernel_rfl) | (rw [if_neg (by decide +kernel)]; exact ⟨rfl, rfl⟩))
    (fun os started H enc _ => lifted_FnAlone12 os started H enc)
#print axioms proved_FnAlone12
end Go.Proofs.Ytgehdgmllilmgaa
