/- SeekKey answers as its model at every argument. -/
import Derived.Test.YtahglnojllkjdaaRows
import Derived.ProofKit
import Derived.OpenShut
import Derived.ShutString
import Derived.ChangeOld
import Derived.Test.YtahglnojllkjdaaTabV
namespace Go.Proofs.Ytahglnojllkjdaa
open Go.ChangeShapes Go.WideShapes Go.ChangeAt Go.RowKit
open Go.ChangeMaps (open_string shut_string)
set_option linter.unusedVariables false

set_option maxRecDepth 100000 in
set_option maxHeartbeats 8000000 in
theorem walk_FnExactSeekKey (ao a' : Option Addr) (l o : List Ce) (ca ca' : Nat) (mv : Int) (a1 : ByteArray) (w : World) (hR : RdJ w ao l) (hQ : RdJ w a' o) (hl : l.length ≤ maxLen ∧ ∀ i (h : i < l.length), l[i].key.size ≤ maxLen) (hm : o.length ≤ maxLen ∧ ∀ i (h : i < o.length), o[i].key.size ≤ maxLen) (w1 : a1.size ≤ maxLen) :
    Calls Try.prog 6 #[tbV ao l.length ca a' o.length ca' mv, .string a1] w fun e w' => e = .returned (.bool true) ∧ Below w.heap.size w w' := by
  have B0 := fun (w : World) o => (Below.refl w.heap.size w).alloc (Nat.le_refl _) o
  have CZ := hide1 (fun o1 => szTable_any ao a' l o ca ca' mv (w.alloc o1) hl.1 hm.1 (hR.later (B0 w o1)) (hQ.later (B0 w o1)) hl.2 hm.2)
  have HR := hide1 hR
  have HQ := hide1 hQ
  unfold tbV at CZ ⊢
  clear hR hQ hl hm
  unfold maxLen at w1
  by_cases hs : a1.size ≤ 1048576
  · have q : decide (1048576 < (a1.size : Int)) = false := decide_eq_false (by omega)
    go_enter Try.func6, Try.ntmps6
    go_wp2_with fail
    refine (CZ.out _).mono ?_
    rintro e w1 ⟨hr, hb1⟩
    have V1 := hide1 (VarT.box hb1)
    have B1 := hide1 (box_below hb1)
    clear hb1 CZ
    rcases hr with rfl | ⟨r, rfl, hsm, hsm'⟩
    · go_wp2
      go_ret
      exact ⟨rfl, B1.out⟩
    have qr : decide ((r : Int) < 0) = false := by simp
    have hn := hsm.1
    have hn' := hsm'.1
    clear hsm hsm'
    obtain ⟨hs1, x0, x1, x2⟩ := V1.out.cells
    have T2 := hide1 (toTable_own ao a' l o ca ca' mv w1 hn hn' (HR.out.later B1.out) (HQ.out.later B1.out))
    unfold tbV at T2
    go_wp2_with fail
    refine T2.out.mono ?_
    rintro e w2 ⟨b2, c2, d2, e2, rfl, ho2, hb2⟩
    have RD2 := hide1 ho2.rd
    have B2 := hide1 (B1.out.trans (hb2.mono B1.out.size))
    have V2 := hide1 (V1.out.later hb2)
    clear ho2 hb2 T2 x0 x1 x2 V1
    have S3 := hide1 (specSeekKey_any b2 d2 l o c2 e2 mv a1 w2 hn hn' hs RD2.out.1 RD2.out.2)
    unfold tbV at S3
    go_wp2_with fail
    refine S3.out.mono ?_
    rintro e w3 ⟨hv, t, rfl, hx, hb3⟩
    have B3 := hide1 (B2.out.trans (hb3.mono B2.out.size))
    have V3 := hide1 (V2.out.later hb3)
    clear hb3 S3 V2 RD2
    have HX := hide1 hx
    clear hx
    obtain ⟨hs3, x0, x1, x2⟩ := V3.out.cells
    have T4 := hide1 (toTable_own ao a' l o ca ca' mv w3 hn hn' (HR.out.later B3.out) (HQ.out.later B3.out))
    unfold tbV at T4
    go_wp2_with fail
    refine T4.out.mono ?_
    rintro e w4 ⟨b4, c4, d4, e4, rfl, ho4, hb4⟩
    have B4 := hide1 (B3.out.trans (hb4.mono B3.out.size))
    have V4 := hide1 (V3.out.later hb4)
    have RD4 := hide1 ho4.rd
    clear ho4 hb4 T4 x0 x1 x2 V3
    have I5 := hide1 (fun o1 => implSeek_any b4 d4 l o c4 e4 mv a1 (w4.alloc o1) hn hn' hs (RD4.out.1.later (B0 w4 o1)).toJ (RD4.out.2.later (B0 w4 o1)).toJ)
    unfold tbV at I5
    go_wp2_with fail
    refine (I5.out _).mono ?_
    rintro e w5 ⟨hv', t', rfl, hy, hb5⟩
    have XV := hide1 (VarT.box hb5)
    have B45 := hide1 (box_below hb5)
    have B5 := hide1 (B4.out.trans (B45.out.mono B4.out.size))
    have V5 := hide1 (V4.out.later B45.out)
    have RX := hide1 (show RdC w5 b4 l ∧ RdC w5 d4 o from ⟨RD4.out.1.later B45.out, RD4.out.2.later B45.out⟩)
    clear hb5 I5 V4 RD4
    obtain ⟨rfl, rfl⟩ := hy.det HX.out
    have qe : (t' != t') = false := by simp
    have qf : (hv' != hv') = false := by simp
    clear hy
    have CT := hide1 (fun w' (hb : Below w5.heap.size w5 w') => toTable_own ao a' l o ca ca' mv w' hn hn' (HR.out.later (B5.out.trans (hb.mono B5.out.size))) (HQ.out.later (B5.out.trans (hb.mono B5.out.size))))
    unfold tbV at CT
    obtain ⟨mX, z0, z1, z2⟩ := XV.out.cells
    obtain ⟨mS, x0, x1, x2⟩ := V5.out.cells
    have ZX := hide1 (And.intro z0 (And.intro z1 (And.intro z2 (And.intro x0 (And.intro x1 x2)))))
    go_wp2
    go_region_held3 (fun w' => w'.cell? ⟨w4.heap.size, 0, none⟩ = some (.slice b4 l.length c4) ∧ w'.cell? ⟨w4.heap.size, 1, none⟩ = some (.slice d4 o.length e4) ∧ w'.cell? ⟨w4.heap.size, 2, none⟩ = some (.int .i64 mv) ∧ w'.cell? ⟨w.heap.size, 0, none⟩ = some (.slice ao l.length ca) ∧ w'.cell? ⟨w.heap.size, 1, none⟩ = some (.slice a' o.length ca') ∧ w'.cell? ⟨w.heap.size, 2, none⟩ = some (.int .i64 mv)) (first | go_keep | exact ⟨(D8.out.cell mX).trans ZX.out.1, (D8.out.cell mX).trans ZX.out.2.1, (D8.out.cell mX).trans ZX.out.2.2.1, (D8.out.cell mS).trans ZX.out.2.2.2.1, (D8.out.cell mS).trans ZX.out.2.2.2.2.1, (D8.out.cell mS).trans ZX.out.2.2.2.2.2⟩ | exact ⟨(D7.out.cell mX).trans ZX.out.1, (D7.out.cell mX).trans ZX.out.2.1, (D7.out.cell mX).trans ZX.out.2.2.1, (D7.out.cell mS).trans ZX.out.2.2.2.1, (D7.out.cell mS).trans ZX.out.2.2.2.2.1, (D7.out.cell mS).trans ZX.out.2.2.2.2.2⟩) ((first | (go_at_call 17; refine (CE.out _ (by go_grown)).mono ?_; rintro e w8 ⟨rfl, hb8⟩; have D8 : Hid (Below w5.heap.size w5 w8) := (D7.out.trans (show Below w5.heap.size w7 _ by go_grown)).trans (hb8.mono (by have := D7.out.size; go_size)); clear hb8) | (go_at_call 22; refine (CT.out _ (by go_grown)).mono ?_; rintro e w7 ⟨b7, c7, d7, e7, rfl, ho7, hb7⟩; have D7 : Hid (Below w5.heap.size w5 w7) := (show Below w5.heap.size w5 _ by go_grown).trans hb7; have CE := hide1 (fun w' (hb : Below w7.heap.size w7 w') => eqTable_same b4 b7 d4 d7 l o c4 c7 e4 e7 mv w' hn hn' (RX.out.1.later (D7.out.trans (hb.mono D7.out.size))) (ho7.rd.1.later hb) (RX.out.2.later (D7.out.trans (hb.mono D7.out.size))) (ho7.rd.2.later hb)); unfold tbV at CE; clear ho7)))
    clear z0 z1 z2 x0 x1 x2 ZX CT CE D7 hb7 mX mS
    go_wp2
    go_ret
    exact ⟨rfl, B5.out.trans (D8.out.mono B5.out.size)⟩
  · have q : decide (1048576 < (a1.size : Int)) = true := decide_eq_true (by omega)
    have HB := hide1 (B0 w (.cells #[.slice ao l.length ca, .slice a' o.length ca', .int .i64 mv] 34))
    clear CZ
    go_enter Try.func6, Try.ntmps6
    go_wp2
    go_ret
    exact ⟨rfl, by first | exact HB.out | exact Below.refl _ _⟩

set_option maxRecDepth 100000 in
theorem lifted_FnExactSeekKey (os : Os) (started : os.Started) (H : Type) (enc : TypeId × Value → H) :
    ReturnsInHanded {} Try.checked os 6 .any (Rows.fnExactSeekKeySpec.pre6 enc Try.prog Try.f6 Rows.fnExactSeekKeyRow.domain false) (Rows.fnExactSeekKeySpec.post enc Try.prog Try.f6 false true false false) := by
  refine returnsInHanded_of_change (C := Try.checked) (show ownKnob Try.prog.godebug = none by kernel_rfl) started (by kernel_rfl) Try.func6
    (ChangeSpec.witness6 (enc := enc) (C := Try.checked) false ⟨#[], #[.agg #[.slice none 0 0, .slice none 0 0, .int .i64 0], .string ByteArray.empty], []⟩ 8 (by kernel_rfl) (by kernel_rfl) (by kernel_rfl) (by kernel_rfl)) ?_
  intro W base args ds gs before hval0 hW hcnd _
  have hval : ∀ (j : Nat) t v, Try.f6.params[j]? = some t → args[j]? = some v → Value.okWide Try.prog W .any base t v := hval0
  have hW' := hW
  obtain ⟨p, q, hA0, hV, rfl, hfz, hnd⟩ := hW
  have hA : DataW.TrodAll enc Try.prog W 0 (fun _ => true) true Try.f6.params.toList args.toList ds p := hA0
  rw [Try.params6] at hA hval
  obtain ⟨v0, vs0, d0, ds0, p0, q0, hargs, rfl, rfl, h0, r0⟩ := trodAll_cons hA
  obtain ⟨v1, vs1, d1, ds1, p1, q1, rfl, rfl, rfl, h1, r1⟩ := trodAll_cons r0
  obtain ⟨rfl, rfl, rfl⟩ := trodAll_nil r1
  obtain rfl : args = #[v0, v1] := by cases args; simp_all
  obtain ⟨rfl, rfl⟩ := trodVars_none hV
  have k0 := h0
  have lt0 : ∀ x ∈ p0, x.block < W.heap.size := by obtain ⟨m, hm⟩ := k0; exact DataW.trod_lt m _ _ _ hm
  obtain ⟨ao0, l0, ca0, b0, o0, cb0, m0, rfl, hR0, hQ0, hl0, hm0⟩ := open_table (hval 0 34 v0 rfl rfl) h0
  obtain ⟨a1, rfl, rfl, rfl, w1⟩ := open_string Try.underlying9 (hval 1 9 v1 rfl rfl) h1
  clear hA0 hval0
  try simp only [List.append_nil] at hW'
  refine (walk_FnExactSeekKey ao0 b0 l0 o0 ca0 cb0 m0 a1 W hR0 hQ0 hl0 hm0 w1).mono fun e W' ⟨he, bel⟩ => ?_
  subst he
  exact ⟨_, rfl, _, _, _, [], _, [], hW', trodAll_mk1 (shut_bool Try.underlying4 _), (trodAll_cons_mk (Below.trod (show laidOutB Try.prog = true by kernel_rfl) (by kernel_rfl) (of_decide_eq_true (by kernel_rfl)) k0 bel lt0) (trodAll_cons_mk (shut_string Try.underlying9 w1) trodAll_mk0)), rfl, bel.frame _, fun h => by cases h⟩

theorem proved_FnExactSeekKey : Rows.FnExactSeekKeySaid :=
  OpenClaim.holds_of_wide 6 Try.f6 rfl rfl rfl rfl rfl rfl rfl ⟨rfl, rfl, rfl, rfl, rfl⟩ rfl rfl rfl rfl rfl (by kernel_rfl) Try.func6 (by kernel_rfl)
    (of_decide_eq_true (by kernel_rfl)) (by unfold Func.isWrapper; first | (rw [if_pos (by decide +kernel)]; kernel_rfl) | (rw [if_neg (by decide +kernel)]; exact ⟨rfl, rfl⟩))
    (fun os started H enc _ => lifted_FnExactSeekKey os started H enc)
#print axioms proved_FnExactSeekKey
end Go.Proofs.Ytahglnojllkjdaa
