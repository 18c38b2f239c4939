/- OneChosen answers as its model at every argument. -/
import Derived.Test.YtgehdgmllilmgaaRows
import Derived.ProofKit
import Derived.OpenShut
import Derived.ShutString
import Derived.ChangeOld
import Derived.Test.YtgehdgmllilmgaaYU
import Derived.Test.YtgehdgmllilmgaaCnI
namespace Go.Proofs.Ytgehdgmllilmgaa
open Go.ChangeShapes Go.WideShapes Go.ChangeAt Go.RowKit
open Go.ChangeMaps (open_string shut_string)
set_option linter.unusedVariables false

theorem cellsL4 {w : World} {g : Nat} {a b c d : Value} (h : Blk w g 66 [a, b, c, d]) : w.cell? ⟨g, 0, none⟩ = some a ∧ w.cell? ⟨g, 1, none⟩ = some b ∧ w.cell? ⟨g, 2, none⟩ = some c ∧ w.cell? ⟨g, 3, none⟩ = some d := ⟨h.cell 0, h.cell 1, h.cell 2, h.cell 3⟩
set_option maxRecDepth 100000 in
set_option maxHeartbeats 4000000 in
theorem walk_FnExactOneChosen (A : CA) (c : Cn) (w : World) (hR : RdI w A c) (hW : Wf12 A c) :
    Calls Try.prog 9 #[.agg #[.slice A.va c.vs.length A.vc, .slice A.ta c.ts.length A.tc, .slice A.na c.ns.length A.nc, .slice A.ca c.ch.length A.cc]] w fun e w' => e = .returned (.bool true) ∧ Below w.heap.size w w' := by
  have F0 := hide1 (And.intro (Blk.new w 66 #[.slice A.va c.vs.length A.vc, .slice A.ta c.ts.length A.tc, .slice A.na c.ns.length A.nc, .slice A.ca c.ch.length A.cc]) ((Below.refl w.heap.size w).alloc (Nat.le_refl _) (.cells #[.slice A.va c.vs.length A.vc, .slice A.ta c.ts.length A.tc, .slice A.na c.ns.length A.nc, .slice A.ca c.ch.length A.cc] 66)))
  have CZ := hide1 (fun w' (h : Below w.heap.size w w') => szCouncil_any A c w' (hR.later h) hW)
  have CT := hide1 (fun w' (hs : Sm12 c) (h : Below w.heap.size w w') => toCouncil_any A c w' hs (hR.later h))
  clear hR hW
  go_enter Try.func9, Try.ntmps9
  go_upto_region 2 with fail
  generalize (w.alloc (.cells #[.slice A.va c.vs.length A.vc, .slice A.ta c.ts.length A.tc, .slice A.na c.ns.length A.nc, .slice A.ca c.ch.length A.cc] 66)) = u at F0 ⊢
  obtain ⟨G, hG⟩ : ∃ G, G = w.heap.size := ⟨_, rfl⟩
  have K0 := hide1 F0.out.1
  have B0 := hide1 F0.out.2
  rw [← hG] at K0
  rw [show ({block := w.heap.size, off := 0} : Addr) = ⟨G, 0, none⟩ by rw [hG]]
  clear hG F0
  obtain ⟨x0, x1, x2, x3⟩ := cellsL4 K0.out
  go_wp2_with fail
  refine (CZ.out u B0.out).mono ?_
  rintro e w1 ⟨hr, hb1⟩
  have K1 := hide1 (K0.out.below hb1 K0.out.lt)
  have B1 := hide1 (B0.out.trans (hb1.mono B0.out.size))
  clear hb1 K0 B0 CZ x0 x1 x2 x3
  rcases hr with rfl | ⟨r, rfl, hs⟩
  · go_wp2
    go_ret
    exact ⟨rfl, B1.out⟩
  have q0 : decide ((r : Int) < 0) = false := by simp
  have HS := hide1 hs
  have hch := hs.h
  clear hs
  obtain ⟨x0, x1, x2, x3⟩ := cellsL4 K1.out
  go_wp2_with fail
  refine (CT.out w1 HS.out B1.out).mono ?_
  rintro e w2 ⟨⟨M, rfl, hM⟩, hb2⟩
  have R2 := hide1 (hM w2.heap.size (.inr (Nat.le_refl _)))
  have K2 := hide1 (K1.out.below hb2 K1.out.lt)
  have B2 := hide1 (B1.out.trans (hb2.mono B1.out.size))
  clear hM hb2 K1 B1 x0 x1 x2 x3
  go_wp2_with fail
  refine (specOne_any c M w2 hch R2.out.c).mono ?_
  rintro e w3 ⟨rfl, hb3⟩
  have K3 := hide1 (K2.out.below hb3 K2.out.lt)
  have B3 := hide1 (B2.out.trans (hb3.mono B2.out.size))
  clear hb3 K2 B2 R2
  obtain ⟨x0, x1, x2, x3⟩ := cellsL4 K3.out
  go_wp2_with fail
  refine (CT.out w3 HS.out B3.out).mono ?_
  rintro e w4 ⟨⟨N, rfl, hN⟩, hb4⟩
  have R4 := hide1 (hN w4.heap.size (.inr (Nat.le_refl _)))
  have K4 := hide1 (K3.out.below hb4 K3.out.lt)
  have B4 := hide1 (B3.out.trans (hb4.mono B3.out.size))
  clear hN hb4 K3 B3 x0 x1 x2 x3
  have F5 := hide1 (And.intro (Blk.new w4 32 #[.slice N.va c.vs.length N.vc, .slice N.ta c.ts.length N.tc, .slice N.na c.ns.length N.nc, .slice N.ca c.ch.length N.cc]) ((Below.refl w4.heap.size w4).alloc (Nat.le_refl _) (.cells #[.slice N.va c.vs.length N.vc, .slice N.ta c.ts.length N.tc, .slice N.na c.ns.length N.nc, .slice N.ca c.ch.length N.cc] 32)))
  go_wp2_with fail
  generalize (w4.alloc (.cells #[.slice N.va c.vs.length N.vc, .slice N.ta c.ts.length N.tc, .slice N.na c.ns.length N.nc, .slice N.ca c.ch.length N.cc] 32)) = w5 at F5 ⊢
  obtain ⟨H, hH⟩ : ∃ G, G = w4.heap.size := ⟨_, rfl⟩
  have R5 := hide1 (R4.out.later F5.out.2)
  have K5 := hide1 (K4.out.below F5.out.2 K4.out.lt)
  have J5 := hide1 F5.out.1
  have B5 := hide1 (B4.out.trans (F5.out.2.mono B4.out.size))
  rw [← hH] at J5 ⊢
  clear hH R4 K4 B4 F5
  refine (implOne_any c N w5 hch R5.out.c).mono ?_
  rintro e w6 ⟨rfl, hb6⟩
  have R6 := hide1 (R5.out.later hb6)
  have K6 := hide1 (K5.out.below hb6 K5.out.lt)
  have J6 := hide1 (J5.out.below hb6 J5.out.lt)
  have B6 := hide1 (B5.out.trans (hb6.mono B5.out.size))
  clear hb6 R5 K5 J5 B5
  have qb : (oneL c.ch != oneL c.ch) = false := by simp
  obtain ⟨x0, x1, x2, x3⟩ := cellsL4 K6.out
  obtain ⟨y0, y1, y2, y3⟩ := cells4 J6.out
  generalize oneL c.ch = ob at *
  have lH : H < w6.heap.size := J6.out.lt
  have lG : G < w6.heap.size := K6.out.lt
  have ZX := hide1 (And.intro x0 (And.intro x1 (And.intro x2 (And.intro x3 (And.intro y0 (And.intro y1 (And.intro y2 y3)))))))
  have CT2 := hide1 (fun w' (h : Below w6.heap.size w6 w') => CT.out w' HS.out (B6.out.trans (h.mono B6.out.size)))
  go_wp2
  go_region_held3 (fun w' => w'.cell? ⟨G, 0, none⟩ = some (.slice A.va c.vs.length A.vc) ∧ w'.cell? ⟨G, 1, none⟩ = some (.slice A.ta c.ts.length A.tc) ∧ w'.cell? ⟨G, 2, none⟩ = some (.slice A.na c.ns.length A.nc) ∧ w'.cell? ⟨G, 3, none⟩ = some (.slice A.ca c.ch.length A.cc) ∧ w'.cell? ⟨H, 0, none⟩ = some (.slice N.va c.vs.length N.vc) ∧ w'.cell? ⟨H, 1, none⟩ = some (.slice N.ta c.ts.length N.tc) ∧ w'.cell? ⟨H, 2, none⟩ = some (.slice N.na c.ns.length N.nc) ∧ w'.cell? ⟨H, 3, none⟩ = some (.slice N.ca c.ch.length N.cc)) (first | go_keep | exact ⟨(D8.out.cell lG).trans ZX.out.1, (D8.out.cell lG).trans ZX.out.2.1, (D8.out.cell lG).trans ZX.out.2.2.1, (D8.out.cell lG).trans ZX.out.2.2.2.1, (D8.out.cell lH).trans ZX.out.2.2.2.2.1, (D8.out.cell lH).trans ZX.out.2.2.2.2.2.1, (D8.out.cell lH).trans ZX.out.2.2.2.2.2.2.1, (D8.out.cell lH).trans ZX.out.2.2.2.2.2.2.2⟩ | exact ⟨(D7.out.cell lG).trans ZX.out.1, (D7.out.cell lG).trans ZX.out.2.1, (D7.out.cell lG).trans ZX.out.2.2.1, (D7.out.cell lG).trans ZX.out.2.2.2.1, (D7.out.cell lH).trans ZX.out.2.2.2.2.1, (D7.out.cell lH).trans ZX.out.2.2.2.2.2.1, (D7.out.cell lH).trans ZX.out.2.2.2.2.2.2.1, (D7.out.cell lH).trans ZX.out.2.2.2.2.2.2.2⟩) ((first | (go_at_call 24; refine (CE.out _ (by go_grown)).mono ?_; rintro e w8 ⟨rfl, hb8⟩; have D8 : Hid (Below w6.heap.size w6 w8) := (D7.out.trans (show Below w6.heap.size w7 _ by go_grown)).trans (hb8.mono (by have := D7.out.size; go_size)); clear hb8) | (go_at_call 35; refine (CT2.out _ (by go_grown)).mono ?_; rintro e w7 ⟨⟨P, rfl, hP⟩, hb7⟩; have D7 : Hid (Below w6.heap.size w6 w7) := (show Below w6.heap.size w6 _ by go_grown).trans hb7; have CE := hide1 (fun w' (hb : Below w7.heap.size w7 w') => eqCouncil_same (lo := fun _ => True) c N P w4.heap.size w7.heap.size (fun _ => True) w' HS.out ((R6.out.later D7.out).later hb) ((hP w7.heap.size (.inr (Nat.le_refl _))).later hb)); clear hP)))
  clear x0 x1 x2 x3 y0 y1 y2 y3 ZX CT2 CE
  have B8 := hide1 (B6.out.trans (D8.out.mono B6.out.size))
  go_wp2
  go_ret
  exact ⟨rfl, B8.out⟩

set_option maxRecDepth 100000 in
theorem lifted_FnExactOneChosen (os : Os) (started : os.Started) (H : Type) (enc : TypeId × Value → H) :
    ReturnsInHanded {} Try.checked os 9 .any (Rows.fnExactOneChosenSpec.pre6 enc Try.prog Try.f9 Rows.fnExactOneChosenRow.domain false) (Rows.fnExactOneChosenSpec.post enc Try.prog Try.f9 false true false false) := by
  refine returnsInHanded_of_change (C := Try.checked) (show ownKnob Try.prog.godebug = none by kernel_rfl) started (by kernel_rfl) Try.func9
    (ChangeSpec.witness6 (enc := enc) (C := Try.checked) false ⟨#[], #[.agg #[.slice none 0 0, .slice none 0 0, .slice none 0 0, .slice none 0 0]], []⟩ 8 (by kernel_rfl) (by kernel_rfl) (by kernel_rfl) (by kernel_rfl)) ?_
  intro W base args ds gs before hval0 hW hcnd _
  have hval : ∀ (j : Nat) t v, Try.f9.params[j]? = some t → args[j]? = some v → Value.okWide Try.prog W .any base t v := hval0
  have hW' := hW
  obtain ⟨p, q, hA0, hV, rfl, hfz, hnd⟩ := hW
  have hA : DataW.TrodAll enc Try.prog W 0 (fun _ => true) true Try.f9.params.toList args.toList ds p := hA0
  rw [Try.params9] at hA hval
  obtain ⟨v0, vs0, d0, ds0, p0, q0, hargs, rfl, rfl, h0, r0⟩ := trodAll_cons hA
  obtain ⟨rfl, rfl, rfl⟩ := trodAll_nil r0
  obtain rfl : args = #[v0] := by cases args; simp_all
  obtain ⟨rfl, rfl⟩ := trodVars_none hV
  have k0 := h0
  have lt0 : ∀ x ∈ p0, x.block < W.heap.size := by obtain ⟨m, hm⟩ := k0; exact DataW.trod_lt m _ _ _ hm
  obtain ⟨A0, c0, rfl, hR0, hW0⟩ := open_council (hval 0 66 v0 rfl rfl) h0
  clear hA0 hval0
  try simp only [List.append_nil] at hW'
  refine (walk_FnExactOneChosen A0 c0 W hR0 hW0).mono fun e W' ⟨he, bel⟩ => ?_
  subst he
  exact ⟨_, rfl, _, _, _, [], _, [], hW', trodAll_mk1 (shut_bool Try.underlying4 _), (trodAll_cons_mk (Below.trod (show laidOutB Try.prog = true by kernel_rfl) (by kernel_rfl) (of_decide_eq_true (by kernel_rfl)) k0 bel lt0) trodAll_mk0), rfl, bel.frame _, fun h => by cases h⟩

theorem proved_FnExactOneChosen : Rows.FnExactOneChosenSaid :=
  OpenClaim.holds_of_wide 9 Try.f9 rfl rfl rfl rfl rfl rfl rfl ⟨rfl, rfl, rfl, rfl, rfl⟩ rfl rfl rfl rfl rfl (by kernel_rfl) Try.func9 (by kernel_rfl)
    (of_decide_eq_true (by kernel_rfl)) (by unfold Func.isWrapper; first | (rw [if_pos (by decide +kernel)]; kernel_rfl) | (rw [if_neg (by decide +kernel)]; exact ⟨rfl, rfl⟩))
    (fun os started H enc _ => lifted_FnExactOneChosen os started H enc)
#print axioms proved_FnExactOneChosen
end Go.Proofs.Ytgehdgmllilmgaa
