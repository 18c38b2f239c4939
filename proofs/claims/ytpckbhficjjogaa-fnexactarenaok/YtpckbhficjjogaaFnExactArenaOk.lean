/- ArenaOk answers as its model at every argument. -/
import Derived.Test.YtpckbhficjjogaaRows
import Derived.ProofKit
import Derived.OpenShut
import Derived.ShutString
import Derived.ChangeOld
import Derived.Test.YtpckbhficjjogaaArenaI
import Derived.Test.YtpckbhficjjogaaXBO
import Derived.Test.YtpckbhficjjogaaXRI
namespace Go.Proofs.Ytpckbhficjjogaa
open Go.ChangeShapes Go.WideShapes Go.ChangeAt Go.RowKit
open Go.ChangeMaps (open_string shut_string)
set_option linter.unusedVariables false

set_option maxRecDepth 100000 in
set_option maxHeartbeats 2000000 in
theorem walk_FnExactArenaOk (ao : Option Addr) (l : List Sl) (ca : Nat) (f : Int) (w : World) (hR : RdI w ao l) (hl : l.length ≤ maxLen) (hw : ∀ i (h : i < l.length), wfS l[i]) (hf : -9223372036854775808 ≤ f ∧ f ≤ 9223372036854775807) :
    Calls Try.prog 7 #[arV ao l.length ca f] w fun e w' => e = .returned (.bool true) ∧ Below w.heap.size w w' := by
  have hR0 := fun o => hR.later ((Below.refl w.heap.size w).alloc (Nat.le_refl _) o)
  have CZ := hide1 (fun o => szArena_any ao l ca f (w.alloc o) hl (hR0 o) (fun i h => ⟨(hw i h).2.2.1, (hw i h).2.2.2⟩))
  have HR := hide1 hR
  clear hR hR0 hw hl hf
  unfold arV at CZ ⊢
  go_enter Try.func7, Try.ntmps7
  go_wp2_with fail
  refine (CZ.out _).mono ?_
  rintro e w1 ⟨hr, hb1⟩
  have B1 := hide1 (below_box hb1)
  have x0 : w1.cell? ⟨w.heap.size, 0, none⟩ = some (.slice ao l.length ca) := box_cells rfl hb1 0
  have x1 : w1.cell? ⟨w.heap.size, 1, none⟩ = some (.int .i64 f) := box_cells rfl hb1 1
  have hs1 : w.heap.size < w1.heap.size := by have := hb1.size; rw [World.size_alloc] at this; omega
  clear hb1 CZ
  rcases hr with rfl | ⟨r, rfl, hsm⟩
  · go_wp2
    go_ret
    exact ⟨rfl, B1.out⟩
  · have q : decide ((r : Int) < 0) = false := by simp
    have hn := hsm.1
    clear hsm
    have T2 := hide1 (toArena_any ao l ca f w1 hn (HR.out.later B1.out))
    unfold arV at T2
    go_wp2_with fail
    refine T2.out.mono ?_
    rintro e w2 ⟨b, c, rfl, ho2, hb2⟩
    have S3 := hide1 (specOk_any b l c f w2 hn (rdA_of_own ho2))
    unfold arV at S3
    have B2 := hide1 (B1.out.trans (hb2.mono B1.out.size))
    have L2 := hide1 (Nat.lt_of_lt_of_le hs1 hb2.size)
    have y0 := (hb2.cell (p := ⟨w.heap.size, 0, none⟩) hs1).trans x0
    have y1 := (hb2.cell (p := ⟨w.heap.size, 1, none⟩) hs1).trans x1
    clear ho2 hb2 T2 x0 x1
    go_wp2_with fail
    refine S3.out.mono ?_
    rintro e w3 ⟨x, rfl, hx, hb3⟩
    have HX := hide1 hx
    have B3 := hide1 (B2.out.trans (hb3.mono B2.out.size))
    have L3 := hide1 (Nat.lt_of_lt_of_le L2.out hb3.size)
    have x0 := (hb3.cell (p := ⟨w.heap.size, 0, none⟩) L2.out).trans y0
    have x1 := (hb3.cell (p := ⟨w.heap.size, 1, none⟩) L2.out).trans y1
    have T4 := hide1 (toArena_any ao l ca f w3 hn (HR.out.later B3.out))
    unfold arV at T4
    clear hb3 hx S3 y0 y1
    go_wp2_with fail
    refine T4.out.mono ?_
    rintro e w4 ⟨b4, c4, rfl, ho4, hb4⟩
    have B4 := hide1 (B3.out.trans (hb4.mono B3.out.size))
    have L4 := hide1 (Nat.lt_of_lt_of_le L3.out hb4.size)
    have y0 := (hb4.cell (p := ⟨w.heap.size, 0, none⟩) L3.out).trans x0
    have y1 := (hb4.cell (p := ⟨w.heap.size, 1, none⟩) L3.out).trans x1
    have R4 := hide1 (rdA_of_own ho4)
    have I5 := hide1 (fun o => implOk_any b4 l c4 f (w4.alloc o) hn (R4.out.later ((Below.refl _ _).alloc (Nat.le_refl _) o)))
    unfold arV at I5
    clear ho4 hb4 T4 x0 x1
    go_wp2_with fail
    refine (I5.out _).mono ?_
    rintro e w6 ⟨y, rfl, hy, hb6⟩
    have z0 : w6.cell? ⟨w4.heap.size, 0, none⟩ = some (.slice b4 l.length c4) := box_cells rfl hb6 0
    have z1 : w6.cell? ⟨w4.heap.size, 1, none⟩ = some (.int .i64 f) := box_cells rfl hb6 1
    have B46 := hide1 (below_box hb6)
    have B6 := hide1 (B4.out.trans (B46.out.mono B4.out.size))
    have x0 := (B46.out.cell (p := ⟨w.heap.size, 0, none⟩) L4.out).trans y0
    have x1 := (B46.out.cell (p := ⟨w.heap.size, 1, none⟩) L4.out).trans y1
    have L6 := hide1 (Nat.lt_of_lt_of_le L4.out B46.out.size)
    have M6 : w4.heap.size < w6.heap.size := by have := hb6.size; rw [World.size_alloc] at this; omega
    have R6 := hide1 (R4.out.later B46.out)
    obtain rfl : y = x := by
      have h1 := HX.out
      cases x <;> cases y <;> simp_all
    have qxy : (y != y) = false := by simp
    clear hb6 hy I5 y0 y1 HX
    have Z0 := hide1 z0
    have Z1 := hide1 z1
    have X0 := hide1 x0
    have X1 := hide1 x1
    have CT := hide1 (fun w' (hb : Below w6.heap.size w6 w') => toArena_any ao l ca f w' hn (HR.out.later (B6.out.trans (hb.mono B6.out.size))))
    unfold arV at CT
    go_wp2
    go_region_held3 (fun w' => w'.cell? ⟨w4.heap.size, 0, none⟩ = some (.slice b4 l.length c4) ∧ w'.cell? ⟨w4.heap.size, 1, none⟩ = some (.int .i64 f) ∧ w'.cell? ⟨w.heap.size, 0, none⟩ = some (.slice ao l.length ca) ∧ w'.cell? ⟨w.heap.size, 1, none⟩ = some (.int .i64 f)) (first | go_keep | exact ⟨(D7.out.cell M6).trans Z0.out, (D7.out.cell M6).trans Z1.out, (D7.out.cell L6.out).trans X0.out, (D7.out.cell L6.out).trans X1.out⟩ | exact ⟨(D8.out.cell M6).trans Z0.out, (D8.out.cell M6).trans Z1.out, (D8.out.cell L6.out).trans X0.out, (D8.out.cell L6.out).trans X1.out⟩) ((first | (go_at_call 29; refine (CT.out _ (by go_grown)).mono ?_; rintro e w7 ⟨b7, c7, rfl, ho7, hb7⟩; have D7 : Hid (Below w6.heap.size w6 w7) := (show Below w6.heap.size w6 _ by go_grown).trans hb7; have CE := hide1 (fun w' (hb : Below w7.heap.size w7 w') => eqArena_same b4 b7 l c4 c7 f w' hn (R6.out.later (D7.out.trans (hb.mono D7.out.size))) ((rdA_of_own ho7).later hb)); unfold arV at CE; clear ho7) | (go_at_call 24; refine (CE.out _ (by go_grown)).mono ?_; rintro e w8 ⟨rfl, hb8⟩; have D8 : Hid (Below w6.heap.size w6 w8) := (D7.out.trans (show Below w6.heap.size w7 _ by go_grown)).trans (hb8.mono (by have := D7.out.size; go_size)); clear hb8)))
    go_wp2
    go_ret
    exact ⟨rfl, B6.out.trans (D8.out.mono B6.out.size)⟩

set_option maxRecDepth 100000 in
theorem lifted_FnExactArenaOk (os : Os) (started : os.Started) (H : Type) (enc : TypeId × Value → H) :
    ReturnsInHanded {} Try.checked os 7 .any (Rows.fnExactArenaOkSpec.pre6 enc Try.prog Try.f7 Rows.fnExactArenaOkRow.domain false) (Rows.fnExactArenaOkSpec.post enc Try.prog Try.f7 false true false false) := by
  refine returnsInHanded_of_change (C := Try.checked) (show ownKnob Try.prog.godebug = none by kernel_rfl) started (by kernel_rfl) Try.func7
    (ChangeSpec.witness6 (enc := enc) (C := Try.checked) false ⟨#[], #[.agg #[.slice none 0 0, .int .i64 0]], []⟩ 8 (by kernel_rfl) (by kernel_rfl) (by kernel_rfl) (by kernel_rfl)) ?_
  intro W base args ds gs before hval0 hW hcnd _
  have hval : ∀ (j : Nat) t v, Try.f7.params[j]? = some t → args[j]? = some v → Value.okWide Try.prog W .any base t v := hval0
  have hW' := hW
  obtain ⟨p, q, hA0, hV, rfl, hfz, hnd⟩ := hW
  have hA : DataW.TrodAll enc Try.prog W 0 (fun _ => true) true Try.f7.params.toList args.toList ds p := hA0
  rw [Try.params7] at hA hval
  obtain ⟨v0, vs0, d0, ds0, p0, q0, hargs, rfl, rfl, h0, r0⟩ := trodAll_cons hA
  obtain ⟨rfl, rfl, rfl⟩ := trodAll_nil r0
  obtain rfl : args = #[v0] := by cases args; simp_all
  obtain ⟨rfl, rfl⟩ := trodVars_none hV
  have k0 := h0
  have lt0 : ∀ x ∈ p0, x.block < W.heap.size := by obtain ⟨m, hm⟩ := k0; exact DataW.trod_lt m _ _ _ hm
  obtain ⟨ao0, l0, ca0, f0, rfl, hR0, hl0, hw0, hf0⟩ := open_arena (hval 0 47 v0 rfl rfl) h0
  clear hA0 hval0
  try simp only [List.append_nil] at hW'
  refine (walk_FnExactArenaOk ao0 l0 ca0 f0 W hR0 hl0 hw0 hf0).mono fun e W' ⟨he, bel⟩ => ?_
  subst he
  exact ⟨_, rfl, _, _, _, [], _, [], hW', trodAll_mk1 (shut_bool Try.underlying4 _), (trodAll_cons_mk (Below.trod (show laidOutB Try.prog = true by kernel_rfl) (by kernel_rfl) (of_decide_eq_true (by kernel_rfl)) k0 bel lt0) trodAll_mk0), rfl, bel.frame _, fun h => by cases h⟩

theorem proved_FnExactArenaOk : Rows.FnExactArenaOkSaid :=
  OpenClaim.holds_of_wide 7 Try.f7 rfl rfl rfl rfl rfl rfl rfl ⟨rfl, rfl, rfl, rfl, rfl⟩ rfl rfl rfl rfl rfl (by kernel_rfl) Try.func7 (by kernel_rfl)
    (of_decide_eq_true (by kernel_rfl)) (by unfold Func.isWrapper; first | (rw [if_pos (by decide +kernel)]; kernel_rfl) | (rw [if_neg (by decide +kernel)]; exact ⟨rfl, rfl⟩))
    (fun os started H enc _ => lifted_FnExactArenaOk os started H enc)
#print axioms proved_FnExactArenaOk
end Go.Proofs.Ytpckbhficjjogaa
