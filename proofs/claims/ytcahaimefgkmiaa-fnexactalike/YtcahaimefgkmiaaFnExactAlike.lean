/- Alike answers as its model at every argument. -/
import Derived.Test.YtcahaimefgkmiaaRows
import Derived.ProofKit
import Derived.OpenShut
import Derived.ShutString
import Derived.ChangeOld
import Derived.Test.YtcahaimefgkmiaaGqT
import Derived.Test.YtcahaimefgkmiaaAlI
import Derived.Test.YtcahaimefgkmiaaAlJ
import Derived.Test.YtcahaimefgkmiaaAlS
namespace Go.Proofs.Ytcahaimefgkmiaa
open Go.ChangeShapes Go.WideShapes Go.ChangeAt Go.RowKit
open Go.ChangeMaps (open_string shut_string)
set_option linter.unusedVariables false

theorem SmGp.same {g h : Gv} (hz : SmGp g) (hs : SaGp g h) : SmGp h := by
  have e1 : h.M.length = g.M.length := by have := congrArg List.length hs.v; simpa using this
  have e2 : h.L.length = g.L.length := by have := congrArg List.length hs.m; simpa using this
  have e3 : h.N.length = g.N.length := by have := congrArg List.length hs.f; simpa using this
  refine ⟨by rw [e1]; exact hz.vl, fun x hx => ?_, by rw [e2]; exact hz.ml, fun x hx => ?_, by rw [e3]; exact hz.fl, fun x hx => ?_, by rw [hs.c]; exact hz.cl⟩
  · have : x.l ∈ g.M.map (·.l) := by rw [← hs.v]; exact List.mem_map_of_mem hx
    obtain ⟨y, hy, e⟩ := List.mem_map.1 this
    rw [← e]
    exact hz.vs y hy
  · have : x.m ∈ g.L.map (·.m) := by rw [← hs.m]; exact List.mem_map_of_mem hx
    obtain ⟨y, hy, e⟩ := List.mem_map.1 this
    have h2 := hz.ms y hy
    unfold ZMr at h2 ⊢
    rw [← e]
    exact h2
  · have : x.m ∈ g.N.map (·.m) := by rw [← hs.f]; exact List.mem_map_of_mem hx
    obtain ⟨y, hy, e⟩ := List.mem_map.1 this
    have h2 := hz.fs y hy
    unfold ZMv at h2 ⊢
    rw [← e]
    exact h2
theorem SaGp.trans {g h k : Gv} (a : SaGp g h) (b : SaGp g k) : SaGp h k := ⟨by rw [b.v, a.v], by rw [b.m, a.m], by rw [b.f, a.f], by rw [b.c, a.c]⟩
set_option maxRecDepth 100000 in
set_option maxHeartbeats 4000000 in
theorem walk_FnExactAlike (g : Gv) (w : World) (hR : RdGp w g) (hW : SzGp g) :
    Calls Try.prog 7 #[.agg (grA g)] w fun e w' => e = .returned (.bool true) ∧ Below w.heap.size w w' := by
  have CZ := hide1 (fun w' (h : Below w.heap.size w w') => szGp_any g 1048576 w' (Nat.le_refl _) hW (hR.later h))
  have HR := hide1 hR
  clear hR hW
  have FB := hide1 (And.intro (BlkA.new w 40 (grA g)) ((Below.refl w.heap.size w).alloc (Nat.le_refl _) (.cells (grA g) 40)))
  go_enter Try.func7, Try.ntmps7
  go_upto_region 1 with fail
  generalize (w.alloc (.cells (grA g) 40)) = u at FB ⊢
  obtain ⟨G0, hG0⟩ : ∃ G, G = w.heap.size := ⟨_, rfl⟩
  have B0_0 := hide1 FB.out.1
  have E_0 := hide1 FB.out.2
  rw [← hG0] at B0_0 ⊢
  clear FB hG0
  go_wp2_with (refine wpList_load_row rfl 40 _ rfl G0 rfl 40 (grA g) (0, 0) _ B0_0.out Try.underlying40 rfl sizeGpL ?_)
  refine (CZ.out u E_0.out).mono ?_
  rintro e wz ⟨hz, hbz⟩
  have E_1 := hide1 (E_0.out.trans (hbz.mono E_0.out.size))
  have B0_1 := hide1 (B0_0.out.below hbz B0_0.out.lt)
  clear CZ hbz E_0 B0_0
  rcases hz with rfl | ⟨r, rfl, hsm, _⟩
  · go_wp2
    go_ret
    exact ⟨rfl, E_1.out⟩
  have qr : ¬ ((r : Int) < 0) := by omega
  have qr2 : decide ((r : Int) < 0) = false := decide_eq_false qr
  have SM := hide1 hsm
  clear hsm
  have CT := hide1 (fun w' (hb : Below w.heap.size w w') => toGp_any g w' SM.out (HR.out.later hb))
  have CS := hide1 (fun w' (h : Gv) (hs : SaGp g h) (hr : RdGp w' h) => show Calls Try.prog 24 #[.agg (grA h)] w' fun e w'' => e = .returned (.bool (bo (AlkP g.vs g.ms))) ∧ Below w'.heap.size w' w'' from by
    have e1 : h.vs = g.vs := hs.v
    have e2 : h.ms = g.ms := hs.m
    rw [← e1, ← e2]
    exact specAlike_any h w' (SM.out.same hs) hr)
  have CI := hide1 (fun w' (h : Gv) (hs : SaGp g h) (hr : RdGp w' h) => show Calls Try.prog 25 #[.agg (grA h)] w' fun e w'' => e = .returned (.bool (bo (AlkP g.vs g.ms))) ∧ Below w'.heap.size w' w'' from by
    have e1 : h.vs = g.vs := hs.v
    have e2 : h.ms = g.ms := hs.m
    rw [← e1, ← e2]
    exact implAlike_any h w' (SM.out.same hs) hr)
  generalize bo (AlkP g.vs g.ms) = q at CS CI
  have qg : (q != q) = false := by cases q <;> rfl
  go_wp2_with (refine wpList_load_row rfl 40 _ rfl G0 rfl 40 (grA g) (0, 0) _ B0_1.out Try.underlying40 rfl sizeGpL ?_)
  refine (CT.out wz E_1.out).mono ?_
  rintro e w1 ⟨h1, rfl, hs1, hr1, hb⟩
  have E_2 := hide1 (E_1.out.trans (hb.mono E_1.out.size))
  have B0_2 := hide1 (B0_1.out.below hb B0_1.out.lt)
  have H1 := hide1 (And.intro hs1 hr1)
  clear hb hs1 hr1 E_1 B0_1
  go_wp2_with fail
  refine (CS.out w1 h1 H1.out.1 H1.out.2).mono ?_
  rintro e w2 ⟨rfl, hb⟩
  have E_3 := hide1 (E_2.out.trans (hb.mono E_2.out.size))
  have B0_3 := hide1 (B0_2.out.below hb B0_2.out.lt)
  clear hb H1 E_2 B0_2 CS
  go_wp2_with (refine wpList_load_row rfl 40 _ rfl G0 rfl 40 (grA g) (0, 0) _ B0_3.out Try.underlying40 rfl sizeGpL ?_)
  refine (CT.out w2 E_3.out).mono ?_
  rintro e w3 ⟨h2, rfl, hs2, hr2, hb⟩
  have E_4 := hide1 (E_3.out.trans (hb.mono E_3.out.size))
  have B0_4 := hide1 (B0_3.out.below hb B0_3.out.lt)
  have bx := (Below.refl w3.heap.size w3).alloc (Nat.le_refl _) (.cells (grA h2) 46)
  have B1_5 := hide1 (BlkA.new w3 46 (grA h2))
  have ONE := hide1 (oneGp h2)
  have E_5 := hide1 (E_4.out.trans (bx.mono E_4.out.size))
  have B0_5 := hide1 (B0_4.out.below bx B0_4.out.lt)
  have S2 := hide1 hs2
  have H2 := hide1 (hr2.later bx)
  clear hb hs2 hr2 bx E_3 B0_3 E_4 B0_4
  go_upto_region 7 with (refine wpList_store_row rfl 46 _ _ rfl w3.heap.size (grA h2) rfl rfl 46 _ (heap_alloc_last _ _) sizeGpI rfl ONE.out ?_; rw [World.setRow_alloc_new])
  generalize (w3.alloc (.cells (grA h2) 46)) = w4 at B1_5 E_5 B0_5 H2 ⊢
  obtain ⟨G1, hG1⟩ : ∃ G, G = w3.heap.size := ⟨_, rfl⟩
  rw [← hG1] at B1_5 ⊢
  clear hG1
  go_wp2_with (refine wpList_load_row rfl 46 _ rfl G1 rfl 46 (grA h2) (0, 0) _ B1_5.out Try.underlying46 rfl sizeGpI ?_)
  refine (CI.out w4 h2 S2.out H2.out).mono ?_
  rintro e w5 ⟨rfl, hb⟩
  have E_6 := hide1 (E_5.out.trans (hb.mono E_5.out.size))
  have B0_6 := hide1 (B0_5.out.below hb B0_5.out.lt)
  have B1_6 := hide1 (B1_5.out.below hb B1_5.out.lt)
  have RX := hide1 (H2.out.later hb)
  clear hb E_5 B0_5 B1_5 H2 CI
  have CT4 := hide1 (fun w' (hb : Below w5.heap.size w5 w') => CT.out w' (E_6.out.trans (hb.mono E_6.out.size)))
  have ZS := hide1 (fun w' (D : Below w5.heap.size w5 w') => (show (Instr.loadAt 46 (.pointer (some ⟨G1, 0, none⟩))).run Try.prog w' = .ok (.agg (grA h2)) w' ∧ (Instr.loadAt 40 (.pointer (some ⟨G0, 0, none⟩))).run Try.prog w' = .ok (.agg (grA g)) w' from ⟨(B1_6.out.below D B1_6.out.lt).load Try.underlying46 rfl sizeGpI, (B0_6.out.below D B0_6.out.lt).load Try.underlying40 rfl sizeGpL⟩))
  go_wp2
  refine wp_region_held_drew (S := fun w' => (Instr.loadAt 46 (.pointer (some ⟨G1, 0, none⟩))).run Try.prog w' = .ok (.agg (grA h2)) w' ∧ (Instr.loadAt 40 (.pointer (some ⟨G0, 0, none⟩))).run Try.prog w' = .ok (.agg (grA g)) w') rfl (ZS.out _ (by go_grown)) (fun hS0 => ?_)
  refine wpAnyH_take (i := 0) (oi := _) (v := .agg (grA h2)) rfl (by kernel_rfl) (by kernel_rfl) (by kernel_rfl) (fun _ _ _ h => h) (yieldsIf_loadA (by rfl) 46 (.tmp 5) rfl G1 rfl (grA h2) (fun w h => h.1)) hS0 ?_
  refine wpAnyH_take (i := 1) (oi := _) (v := .agg (grA g)) rfl (by kernel_rfl) (by kernel_rfl) (by kernel_rfl) (fun _ _ _ h => h) (yieldsIf_loadA (by rfl) 40 (.tmp 1) rfl G0 rfl (grA g) (fun w h => h.2)) hS0 ?_
  refine wpAnyH_ready (rs := [2]) (by kernel_rfl) (by simp) (AllReadyH.cons rfl (fun K hK => ?_) AllReadyH.nil)
  go_simp
  go_at_call 21
  refine (CT4.out _ (by go_grown)).mono ?_
  rintro e w7 ⟨h3, rfl, hs3, hr3, hb7⟩
  have D7 : Hid (Below w5.heap.size w5 w7) := (show Below w5.heap.size w5 _ by go_grown).trans hb7
  have CE := hide1 (eqGp_same h2 h3 w7 (SM.out.same S2.out) (S2.out.trans hs3) (RX.out.later D7.out) hr3)
  clear hs3 hr3
  go_simp
  refine hK.out _ _ (ZS.out _ D7.out) (fun hS7 => ?_)
  clear hK K
  refine wpAnyH_ready (rs := [3]) (by kernel_rfl) (by simp) (AllReadyH.cons rfl (fun K hK => ?_) AllReadyH.nil)
  go_simp
  go_at_call 23
  refine CE.out.mono ?_
  rintro e w8 ⟨rfl, hb8⟩
  have D8 : Hid (Below w5.heap.size w5 w8) := D7.out.trans (hb8.mono D7.out.size)
  clear hb8
  go_simp
  refine hK.out _ _ (ZS.out _ D8.out) (fun hS8 => ?_)
  clear hK K
  refine wpAnyH_ready (rs := [4]) (by kernel_rfl) (by simp) (AllReadyH.cons rfl (fun K hK => ?_) AllReadyH.nil)
  go_simp
  refine hK.out _ _ (ZS.out _ D8.out) (fun hS9 => ?_)
  clear hK K hS0 hS7 hS8 hS9
  refine wpAnyH_done (by kernel_rfl) ?_ _
  clear ZS CT4 CE D7 hb7 RX CT
  have E_7 := hide1 (E_6.out.trans (D8.out.mono E_6.out.size))
  go_wp2
  go_ret
  exact ⟨rfl, E_7.out⟩

set_option maxRecDepth 100000 in
theorem lifted_FnExactAlike (os : Os) (started : os.Started) (H : Type) (enc : TypeId × Value → H) :
    ReturnsInHanded {} Try.checked os 7 .any (Rows.fnExactAlikeSpec.pre6 enc Try.prog Try.f7 Rows.fnExactAlikeRow.domain false) (Rows.fnExactAlikeSpec.post enc Try.prog Try.f7 false true false false) := by
  refine returnsInHanded_of_change (C := Try.checked) (show ownKnob Try.prog.godebug = none by kernel_rfl) started (by kernel_rfl) Try.func7
    (ChangeSpec.witness6 (enc := enc) (C := Try.checked) false ⟨#[], #[.agg #[.slice none 0 0, .slice none 0 0, .slice none 0 0, .slice none 0 0]], []⟩ 8 (by kernel_rfl) (by kernel_rfl) (by kernel_rfl) (by kernel_rfl)) ?_
  intro W base args ds gs before hval0 hW hcnd _
  have hval : ∀ (j : Nat) t v, Try.f7.params[j]? = some t → args[j]? = some v → Value.okWide Try.prog W .any base t v := hval0
  have hW' := hW
  obtain ⟨p, q, hA0, hV, rfl, hfz, hnd⟩ := hW
  have hA : DataW.TrodAll enc Try.prog W 0 (fun _ => true) true Try.f7.params.toList args.toList ds p := hA0
  rw [Try.params7] at hA hval
  obtain ⟨v0, vs0, d0, ds0, p0, q0, hargs, rfl, rfl, h0, r0⟩ := trodAll_cons hA
  obtain ⟨rfl, rfl, rfl⟩ := trodAll_nil r0
  obtain rfl : args = #[v0] := by cases args; simp_all
  obtain ⟨rfl, rfl⟩ := trodVars_none hV
  have k0 := h0
  have lt0 : ∀ x ∈ p0, x.block < W.heap.size := by obtain ⟨m, hm⟩ := k0; exact DataW.trod_lt m _ _ _ hm
  obtain ⟨g0, rfl, hR0, hW0⟩ := open_group (hval 0 40 v0 rfl rfl) h0
  clear hA0 hval0
  try simp only [List.append_nil] at hW'
  refine (walk_FnExactAlike g0 W hR0 hW0).mono fun e W' ⟨he, bel⟩ => ?_
  subst he
  exact ⟨_, rfl, _, _, _, [], _, [], hW', trodAll_mk1 (shut_bool Try.underlying4 _), (trodAll_cons_mk (Below.trod (show laidOutB Try.prog = true by kernel_rfl) (by kernel_rfl) (of_decide_eq_true (by kernel_rfl)) k0 bel lt0) trodAll_mk0), rfl, bel.frame _, fun h => by cases h⟩

theorem proved_FnExactAlike : Rows.FnExactAlikeSaid :=
  OpenClaim.holds_of_wide 7 Try.f7 rfl rfl rfl rfl rfl rfl rfl ⟨rfl, rfl, rfl, rfl, rfl⟩ rfl rfl rfl rfl rfl (by kernel_rfl) Try.func7 (by kernel_rfl)
    (of_decide_eq_true (by kernel_rfl)) (by unfold Func.isWrapper; first | (rw [if_pos (by decide +kernel)]; kernel_rfl) | (rw [if_neg (by decide +kernel)]; exact ⟨rfl, rfl⟩))
    (fun os started H enc _ => lifted_FnExactAlike os started H enc)
#print axioms proved_FnExactAlike
end Go.Proofs.Ytcahaimefgkmiaa
