/- ReadScript answers as its model at every argument, the library's tables being as the program's text lays them (the card ties them to the text of a pruned copy of the project); it writes into no argument, and its answer is its own. -/
import Derived.Test.YtelmchifpgaibaaDoorCards
import Derived.Test.YtelmchifpgaibaaDoorTie
import Derived.ProofKit
import Derived.LaidMore
import Derived.Lay
import Derived.OpenShut
import Derived.ShutString
import Derived.ChangeOld
import Derived.Stop.Joined
import Derived.Stop.LaidErr
import Derived.SevenTiedAt
import Derived.Shelf.Vars
import Derived.Test.YtelmchifpgaibaaDoorSAV
namespace Go.Proofs.YtelmchifpgaibaaDoor
open Go.ChangeShapes Go.WideShapes Go.ChangeAt Go.RowKit
open Go.ChangeMaps (open_string shut_string)
set_option linter.unusedVariables false

/-- As the kit's wrap with a fact more, the world's shape handed on too. -/
theorem of_change_andS {H : Type} {enc : TypeId × Value → H} {a : Assume} {C : Checked} {os : Os} {f : FuncId} {fn : Func} {s : ChangeSpec} {conds : List PathCond} {apart fresh handsOn again : Bool} {X : World → Array Value → Prop}
    (hX : ∀ (w w' : World) (args : Array Value), w.heap = w'.heap → X w args → X w' args)
    (own : ownKnob C.prog.godebug = none) (started : os.Started) (noInit : C.prog.inits.idxOf? f = none) (hfn : C.prog.funcs[f]? = some fn)
    (witness : ∃ (w : World) (tape : Tape) (i : Input), w.os = os ∧ (w.forCall tape i).Shaped C.prog ∧ i.vars = [] ∧ Input.okWide C.prog (w.forCall tape i) .any w.heap.size f i ∧
      ((s.pre enc C.prog fn conds apart (w.forCall tape i).memory i.args ∧ X (w.forCall tape i).memory i.args) ∧ sizedMet enc C.prog fn (OpenSpec.ofChange s) apart (w.forCall tape i).memory i.args) ∧ a.holds C.prog (lone (Frame.enter C.prog f i.args .normal) [] (w.forCall tape i)))
    (contract : ∀ (W : World) (base : Nat) (args : Array Value) (ds gs : List (DataW H)) (before : List MemPlace),
      (∀ (j : Nat) t v, fn.params[j]? = some t → args[j]? = some v → Value.okWide C.prog W .any base t v) →
      DataW.Whole enc C.prog fn.params.toList s.vars apart W args.toList ds gs before → X W args → W.ShapedOpen C.prog →
      Calls C.prog f args W fun e W' => ∃ v, e = .returned v ∧ s.post enc C.prog fn apart fresh handsOn again W args v W') :
    ReturnsInHanded a C os f .any (fun w args => (s.pre enc C.prog fn conds apart w args ∧ X w args) ∧ sizedMet enc C.prog fn (OpenSpec.ofChange s) apart w args) (s.post enc C.prog fn apart fresh handsOn again) := by
  refine returnsInHanded_of_calls own started noInit witness ?_
  intro w tape i _ hsh _ hok hpre _
  obtain ⟨_, _, _, fn', hfn', _, _, _, _, hval⟩ := hok
  have e : fn' = fn := Option.some.inj (hfn'.symm.trans hfn)
  subst e
  obtain ⟨⟨⟨ds, gs, before, hw, hc⟩, hx⟩, hz⟩ := hpre
  have hw' := DataW.Whole.of_heap (w' := w.forCall tape i) (by rfl) hw
  refine (contract (w.forCall tape i) w.heap.size i.args ds gs before hval hw' (hX _ _ _ (by rfl) hx) hsh).mono fun e W' ⟨v, he, hp⟩ => ?_
  subst he
  exact ChangeSpec.post_blind hp

theorem of_laid_FnExactReadScript {W : World} (h : laidMetH Tryd.prog Rows.fnExactReadScriptRow.laid W) (hsh : W.ShapedOpen Tryd.prog) : Tens W ∧ MaxL W := by
  obtain ⟨m, hm⟩ := cell_of_shapedOpen_int (P := Tryd.prog) (g := 0) (t := 3) (zero := #[.int .i64 0]) hsh (of_decide_eq_true (by kernel_rfl)) (by kernel_rfl) rfl (by kernel_rfl) (by kernel_rfl) Tryd.underlying3
  have hlt : 0 < W.heap.size := by
    by_cases c : 0 < W.heap.size
    · exact c
    · exfalso
      have : W.heap[0]? = none := Array.getElem?_eq_none (by omega)
      unfold World.cell? at hm
      simp [this] at hm
  refine ⟨?_, ⟨m, hm, hlt⟩⟩
  rw [MakeChecks.laidMetH_plain _ _ _ (by kernel_rfl)] at h
  exact Lib.tabIs_of_head gTens (by kernel_rfl) Tryd.underlying95 Tryd.underlying87 (by kernel_rfl) (by kernel_rfl) (laidMet.tail (laidMet.tail h))

set_option maxHeartbeats 2000000 in
theorem walk_FnExactReadScript (a0 : ByteArray) (w0 : a0.size ≤ maxLen) (w : World) (ht : Tens w ∧ MaxL w) :
    Calls Tryd.prog 3 #[.string a0] w fun e w' => e = .returned (.bool true) ∧ Below w.heap.size w w' := by
  by_cases c0 : a0.size ≤ 1048576
  · have k0 : ¬ ((1048576 : Int) < (a0.size : Int)) := by omega
    have C0 := hide1 (fun w => specRS_law a0 w c0)
    have C1 := hide1 (fun w => implRS_law a0 w c0)
    have OK := hide1 (scrS_ok a0)
    have HT := hide1 ht.1
    have HM := hide1 ht.2
    clear ht
    generalize scrS a0 = A at *
    obtain ⟨st, z⟩ := A
    dsimp only at C0 C1 OK
    have CV := hide1 (fun a b w => eqV_law OK.out a b w)
    have CE := hide1 (fun a b w => eqE_law OK.out a b w)
    have CMV := hide1 (fun a S w => markV_law OK.out a S w)
    have CME := hide1 (fun a S w => markE_law OK.out a S w)
    have CHV := hide1 (fun a w => heldV_law OK.out a w)
    have CHE := hide1 (fun a w => heldE_law OK.out a w)
    have qz : (z != z) = false := by simp
    have OKv := OK.out.n
    have OKe := OK.out.e
    clear OK
    go_enter Tryd.func3, Tryd.ntmps3
    go_wp2_with fail
    refine (C0.out _).mono ?_
    rintro e w1 ⟨⟨a, rfl, RA⟩, hb1⟩
    have RA := hide1 RA
    have E1 := hide1 hb1
    have EW := hide1 hb1
    have RAU := hide1 (fun u (h : Below w1.heap.size w1 u) => RA.out.later h)
    have s1 : w.heap.size ≤ w1.heap.size := hb1.size
    clear hb1
    go_wp2_with fail
    refine (C1.out _ (HT.out.later E1.out) (HM.out.later E1.out)).mono ?_
    rintro e w2 ⟨⟨b, rfl, RB⟩, hb2⟩
    have RB := hide1 RB
    have RA2 := hide1 (RA.out.later hb2)
    have E2 := hide1 (E1.out.trans (hb2.mono s1))
    have EU2 := hide1 hb2
    have s2 : w1.heap.size ≤ w2.heap.size := hb2.size
    clear hb2 E1
    go_wp2_with fail
    refine (CV.out b a _ RB.out.rd RA2.out).mono ?_
    rintro e w3 ⟨rfl, hb3⟩
    have s3 : w2.heap.size ≤ w3.heap.size := hb3.size
    have RB3 := hide1 (RB.out.later hb3)
    have RA3 := hide1 (RA2.out.later hb3)
    have EU3 := hide1 (EU2.out.trans (hb3.mono s2))
    clear hb3 RB RA2 EU2 E2
    go_wp2_with fail
    refine (CE.out b a _ RB3.out.rd RA3.out).mono ?_
    rintro e w4 ⟨rfl, hb4⟩
    have s4 : w3.heap.size ≤ w4.heap.size := hb4.size
    have RB4 := hide1 (RB3.out.later hb4)
    have EU4 := hide1 (EU3.out.trans (hb4.mono (by omega)))
    clear hb4 RB3 RA3 EU3
    go_wp2_with fail
    refine (CMV.out b _ _ RB4.out).mono ?_
    rintro e w5 ⟨rfl, M5, hb5⟩
    have M5 := hide1 M5
    have EU5 := hide1 (EU4.out.trans hb5)
    clear hb5 RB4 EU4
    go_wp2_with fail
    refine (CME.out b _ _ M5.out).mono ?_
    rintro e w6 ⟨rfl, M6, hb6⟩
    have M6 := hide1 M6
    have EU6 := hide1 (EU5.out.trans hb6)
    have s6 : w1.heap.size ≤ w6.heap.size := EU6.out.size
    clear hb6 M5 EU5
    obtain ⟨q, hq⟩ : ∃ q : Nat, q = 1 + sumV b.M b.M.length := ⟨_, rfl⟩
    obtain ⟨r, hr⟩ : ∃ r : Nat, r = q + 6 * st.es.length := ⟨_, rfl⟩
    have er : ((1 + sumV b.M b.M.length : Nat) : Int) + 6 * (st.es.length : Int) = (r : Int) := by omega
    have CV6 := hide1 (CHV.out b w6 M6.out)
    have CH2 := hide1 (fun w' h => CHV.out b w' h)
    have CE6 := hide1 (fun w' h => CHE.out b w' h)
    rw [er] at CE6 ⊢
    rw [← hq] at CV6 CE6 CH2
    clear hq hr er CHV CHE
    have q0 : ¬ ((q : Int) < 0) := by omega
    have r0 : ¬ ((r : Int) < 0) := by omega
    have rr : ((r : Int) != (r : Int)) = false := by simp
    go_wp2_with fail
    refine CV6.out.mono ?_
    rintro e w7 ⟨rfl, rfl⟩
    go_wp2_with fail
    refine (CE6.out _ M6.out).mono ?_
    rintro e w8 ⟨rfl, hb8⟩
    have M8 := hide1 (M6.out.later hb8)
    have EU8 := hide1 (EU6.out.trans (hb8.mono s6))
    have s8 : w7.heap.size ≤ w8.heap.size := hb8.size
    clear hb8 M6 EU6 CV6
    go_wp2_with fail
    refine (C1.out _ (HT.out.later (EW.out.trans (EU8.out.mono s1))) (HM.out.later (EW.out.trans (EU8.out.mono s1)))).mono ?_
    rintro e w9 ⟨⟨c, rfl, RC⟩, hb9⟩
    have RC := hide1 RC.rd
    have M9 := hide1 (M8.out.later hb9)
    have RA9 := hide1 (RAU.out _ (EU8.out.trans (hb9.mono (by omega))))
    have EU9 := hide1 (EU8.out.trans (hb9.mono (by omega)))
    have s9 : w8.heap.size ≤ w9.heap.size := hb9.size
    clear hb9 M8 EU8
    go_wp2_with fail
    refine (CV.out c a _ RC.out RA9.out).mono ?_
    rintro e w10 ⟨rfl, hb10⟩
    have s10 : w9.heap.size ≤ w10.heap.size := hb10.size
    have RC10 := hide1 (RC.out.later hb10)
    have RA10 := hide1 (RA9.out.later hb10)
    have M10 := hide1 (M9.out.later hb10)
    have EU10 := hide1 (EU9.out.trans (hb10.mono (by omega)))
    clear hb10 RC RA9 M9 EU9
    go_wp2_with fail
    refine (CE.out c a _ RC10.out RA10.out).mono ?_
    rintro e w11 ⟨rfl, hb11⟩
    have s11 : w10.heap.size ≤ w11.heap.size := hb11.size
    have M11 := hide1 (M10.out.later hb11)
    have EU11 := hide1 (EU10.out.trans (hb11.mono (by omega)))
    have CV11 := hide1 (CH2.out w11 M11.out)
    clear hb11 RC10 RA10 M10 EU10
    go_wp2_with fail
    refine CV11.out.mono ?_
    rintro e w12 ⟨rfl, rfl⟩
    go_wp2_with fail
    refine (CE6.out _ M11.out).mono ?_
    rintro e w13 ⟨rfl, hb13⟩
    have E := hide1 (EW.out.trans ((EU11.out.trans (hb13.mono (by omega))).mono s1))
    clear hb13 M11 EU11 CV11
    go_wp2
    go_ret
    exact ⟨rfl, E.out⟩
  · have k0 : (1048576 : Int) < (a0.size : Int) := by omega
    go_enter Tryd.func3, Tryd.ntmps3
    go_wp2
    go_ret
    exact ⟨rfl, Below.refl _ _⟩

set_option maxRecDepth 100000 in
theorem lifted_FnExactReadScript (os : Os) (started : os.Started) (H : Type) (enc : TypeId × Value → H) :
    ReturnsInHanded {} Tryd.checked os 3 .any (fun w args => (Rows.fnExactReadScriptSpec.pre enc Tryd.prog Tryd.f3 [] false w args ∧ laidMetH Tryd.prog Rows.fnExactReadScriptRow.laid w) ∧ sizedMet enc Tryd.prog Tryd.f3 (OpenSpec.ofChange Rows.fnExactReadScriptSpec) false w args)
      (Rows.fnExactReadScriptSpec.post enc Tryd.prog Tryd.f3 false true false false) := by
  refine of_change_andS (C := Tryd.checked) (X := fun w _ => laidMetH Tryd.prog Rows.fnExactReadScriptRow.laid w) (fun _ _ _ hh h => h.of_heap hh) (show ownKnob Tryd.prog.godebug = none by kernel_rfl) started (by kernel_rfl) Tryd.func3
    (ChangeSpec.witness_shaped (enc := enc) (C := Tryd.checked) (os := os) (X := fun w _ => laidMetH Tryd.prog Rows.fnExactReadScriptRow.laid w) false (World.laidAll Tryd.prog os Rows.fnExactReadScriptRow.laid) #[.string ByteArray.empty] 8 (World.laidAll_os _ _ _) (World.shaped_of_ZipB (by kernel_rfl) (by kernel_rfl)) (by kernel_rfl) (by kernel_rfl) (by kernel_rfl) (by rw [MakeChecks.laidMetH_plain _ _ _ (by kernel_rfl)]; exact laidMet_laidAll _ (by kernel_rfl) (by kernel_rfl))) ?_
  intro W base args ds gs before hval0 hW hL hsh
  have hval : ∀ (j : Nat) t v, Tryd.f3.params[j]? = some t → args[j]? = some v → Value.okWide Tryd.prog W .any base t v := hval0
  have hW' := hW
  obtain ⟨p, q, hA0, hV, rfl, hfz, hnd⟩ := hW
  have hA : DataW.TrodAll enc Tryd.prog W 0 (fun _ => true) true Tryd.f3.params.toList args.toList ds p := hA0
  rw [Tryd.params3] at hA hval
  obtain ⟨v0, vs0, d0, ds0, p0, q0, hargs, rfl, rfl, h0, r0⟩ := trodAll_cons hA
  obtain ⟨rfl, rfl, rfl⟩ := trodAll_nil r0
  obtain rfl : args = #[v0] := by cases args; simp_all
  obtain ⟨rfl, rfl⟩ := trodVars_none hV
  obtain ⟨a0, rfl, rfl, rfl, w0⟩ := open_string Tryd.underlying9 (hval 0 9 v0 rfl rfl) h0
  have hX := of_laid_FnExactReadScript hL hsh
  clear hA0 hval0 hL
  try simp only [List.append_nil] at hW'
  refine (walk_FnExactReadScript a0 w0 W hX).mono fun e W' ⟨he, bel⟩ => ?_
  subst he
  exact ⟨_, rfl, _, _, _, [], _, [], hW', trodAll_mk1 (shut_bool Tryd.underlying4 _), (trodAll_cons_mk (shut_string Tryd.underlying9 w0) trodAll_mk0), rfl, bel.frame _, fun h => by cases h⟩

theorem row_FnExactReadScript : Rows.FnExactReadScriptSaid :=
  OpenClaim.holds_of_wide 3 Tryd.f3 rfl rfl rfl rfl rfl rfl rfl ⟨rfl, rfl, rfl, rfl, rfl⟩ rfl rfl rfl rfl rfl (by kernel_rfl) Tryd.func3 (by kernel_rfl)
    (of_decide_eq_true (by kernel_rfl)) (by unfold Func.isWrapper; first | (rw [if_pos (by decide +kernel)]; kernel_rfl) | (rw [if_neg (by decide +kernel)]; exact ⟨rfl, rfl⟩))
    (fun os started H enc _ => lifted_FnExactReadScript os started H enc)

theorem proved_FnExactReadScript : Rows.FnExactReadScriptCardSaid :=
  Claim7.holds_tied_plain_at .later [] Rows.fnExactReadScriptCard.laidKinds true Rows.fnExactReadScriptCard.stood.harness false
    row_FnExactReadScript (fun _ h => by cases h) (by kernel_rfl) (fun _ h => by cases h) fnExactReadScript_row_tie rfl ⟨rfl, rfl⟩ (by kernel_rfl) rfl
    (fun f fn hf hfn => by
      obtain rfl : f = 3 := Option.some.inj ((show Tryd.prog.funcNamed Tryd.f3.name = some 3 by kernel_rfl).symm.trans hf) |>.symm
      obtain rfl : fn = Tryd.f3 := (Option.some.inj (Tryd.func3.symm.trans hfn)).symm
      exact ⟨by kernel_rfl, fun j t ht => by
        rw [Tryd.params3] at ht
        have hm : t ∈ ([9] : List TypeId) := by simpa using Array.mem_of_getElem? ht
        have hall : (([9] : List TypeId).all fun u => !Tryd.prog.wantsStandIn u) = true := by kernel_rfl
        exact (show Tryd.prog.wantsStandIn t = false by simpa using List.all_eq_true.1 hall t hm)⟩)
    (by kernel_rfl)
#print axioms proved_FnExactReadScript
end Go.Proofs.YtelmchifpgaibaaDoor
