/- The program's addEvent. -/
import Derived.Test.YtelmchifpgaibaaDoorSAQ
import Derived.Test.YtelmchifpgaibaaDoorEvJ
import Derived.Deep.RegionLaw
import Derived.Deep.DeepCutAuto
import Derived.Deep.RegionHeld3
namespace Go.Proofs.YtelmchifpgaibaaDoor
open Go.RowKit
set_option linter.unusedVariables false

theorem evSc_no {st : Sc} {x : Ev} (h : ¬ ((okEv x ∧ st.vs ≠ []) ∧ st.es.length ≠ 70)) : evSc st x = none := if_neg h
theorem evSc_yes {st : Sc} {x : Ev} (h : (okEv x ∧ st.vs ≠ []) ∧ st.es.length ≠ 70) : evSc st x = some ⟨st.vs, st.es ++ [x]⟩ := if_pos h

set_option maxRecDepth 100000 in
set_option maxHeartbeats 8000000 in
theorem addEvent_any (X : Nat → Prop) (S G : Nat) (a : Sca) (st : Sc) (x : Ev) (w : World) (h : ScA S G w a st) (hk : st.Ok) (hO : OffA X G w a st) :
    Calls Tryd.prog 46 #[.pointer (some ⟨G, 0, none⟩), .agg #[.int .i64 x.k, .int .i64 x.n, .int .i64 x.pl, .int .i64 x.op, .string x.key, .string x.val]] w fun e w' => e = .returned (.bool (evSc st x).isSome) ∧ (∀ st', evSc st x = some st' → ∃ a', ScA S G w' a' st') ∧ ScF X w w' := by
  have F0 := hide1 (And.intro (Blk.new w 40 #[.int .i64 x.k, .int .i64 x.n, .int .i64 x.pl, .int .i64 x.op, .string x.key, .string x.val]) ((Below.refl w.heap.size w).alloc (Nat.le_refl _) (.cells #[.int .i64 x.k, .int .i64 x.n, .int .i64 x.pl, .int .i64 x.op, .string x.key, .string x.val] 40)))
  have NV := hide1 h.nv
  have H := hide1 h
  have HO := hide1 hO
  have hGw : G < w.heap.size := h.bx.lt
  have hSw : S ≤ w.heap.size := h.hS
  have CE := hide1 (fun w' => implEventOk_any x.k x.n x.pl x.op x.key x.val w')
  have NO := hide1 (evSc_no (st := st) (x := x))
  have YES := hide1 (evSc_yes (st := st) (x := x))
  obtain ⟨nv, hnv⟩ : ∃ nv, nv = a.M.length := ⟨_, rfl⟩
  obtain ⟨ne, hne⟩ : ∃ ne, ne = st.es.length := ⟨_, rfl⟩
  have HNV := hide1 hnv
  have HNE := hide1 hne
  have nle : ne ≤ 70 := by rw [hne]; exact hk.e
  clear h hnv hne hk hO
  go_enter Tryd.func46, Tryd.ntmps46
  go_upto_region 1 with fail
  generalize (w.alloc (.cells #[.int .i64 x.k, .int .i64 x.n, .int .i64 x.pl, .int .i64 x.op, .string x.key, .string x.val] 40)) = u at F0 ⊢
  obtain ⟨X, hX⟩ : ∃ X, X = w.heap.size := ⟨_, rfl⟩
  have FX := hide1 F0.out.1
  have E0 := hide1 F0.out.2
  rw [← hX] at FX
  rw [← hX]
  have HX := hide1 hX
  have su : w.heap.size ≤ u.heap.size := E0.out.size
  have lX : X < u.heap.size := FX.out.lt
  have nGX : ¬ G = X := by omega
  have nXG : ¬ X = G := by omega
  have lG : G < u.heap.size := by omega
  have HU := hide1 (H.out.later E0.out)
  clear hX F0
  have g0 : u.cell? ⟨G, 0, none⟩ = some (.slice a.va nv a.vc) := by rw [HNV.out]; exact HU.out.bx.cell 0
  have g1 : u.cell? ⟨G, 1, none⟩ = some (.slice a.ea ne a.ec) := by rw [HNE.out]; exact HU.out.bx.cell 1
  have x0 : u.cell? ⟨X, 0, none⟩ = some (.int .i64 x.k) := FX.out.cell 0
  have x1 : u.cell? ⟨X, 1, none⟩ = some (.int .i64 x.n) := FX.out.cell 1
  have x2 : u.cell? ⟨X, 2, none⟩ = some (.int .i64 x.pl) := FX.out.cell 2
  have x3 : u.cell? ⟨X, 3, none⟩ = some (.int .i64 x.op) := FX.out.cell 3
  have x4 : u.cell? ⟨X, 4, none⟩ = some (.string x.key) := FX.out.cell 4
  have x5 : u.cell? ⟨X, 5, none⟩ = some (.string x.val) := FX.out.cell 5
  by_cases c1 : st.vs = []
  · have q : ((nv : Int) == 0) = true := by have := NV.out; rw [c1, ← HNV.out] at this; simp at this; simp [this]
    have RES := hide1 (NO.out (fun h => h.1.2 c1))
    clear c1
    go_wp2
    go_ret
    rw [RES.out]
    exact ⟨rfl, (fun _ h => by cases h), ScF.of E0.out HO.out.lt⟩
  · have q : ((nv : Int) == 0) = false := by
      have h1 : st.vs.length ≠ 0 := fun e => c1 (List.eq_nil_of_length_eq_zero e)
      have := NV.out
      rw [← HNV.out] at this
      simp
      omega
    by_cases c2 : ne = 70
    · have RES := hide1 (NO.out (fun h => h.2 (by rw [← HNE.out]; exact c2)))
      have q2 : ((ne : Int) == 70) = true := by simp [c2]
      clear c2
      go_wp2
      go_ret
      rw [RES.out]
      exact ⟨rfl, (fun _ h => by cases h), ScF.of E0.out HO.out.lt⟩
    · have q2 : ((ne : Int) == 70) = false := by simp; omega
      by_cases c3 : okEv x
      · rw [decide_eq_true c3] at CE
        have RES := hide1 (YES.out ⟨⟨c3, c1⟩, by rw [← HNE.out]; exact c2⟩)
        clear c3 c1 c2 NO YES
        go_wp2_with fail
        refine (CE.out _).mono ?_
        rintro e w2 ⟨rfl, hb2⟩
        go_upto_region 3 with fail
        have KX := hide1 (FX.out.below hb2 lX)
        have HV := hide1 (HU.out.later hb2)
        have EV := hide1 (E0.out.trans (hb2.mono su))
        have lX2 : X < w2.heap.size := KX.out.lt
        have lG2 : G < w2.heap.size := HV.out.bx.lt
        clear g0 g1 x0 x1 x2 x3 x4 x5 q q2 hb2 CE FX HU E0 H
        have g1 : w2.cell? ⟨G, 1, none⟩ = some (.slice a.ea ne a.ec) := by rw [HNE.out]; exact HV.out.bx.cell 1
        have gf : w2.frozen? ⟨G, 1, none⟩ = false := HV.out.bx.froz 1
        have x0 : w2.cell? ⟨X, 0, none⟩ = some (.int .i64 x.k) := KX.out.cell 0
        have x1 : w2.cell? ⟨X, 1, none⟩ = some (.int .i64 x.n) := KX.out.cell 1
        have x2 : w2.cell? ⟨X, 2, none⟩ = some (.int .i64 x.pl) := KX.out.cell 2
        have x3 : w2.cell? ⟨X, 3, none⟩ = some (.int .i64 x.op) := KX.out.cell 3
        have x4 : w2.cell? ⟨X, 4, none⟩ = some (.string x.key) := KX.out.cell 4
        have x5 : w2.cell? ⟨X, 5, none⟩ = some (.string x.val) := KX.out.cell 5
        have T1 := hide1 (own_kept HV.out.es (show Below w2.heap.size w2 (w2.alloc (.cells #[.int .i64 x.k, .int .i64 x.n, .int .i64 x.pl, .int .i64 x.op, .string x.key, .string x.val] 40)).drew from (((Below.refl _ _).alloc (Nat.le_refl _) _).drew)))
        rw [← HNE.out] at T1
        have T2 := hide1 (rd_one (y := x) encEv (show Blk (w2.alloc (.cells #[.int .i64 x.k, .int .i64 x.n, .int .i64 x.pl, .int .i64 x.op, .string x.key, .string x.val] 40)).drew w2.heap.size 40 (evC x) from Blk.new w2 40 #[.int .i64 x.k, .int .i64 x.n, .int .i64 x.pl, .int .i64 x.op, .string x.key, .string x.val]))
        have T3 : ne + 1 ≤ 4194304 := by omega
        have T5 := hide1 (show Below w2.heap.size w2 (w2.alloc (.cells #[.int .i64 x.k, .int .i64 x.n, .int .i64 x.pl, .int .i64 x.op, .string x.key, .string x.val] 40)).drew from (((Below.refl _ _).alloc (Nat.le_refl _) _).drew))
        have T4 := hide1 (Nat.le_trans HV.out.hS T5.out.size)
        go_region_law ((refine step_appA encEv rowEv rfl (.tmp 28) (.tmp 30) rfl S (.slice a.ea ne a.ec) ne st.es ?_ T1.out (some ⟨w2.heap.size, 0, none⟩) 1 1 [x] ?_ rfl T2.out T3 T4.out ?_; (rfl); (rfl); intro b5 c5 w5 ho5 hg5 hl5; have HA5 := hide1 ((HV.out.later T5.out).event (x := x) ((HO.out.later EV.out).later T5.out) (by rw [← HNE.out]; exact ho5) (by rw [← HNE.out]; exact hg5) (by rw [← HNE.out]; exact hl5)); rw [← HNE.out] at HA5; have GB := hide1 (gblk hg5 (HV.out.later T5.out).bx (fun e => by have h1 := (T1.out.lt G e).1; have := HV.out.lt; omega)); clear g1 gf ho5 hg5 hl5; have g1 : w5.cell? ⟨G, 1, none⟩ = some (.slice a.ea ne a.ec) := (by rw [HNE.out]; exact GB.out.cell 1); have gf : w5.frozen? ⟨G, 1, none⟩ = false := GB.out.froz 1))
        all_goals
          go_wp2
          go_ret
          rw [RES.out]
          exact ⟨rfl, fun s hs => (by injection hs with hs; subst hs; exact ⟨_, HA5.out.1⟩), (ScF.of EV.out HO.out.lt).trans ((ScF.of T5.out (fun k hk => Nat.lt_of_lt_of_le (HO.out.lt k hk) EV.out.size)).trans HA5.out.2)⟩
      · rw [decide_eq_false c3] at CE
        have RES := hide1 (NO.out (fun h => c3 h.1.1))
        clear c3 c1 c2 NO YES
        go_wp2_with fail
        refine (CE.out _).mono ?_
        rintro e w2 ⟨rfl, hb2⟩
        go_wp2
        go_ret
        rw [RES.out]
        exact ⟨rfl, (fun _ h => by cases h), ScF.of (E0.out.trans (hb2.mono su)) HO.out.lt⟩
end Go.Proofs.YtelmchifpgaibaaDoor
