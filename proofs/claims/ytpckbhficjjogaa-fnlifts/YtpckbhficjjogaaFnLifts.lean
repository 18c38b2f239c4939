/- What is lifted of a drawn place leaves all others as they were; what is laid next takes its slot: whatever is drawn. -/
import Derived.Test.YtpckbhficjjogaaRows
import Derived.ProofKit
import Derived.OpenShut
import Derived.ShutString
import Derived.ChangeOld
import Derived.Test.YtpckbhficjjogaaLawA
namespace Go.Proofs.Ytpckbhficjjogaa
open Go.ChangeShapes Go.WideShapes Go.ChangeAt Go.RowKit
open Go.ChangeMaps (open_string shut_string)
set_option linter.unusedVariables false

theorem upGen_ne {g : Int} (h : 0 ≤ g) : upGen g ≠ g := by unfold upGen; split <;> omega
theorem lifted_none {l : List Sl} {f F h : Int} {k : Nat} (hk : k < l.length) (hat : AtA l f h k) : ∀ j, ¬ AtA (l.set k (lifted l[k] f)) F h j := by
  intro j hj
  have h1 := hj.place
  have h2 := hat.place
  obtain rfl : j = k := by omega
  have := hj.used
  rw [List.getElem_set_self] at this
  simp [lifted] at this
theorem used_new (m : Nat) : ∀ i, i ≤ m → usedN (newL m m) i = 0
  | 0, _ => rfl
  | i + 1, h => by
    have hl : i < (newL m m).length := by rw [newL_length]; omega
    rw [usedN, used_new m i (by omega), List.getElem?_eq_getElem hl, newL_at]
    simp
/-- Two slots of one row each, read as values. -/
theorem eqSlotV10 (a b : Sl) (w : World) : (Op.equalIn 10000 40 (.agg #[.int .i64 a.gen, .bool a.used, .string a.key, .string a.val, .int .i64 a.next]) (.agg #[.int .i64 b.gen, .bool b.used, .string b.key, .string b.val, .int .i64 b.next])).run Try.prog w = .ok (eqSl a b) w := eqSlotV 9998 a b w

/-- A variable that holds a place, in a block; what it reads as. -/
structure Var (w : World) (A b c : Nat) (l : List Sl) (f : Int) : Prop where
  rd : RdA w (some ⟨b, 0, none⟩) l
  blk : Blk w A 26 [.slice (some ⟨b, 0, none⟩) l.length c, .int .i64 f]
theorem Var.later {w w' : World} {A b c : Nat} {l : List Sl} {f : Int} (h : Var w A b c l f) (hb : Below w.heap.size w w') : Var w' A b c l f := ⟨h.rd.later hb, h.blk.below hb h.blk.lt⟩
theorem Var.v0 {w : World} {A b c : Nat} {l : List Sl} {f : Int} (h : Var w A b c l f) : w.cell? ⟨A, 0, none⟩ = some (.slice (some ⟨b, 0, none⟩) l.length c) := h.blk.cell 0
theorem Var.v1 {w : World} {A b c : Nat} {l : List Sl} {f : Int} (h : Var w A b c l f) : w.cell? ⟨A, 1, none⟩ = some (.int .i64 f) := h.blk.cell 1
theorem Var.at {w : World} {A b c : Nat} {l : List Sl} {f : Int} (h : Var w A b c l f) (i : Nat) (hi : i < l.length) : slotAt w b i l[i] := by
  obtain ⟨b0, hb0, _, hsl⟩ := h.rd.at i hi
  obtain rfl : b = b0 := by simpa using hb0
  exact hsl
/-- A new variable that is set to what a call made. -/
theorem Var.new {w : World} {base b c n : Nat} {l : List Sl} (f : Int) (hn : n = l.length) (h : w.ownsRow base 40 5 (.slice (some ⟨b, 0, none⟩) n c) n (sls l)) : Var (w.alloc (.cells #[.slice (some ⟨b, 0, none⟩) n c, .int .i64 f] 26)) w.heap.size b c l f := by
  subst hn
  exact ⟨rdA_of_own (own_kept h ((Below.refl _ _).alloc (Nat.le_refl _) _)), Blk.new w _ _⟩

set_option maxRecDepth 100000 in
set_option maxHeartbeats 4000000 in
theorem walk_FnLifts (a : Option Addr) (len cap : Nat) (w : World) (hr : RowB w a len) :
    Calls Try.prog 5 #[.slice a len cap] w fun e w' => e = .returned (.bool true) ∧ Below w.heap.size w w' := by
  by_cases hbig : len ≤ 1048576
  · have CB := hide1 (big3_no a len cap w hbig)
    have CD := hide1 (drawRight_any w a len cap (hr.code hbig))
    clear hr
    go_enter Try.func5, Try.ntmps5
    go_wp2_with fail
    refine CB.out.mono ?_
    rintro e w1 ⟨rfl, rfl⟩
    go_wp2_with fail
    refine CD.out.mono ?_
    rintro e w1 ⟨b, c, l, f, ky, vl, rfl, hok, _, hown, hb1⟩
    have n24 := hok.most
    have n1 := hok.least
    have HOK := hide1 hok
    have F1 : Hid (Var (w1.alloc (.cells #[.slice (some ⟨b, 0, none⟩) l.length c, .int .i64 f] 26)) w1.heap.size b c l f ∧ Below w.heap.size w (w1.alloc (.cells #[.slice (some ⟨b, 0, none⟩) l.length c, .int .i64 f] 26))) :=
      ⟨Var.new f rfl hown, hb1.alloc hb1.size _⟩
    clear hok hown hb1 CB CD
    go_upto_region 4 with fail
    generalize (w1.alloc (.cells #[.slice (some ⟨b, 0, none⟩) l.length c, .int .i64 f] 26)) = w2 at F1 ⊢
    generalize w1.heap.size = A at F1 ⊢
    obtain ⟨VA, BW⟩ := F1.out
    have VA := hide1 VA
    have BW := hide1 BW
    clear F1
    go_wp2
    go_loopw [6] (fun iv wr => ∃ (i : Nat), i ≤ l.length ∧ iv = .int .i64 (i : Int) ∧ Hid (Var wr A b c l f) ∧ Hid (Below w.heap.size w wr)) (fun iv _ => l.length - (intOf iv).toNat)
    case atStart => exact ⟨0, by omega, rfl, VA, BW⟩
    case round =>
      clear VA BW
      obtain ⟨i, hi, rfl, V0, B0⟩ := hrel
      have v0 := V0.out.v0
      have v1 := V0.out.v1
      by_cases hlt : i < l.length
      · have k1 : (i : Int) < (l.length : Int) := by omega
        rcases hu : l[i].used with _ | _
        · have CH := hide1 (kHandleNo (ca := c) HOK.out V0.out.rd (p := (i : Int)) (by rintro ⟨j, hj, e, h⟩; obtain rfl : i = j := (by omega); rw [hu] at h; cases h))
          go_wp2_with fail
          refine CH.out.mono ?_
          rintro e w3 ⟨rfl, hb3⟩
          have V3 := hide1 (V0.out.later hb3)
          have B3 := hide1 (B0.out.trans (hb3.mono B0.out.size))
          clear hu CH hb3 V0 B0
          go_wp2
          go_roundw
          case rel => exact ⟨i + 1, by omega, by go_num, V3, B3⟩
          case measure => simp [intOf]; omega
        · have CH := hide1 (kHandle (ca := c) HOK.out V0.out.rd hlt hu)
          obtain ⟨g1, g2, g3, g4⟩ := HOK.out.hnd_in hlt
          have HAT := hide1 (HOK.out.hnd_AtA hlt hu)
          have q2 : decide (hnd l i < 0) = false := decide_eq_false (by omega)
          have G2 := hide1 (And.intro g1 g2)
          have HU := hide1 hu
          clear g1 g2 g3 g4 hu
          generalize hnd l i = hv at *
          go_wp2_with fail
          refine CH.out.mono ?_
          rintro e w3 ⟨rfl, hb3⟩
          have V3 := hide1 (V0.out.later hb3)
          have B3 := hide1 (B0.out.trans (hb3.mono B0.out.size))
          have v0 := V3.out.v0
          have v1 := V3.out.v1
          have CL := hide1 (kLift (ca := c) V3.out.rd hlt HAT.out G2.out.2)
          clear CH hb3 V0 B0
          go_wp2_with fail
          refine CL.out.mono ?_
          rintro e w4 ⟨b', c', rfl, hown4, hb4⟩
          obtain ⟨M, hM⟩ : ∃ M, M = l.set i (lifted l[i] f) := ⟨_, rfl⟩
          have hMl : M.length = l.length := by rw [hM, List.length_set]
          have F4 : Hid (Var (w4.alloc (.cells #[.slice (some ⟨b', 0, none⟩) l.length c', .int .i64 (i : Int)] 26)) w4.heap.size b' c' M (i : Int) ∧ Var (w4.alloc (.cells #[.slice (some ⟨b', 0, none⟩) l.length c', .int .i64 (i : Int)] 26)) A b c l f ∧ Below w.heap.size w (w4.alloc (.cells #[.slice (some ⟨b', 0, none⟩) l.length c', .int .i64 (i : Int)] 26))) := by
            refine ⟨?_, V3.out.later (hb4.alloc hb4.size _), (B3.out.trans (hb4.mono B3.out.size)).alloc (by have := B3.out.size; have := hb4.size; omega) _⟩
            rw [← hM] at hown4
            exact Var.new (i : Int) hMl.symm hown4
          have HOM : Hid (OkA M (i : Int)) := by
            show OkA M (i : Int)
            rw [hM]
            exact HOK.out.lift hlt HU.out
          have HNO : Hid (∀ F j, ¬ AtA M F hv j) := by
            intro F j
            rw [hM]
            exact lifted_none hlt HAT.out j
          have hMi : ∃ h : i < M.length, M[i].used = false ∧ M[i].gen = upGen l[i].gen := ⟨by omega, by simp [hM, lifted], by simp [hM, lifted]⟩
          have HMK : Hid (∀ k (hk : k < l.length) (hk2 : k < M.length), k ≠ i → M[k] = l[k]) := by
            intro k hk hk2 hne
            simp only [hM]
            rw [List.getElem_set_ne (fun e => hne e.symm)]
          have HML := hide1 hMl
          clear hown4 hb4 CL V3 B3 hM
          go_upto_region 10 with fail
          generalize (w4.alloc (.cells #[.slice (some ⟨b', 0, none⟩) l.length c', .int .i64 (i : Int)] 26)) = w5 at F4 ⊢
          generalize w4.heap.size = A' at F4 ⊢
          obtain ⟨VM, VL, BW5⟩ := F4.out
          obtain ⟨hiM, hMu, hMg⟩ := hMi
          have m0 := VM.v0
          rw [hMl] at m0
          have y1 := (VM.at i hiM).2.1
          rw [hMu] at y1
          have HMU := hide1 (And.intro hMu hMg)
          have VM := hide1 VM
          have VL := hide1 VL
          have BW5 := hide1 BW5
          clear F4 hMl hMu hMg
          go_wp2
          go_loopw [10] (fun jv wr => ∃ (j : Nat), j ≤ l.length ∧ jv = .int .i64 (j : Int) ∧ Hid (Var wr A b c l f) ∧ Hid (Var wr A' b' c' M (i : Int)) ∧ Hid (Below w.heap.size w wr)) (fun jv _ => l.length - (intOf jv).toNat)
          case atStart => exact ⟨0, by omega, rfl, VL, VM, BW5⟩
          case round =>
            clear VL VM BW5 y1 m0
            obtain ⟨j, hj, rfl, V0, VM, B0⟩ := hrel
            have v0 := V0.out.v0
            have v1 := V0.out.v1
            have u0 := VM.out.v0
            rw [HML.out] at u0
            have u1 := VM.out.v1
            by_cases hjl : j < l.length
            · have j1 : (j : Int) < (l.length : Int) := by omega
              by_cases hji : j = i
              · have q1 : ((j : Int) != (i : Int)) = false := by simp [hji]
                clear hji
                go_upto_region 15 with fail
                go_quiet (fail)
                go_wp2
                go_roundw
                case rel => exact ⟨j + 1, by omega, by go_num, V0.out.later (below_drewN (Below.refl _ _) _), VM.out.later (below_drewN (Below.refl _ _) _), below_drewN B0.out _⟩
                case measure => simp [intOf]; omega
              · have q1 : ((j : Int) != (i : Int)) = true := by simp; omega
                have hjM : j < M.length := by rw [HML.out]; exact hjl
                have hMj := HMK.out j hjl hjM hji
                obtain ⟨x0, x1, x2, x3, x4⟩ := V0.out.at j hjl
                obtain ⟨z0, z1, z2, z3, z4⟩ := VM.out.at j hjM
                rw [hMj] at z0 z1 z2 z3 z4
                rcases huj : l[j].used with _ | _
                · rw [huj] at x1
                  clear z0 z1 z2 z3 z4 x0 x2 x3 x4 huj hMj hji
                  go_upto_region 15 with fail
                  go_quiet (fail)
                  go_wp2
                  go_roundw
                  case rel => exact ⟨j + 1, by omega, by go_num, V0.out.later (below_drewN (Below.refl _ _) _), VM.out.later (below_drewN (Below.refl _ _) _), below_drewN B0.out _⟩
                  case measure => simp [intOf]; omega
                · have hnn : Hid (hnd M j = hnd l j) := by show hnd M j = _; rw [hnd_at hjM, hnd_at hjl, hMj]
                  have CM := hide1 (fun w' (hb : Below wr.heap.size wr w') => kHandle (ca := c') (w := w') HOM.out (VM.out.rd.later hb) hjM (by rw [hMj]; exact huj))
                  have CA := hide1 (fun w' (hb : Below wr.heap.size wr w') => kHandle (ca := c) (w := w') HOK.out (V0.out.rd.later hb) hjl huj)
                  rw [hnn.out, HML.out] at CM
                  have heq : ∀ w, (Op.equalIn 10000 40 (.agg #[.int .i64 l[j].gen, .bool l[j].used, .string l[j].key, .string l[j].val, .int .i64 l[j].next]) (.agg #[.int .i64 l[j].gen, .bool l[j].used, .string l[j].key, .string l[j].val, .int .i64 l[j].next])).run Try.prog w = .ok true w := fun w => by rw [eqSlotV10, eqSl_same]
                  have gS : Try.prog.eqGuardType Try.prog.depth 40 = false := by kernel_rfl
                  rw [huj] at x1 z1 heq
                  generalize hnd l j = hh at *
                  generalize l[j].gen = sg at *
                  generalize l[j].key = sk at *
                  generalize l[j].val = sv at *
                  generalize l[j].next = sn at *
                  have qh : (hh != hh) = false := by simp
                  have KK := hide1 (And.intro v0 (And.intro v1 (And.intro u0 (And.intro u1 (And.intro x0 (And.intro x1 (And.intro x2 (And.intro x3 (And.intro x4 (And.intro z0 (And.intro z1 (And.intro z2 (And.intro z3 z4)))))))))))))
                  have LA := V0.out.blk.lt
                  have LM := VM.out.blk.lt
                  have Lb : b < wr.heap.size := by obtain ⟨b0, hb0, h, _⟩ := V0.out.rd.at j hjl; obtain rfl : b = b0 := (by simpa using hb0); exact h
                  have Lb' : b' < wr.heap.size := by obtain ⟨b0, hb0, h, _⟩ := VM.out.rd.at j hjM; obtain rfl : b' = b0 := (by simpa using hb0); exact h
                  clear huj hMj hji
                  go_upto_region 15 with fail
                  go_region_held3 (fun w' => w'.cell? ⟨A, 0, none⟩ = some (.slice (some ⟨b, 0, none⟩) l.length c) ∧ w'.cell? ⟨A, 1, none⟩ = some (.int .i64 f) ∧ w'.cell? ⟨A', 0, none⟩ = some (.slice (some ⟨b', 0, none⟩) l.length c') ∧ w'.cell? ⟨A', 1, none⟩ = some (.int .i64 (i : Int)) ∧ w'.cell? ⟨b, j * 5, none⟩ = some (.int .i64 sg) ∧ w'.cell? ⟨b, j * 5 + 1, none⟩ = some (.bool true) ∧ w'.cell? ⟨b, j * 5 + 2, none⟩ = some (.string sk) ∧ w'.cell? ⟨b, j * 5 + 3, none⟩ = some (.string sv) ∧ w'.cell? ⟨b, j * 5 + 4, none⟩ = some (.int .i64 sn) ∧ w'.cell? ⟨b', j * 5, none⟩ = some (.int .i64 sg) ∧ w'.cell? ⟨b', j * 5 + 1, none⟩ = some (.bool true) ∧ w'.cell? ⟨b', j * 5 + 2, none⟩ = some (.string sk) ∧ w'.cell? ⟨b', j * 5 + 3, none⟩ = some (.string sv) ∧ w'.cell? ⟨b', j * 5 + 4, none⟩ = some (.int .i64 sn)) (first | exact ⟨(HBc.cell LA).trans KK.out.1, (HBc.cell LA).trans KK.out.2.1, (HBc.cell LM).trans KK.out.2.2.1, (HBc.cell LM).trans KK.out.2.2.2.1, (HBc.cell Lb).trans KK.out.2.2.2.2.1, (HBc.cell Lb).trans KK.out.2.2.2.2.2.1, (HBc.cell Lb).trans KK.out.2.2.2.2.2.2.1, (HBc.cell Lb).trans KK.out.2.2.2.2.2.2.2.1, (HBc.cell Lb).trans KK.out.2.2.2.2.2.2.2.2.1, (HBc.cell Lb').trans KK.out.2.2.2.2.2.2.2.2.2.1, (HBc.cell Lb').trans KK.out.2.2.2.2.2.2.2.2.2.2.1, (HBc.cell Lb').trans KK.out.2.2.2.2.2.2.2.2.2.2.2.1, (HBc.cell Lb').trans KK.out.2.2.2.2.2.2.2.2.2.2.2.2.1, (HBc.cell Lb').trans KK.out.2.2.2.2.2.2.2.2.2.2.2.2.2⟩ | exact KK.out) ((first | (go_at_call 20; refine (CA.out _ HBc).mono ?_; rintro e wk2 ⟨rfl, hbk⟩; have HBc : Below wr.heap.size wr wk2 := HBc.trans (hbk.mono HBc.size)) | (go_at_call 20; refine (CM.out wr.drew (Below.refl _ _).drew).mono ?_; rintro e wk ⟨rfl, hbk⟩; have HBc : Below wr.heap.size wr wk := (Below.refl _ _).drew.trans hbk)))
                  have V9 := hide1 (V0.out.later HBc)
                  have VM9 := hide1 (VM.out.later HBc)
                  have B9 := hide1 (B0.out.trans (HBc.mono B0.out.size))
                  go_wp2
                  go_roundw
                  case rel => exact ⟨j + 1, by omega, by go_num, V9, VM9, B9⟩
                  case measure => simp [intOf]; omega
            · obtain rfl : j = l.length := by omega
              have j1 : decide ((l.length : Int) < (l.length : Int)) = false := by simp
              have hiM2 : i < M.length := by rw [HML.out]; exact hlt
              have CY := hide1 (kLay (ca := c') HOM.out VM.out.rd hiM2 (ky := ⟨#[113]⟩) (vl := ⟨#[]⟩) ⟨by decide, by decide, by decide⟩)
              rw [HML.out] at CY
              obtain ⟨p1, p2, p3, p4⟩ := HOM.out.hnd_in hiM2
              obtain ⟨hn, hhn⟩ := Int.eq_ofNat_of_zero_le p1
              rw [hhn] at p3 CY
              have q3 : (hn : Int) % 24 = (i : Int) := p3
              have q4 : ((i : Int) != (i : Int)) = false := by simp
              generalize hnx : M[i].next = nx at CY
              clear p1 p2 p3 p4 hhn hnx
              go_wp2_with fail
              refine CY.out.mono ?_
              rintro e w6 ⟨b2, c2, rfl, hown6, hb6⟩
              have F6 : Hid (slotAt (w6.alloc (.cells #[.slice (some ⟨b2, 0, none⟩) l.length c2, .int .i64 nx] 26)) b2 i ⟨M[i].gen, true, ⟨#[113]⟩, ⟨#[]⟩, 0⟩ ∧ Blk (w6.alloc (.cells #[.slice (some ⟨b2, 0, none⟩) l.length c2, .int .i64 nx] 26)) w6.heap.size 26 [.slice (some ⟨b2, 0, none⟩) l.length c2, .int .i64 nx] ∧ Var (w6.alloc (.cells #[.slice (some ⟨b2, 0, none⟩) l.length c2, .int .i64 nx] 26)) A b c l f ∧ Var (w6.alloc (.cells #[.slice (some ⟨b2, 0, none⟩) l.length c2, .int .i64 nx] 26)) A' b' c' M (i : Int) ∧ Below w.heap.size w (w6.alloc (.cells #[.slice (some ⟨b2, 0, none⟩) l.length c2, .int .i64 nx] 26))) := by
                refine ⟨?_, Blk.new w6 _ _, V0.out.later (hb6.alloc hb6.size _), VM.out.later (hb6.alloc hb6.size _), (B0.out.trans (hb6.mono B0.out.size)).alloc (by have := B0.out.size; have := hb6.size; omega) _⟩
                have hv := Var.new (c := c2) nx (show l.length = (M.set i ⟨M[i].gen, true, ⟨#[113]⟩, ⟨#[]⟩, 0⟩).length by rw [List.length_set, HML.out]) hown6
                have := hv.at i (by rw [List.length_set]; exact hiM2)
                rw [List.getElem_set_self] at this
                exact this
              clear hown6 hb6 CY V0 VM B0 v0 v1 u0 u1
              go_upto_region 18 with fail
              generalize (w6.alloc (.cells #[.slice (some ⟨b2, 0, none⟩) l.length c2, .int .i64 nx] 26)) = w7 at F6 ⊢
              generalize w6.heap.size = A2 at F6 ⊢
              obtain ⟨hsl, hbk, V7, VM7, B7⟩ := F6.out
              have s1 : w7.cell? ⟨b2, i * 5 + 1, none⟩ = some (.bool true) := hsl.2.1
              have t0 : w7.cell? ⟨A2, 0, none⟩ = some (.slice (some ⟨b2, 0, none⟩) l.length c2) := hbk.cell 0
              have u0 := VM7.v0
              rw [HML.out] at u0
              have u1 := VM7.v1
              have CN := hide1 (kLiftNo (ca := c') (f := (i : Int)) (h := hv) (by rw [HML.out]; exact n24) VM7.rd (HNO.out _) (by have := G2.out.1; omega) G2.out.2)
              rw [HML.out] at CN
              have V7 := hide1 V7
              have B7 := hide1 B7
              clear F6 hsl hbk VM7
              go_wp2_with fail
              refine CN.out.mono ?_
              rintro e w8 ⟨rfl, hb8⟩
              have V8 : Hid (Var (w8.alloc (.cells #[.slice none 0 0, .int .i64 0] 26)) A b c l f) := V7.out.later (hb8.alloc hb8.size _)
              have B8 : Hid (Below w.heap.size w (w8.alloc (.cells #[.slice none 0 0, .int .i64 0] 26))) := (B7.out.trans (hb8.mono B7.out.size)).alloc (by have := B7.out.size; have := hb8.size; omega) _
              clear CN hb8 V7 B7
              go_wp2
              go_roundw
              case rel => exact ⟨i + 1, by omega, by go_num, V8, B8⟩
              case measure => simp [intOf]; omega
      · obtain rfl : i = l.length := by omega
        have k1 : decide ((l.length : Int) < (l.length : Int)) = false := by simp
        have CN := hide1 (fun w => kNew n1 n24 w)
        go_wp2_with fail
        refine (CN.out _).mono ?_
        rintro e w3 ⟨b', c', rfl, hown3, hb3⟩
        have F3 : Hid (Var (w3.alloc (.cells #[.slice (some ⟨b', 0, none⟩) l.length c', .int .i64 0] 26)) w3.heap.size b' c' (newL l.length l.length) 0 ∧ Below w.heap.size w (w3.alloc (.cells #[.slice (some ⟨b', 0, none⟩) l.length c', .int .i64 0] 26))) :=
          ⟨Var.new 0 (newL_length _ _).symm hown3, (B0.out.trans (hb3.mono B0.out.size)).alloc (by have := B0.out.size; have := hb3.size; omega) _⟩
        have HON := hide1 (OkA.new l.length n1 n24)
        have HUN := hide1 (used_new l.length l.length (Nat.le_refl _))
        clear hown3 hb3 CN V0 B0 v0 v1
        go_upto_region 24 with fail
        generalize (w3.alloc (.cells #[.slice (some ⟨b', 0, none⟩) l.length c', .int .i64 0] 26)) = w4 at F3 ⊢
        generalize w3.heap.size = A' at F3 ⊢
        obtain ⟨VN, B4⟩ := F3.out
        have v0 := VN.v0
        rw [newL_length] at v0
        have v1 := VN.v1
        have CU := hide1 (kUsed (ca := c') HON.out VN.rd)
        rw [newL_length, HUN.out] at CU
        have VN := hide1 VN
        have B4 := hide1 B4
        clear F3
        go_wp2_with fail
        refine CU.out.mono ?_
        rintro e w5 ⟨rfl, hb5⟩
        have V5 := hide1 (VN.out.later hb5)
        have v0 := V5.out.v0
        rw [newL_length] at v0
        have v1 := V5.out.v1
        have B5 := hide1 (B4.out.trans (hb5.mono B4.out.size))
        have CO := hide1 (kOk (ca := c') HON.out V5.out.rd)
        rw [newL_length] at CO
        clear CU hb5 VN B4
        go_wp2_with fail
        refine CO.out.mono ?_
        rintro e w6 ⟨rfl, hb6⟩
        go_wp2
        go_ret
        exact ⟨rfl, B5.out.trans (hb6.mono B5.out.size)⟩
  · have CB := hide1 (big3_yes a len cap w hbig)
    go_enter Try.func5, Try.ntmps5
    go_wp2_with fail
    refine CB.out.mono ?_
    rintro e w1 ⟨rfl, rfl⟩
    go_wp2
    go_ret
    exact ⟨rfl, Below.refl _ _⟩

set_option maxRecDepth 100000 in
theorem lifted_FnLifts (os : Os) (started : os.Started) (H : Type) (enc : TypeId × Value → H) :
    ReturnsInHanded {} Try.checked os 5 .any (Rows.fnLiftsSpec.pre6 enc Try.prog Try.f5 Rows.fnLiftsRow.domain false) (Rows.fnLiftsSpec.post enc Try.prog Try.f5 false true false false) := by
  refine returnsInHanded_of_change (C := Try.checked) (show ownKnob Try.prog.godebug = none by kernel_rfl) started (by kernel_rfl) Try.func5
    (ChangeSpec.witness6 (enc := enc) (C := Try.checked) false ⟨#[], #[.slice none 0 0], []⟩ 8 (by kernel_rfl) (by kernel_rfl) (by kernel_rfl) (by kernel_rfl)) ?_
  intro W base args ds gs before hval0 hW hcnd _
  have hval : ∀ (j : Nat) t v, Try.f5.params[j]? = some t → args[j]? = some v → Value.okWide Try.prog W .any base t v := hval0
  have hW' := hW
  obtain ⟨p, q, hA0, hV, rfl, hfz, hnd⟩ := hW
  have hA : DataW.TrodAll enc Try.prog W 0 (fun _ => true) true Try.f5.params.toList args.toList ds p := hA0
  rw [Try.params5] at hA hval
  obtain ⟨v0, d0, rfl, rfl, h0⟩ := trodAll_one hA
  obtain ⟨rfl, rfl⟩ := trodVars_none hV
  obtain ⟨a0, len0, cap0, rfl⟩ := okWide_slice Try.underlying22 (hval 0 22 v0 rfl rfl)
  have k0 := h0
  have lt0 : ∀ x ∈ p, x.block < W.heap.size := by obtain ⟨m, hm⟩ := k0; exact DataW.trod_lt m _ _ _ hm
  have r0 : RowB W a0 len0 := by
    obtain ⟨fuel, hf⟩ := h0
    rcases open_ints Try.underlying22 Try.underlying5 (by kernel_rfl) hf with ⟨hcs, _⟩ | ⟨x, l, c, zs, hcs, _, hl, hm, hz, _, hcell, hwz⟩
    · simp [Value.cells] at hcs
      obtain ⟨rfl, rfl, rfl⟩ := hcs
      exact fun j hj => absurd hj (Nat.not_lt_zero _)
    · simp [Value.cells] at hcs
      obtain ⟨rfl, rfl, rfl⟩ := hcs
      exact rowB_of hl (by simpa using hz) hcell (fun n hn => bounds_u8 (hwz n hn))
  clear hA0 hval0
  refine (walk_FnLifts a0 len0 cap0 W r0).mono fun e W' ⟨he, bel⟩ => ?_
  subst he
  exact ⟨_, rfl, _, _, _, [], _, [], hW', trodAll_mk1 (shut_bool Try.underlying4 _), trodAll_mk1 (Below.trod (show laidOutB Try.prog = true by kernel_rfl) (by kernel_rfl) (of_decide_eq_true (by kernel_rfl)) k0 bel lt0), rfl, bel.frame _, fun h => by cases h⟩

theorem proved_FnLifts : Rows.FnLiftsSaid :=
  OpenClaim.holds_of_wide 5 Try.f5 rfl rfl rfl rfl rfl rfl rfl ⟨rfl, rfl, rfl, rfl, rfl⟩ rfl rfl rfl rfl rfl (by kernel_rfl) Try.func5 (by kernel_rfl)
    (of_decide_eq_true (by kernel_rfl)) (by unfold Func.isWrapper; first | (rw [if_pos (by decide +kernel)]; kernel_rfl) | (rw [if_neg (by decide +kernel)]; exact ⟨rfl, rfl⟩))
    (fun os started H enc _ => lifted_FnLifts os started H enc)
#print axioms proved_FnLifts
end Go.Proofs.Ytpckbhficjjogaa
