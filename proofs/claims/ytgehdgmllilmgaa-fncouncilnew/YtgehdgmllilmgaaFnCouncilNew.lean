/- A new council has heard nothing and chosen nothing. -/
import Derived.Test.YtgehdgmllilmgaaRows
import Derived.ProofKit
import Derived.OpenShut
import Derived.ShutString
import Derived.ChangeOld
import Derived.Test.YtgehdgmllilmgaaLawB
import Derived.Test.YtgehdgmllilmgaaCoZ
import Derived.Test.YtgehdgmllilmgaaCoO
import Derived.Test.YtgehdgmllilmgaaCnI
namespace Go.Proofs.Ytgehdgmllilmgaa
open Go.ChangeShapes Go.WideShapes Go.ChangeAt Go.RowKit
open Go.ChangeMaps (open_string shut_string)
set_option linter.unusedVariables false

set_option maxRecDepth 100000 in
set_option maxHeartbeats 4000000 in
theorem walk_FnCouncilNew (a : Option Addr) (len cap : Nat) (w : World) (hr : RowB w a len) :
    Calls Try.prog 6 #[.slice a len cap] w fun e w' => e = .returned (.bool true) ∧ Below w.heap.size w w' := by
  by_cases hbig : len ≤ 1048576
  · have CB := hide1 (big11_no a len cap w hbig)
    have CD := hide1 (drawCN_any w a len cap (hr.code hbig))
    clear hr
    go_enter Try.func6, Try.ntmps6
    go_wp2_with fail
    refine CB.out.mono ?_
    rintro e w1 ⟨rfl, rfl⟩
    clear CB
    go_wp2_with fail
    refine CD.out.mono ?_
    rintro e w1 ⟨v, t, rfl, hv, ht, hb1⟩
    have B1 := hide1 hb1
    clear hb1 CD
    go_wp2_with fail
    refine (implNewC_any v t w1).mono ?_
    rintro e w2 ⟨⟨A, rfl, hA⟩, hb2⟩
    have HA := hide1 (hA w2.heap.size (.inr (Nat.le_refl _)))
    have B2 := hide1 hb2
    clear hA hb2
    have CS := hide1 (fun w' => specNewC_any (lo := fun _ => True) v t w' (LoLe.all _))
    by_cases c : okNew v t
    · obtain ⟨⟨c1, c2⟩, c3, c4⟩ := id c
      obtain ⟨vn, rfl⟩ : ∃ n : Nat, v = (n : Int) := ⟨v.toNat, by omega⟩
      obtain ⟨tn, rfl⟩ : ∃ n : Nat, t = (n : Int) := ⟨t.toNat, by omega⟩
      have E1 := hide1 (show newC (vn : Int) (tn : Int) = newCn vn tn by unfold newC; rw [if_pos c, Int.toNat_natCast, Int.toNat_natCast])
      have E2 := hide1 (decide_eq_true c)
      rw [E1.out, E2.out]
      rw [E1.out] at HA
      clear c
      rw [newCn_cells]
      have F5 := hide1 (And.intro (Blk.new w2 32 #[.slice A.va vn A.vc, .slice A.ta tn A.tc, .slice A.na 0 A.nc, .slice A.ca 0 A.cc]) ((Below.refl w2.heap.size w2).alloc (Nat.le_refl _) (.cells #[.slice A.va vn A.vc, .slice A.ta tn A.tc, .slice A.na 0 A.nc, .slice A.ca 0 A.cc] 32)))
      go_wp2_with fail
      generalize (w2.alloc (.cells #[.slice A.va vn A.vc, .slice A.ta tn A.tc, .slice A.na 0 A.nc, .slice A.ca 0 A.cc] 32)) = w3 at F5 ⊢
      refine (CS.out w3).mono ?_
      rintro e w4 ⟨⟨A', rfl, _⟩, hb4⟩
      rw [E1.out, E2.out, newCn_cells]
      obtain ⟨C, hC⟩ : ∃ C, C = w2.heap.size := ⟨_, rfl⟩
      have K5 := hide1 (F5.out.1.below hb4 F5.out.1.lt)
      have B4 := hide1 (F5.out.2.trans (hb4.mono F5.out.2.size))
      rw [← hC] at K5 ⊢
      have lC : C < w4.heap.size := K5.out.lt
      have BF := hide1 (B1.out.trans ((B2.out.trans (B4.out.mono B2.out.size)).mono B1.out.size))
      have lw1 : w1.heap.size ≤ w4.heap.size := Nat.le_trans B2.out.size B4.out.size
      clear hb4 F5 CS hC
      have y0 : w4.cell? ⟨C, 0, none⟩ = some (.slice A.va vn A.vc) := K5.out.cell 0
      have y1 : w4.cell? ⟨C, 1, none⟩ = some (.slice A.ta tn A.tc) := K5.out.cell 1
      have y2 : w4.cell? ⟨C, 2, none⟩ = some (.slice A.na 0 A.nc) := K5.out.cell 2
      have y3 : w4.cell? ⟨C, 3, none⟩ = some (.slice A.ca 0 A.cc) := K5.out.cell 3
      obtain ⟨ib, io, hia, hil, hic⟩ := newCn_id HA.out (show 0 < tn by omega)
      have j0 : w4.cell? ⟨ib, io + (tn - 1) * 7, none⟩ = some (.int .i64 (tn : Int)) := (B4.out.cell hil).trans hic
      have li : ib < w4.heap.size := Nat.lt_of_lt_of_le hil B4.out.size
      have CO := hide1 (fun w' => implOne_any (newCn vn tn) A w' (by simp [newCn]) (RdG.nil _ _))
      rw [(newCn_len vn tn).1, (newCn_len vn tn).2.1, (newCn_len vn tn).2.2.1, (newCn_len vn tn).2.2.2] at CO
      rw [hia] at y1 CO
      have HI := hide1 hia
      clear hia hic HA
      have q1 : ((vn : Int) == (vn : Int)) = true := by simp
      have q2 : ((tn : Int) == (tn : Int)) = true := by simp
      have qt : (tn : Int) - 1 = ((tn - 1 : Nat) : Int) := by omega
      have qw : IntKind.i64.wrap ((tn : Int) - 1) = ((tn - 1 : Nat) : Int) := by rw [qt]; exact IntWalk.i64_in _ ⟨by omega, by omega⟩
      have k1 : ((tn - 1 : Nat) : Int) < (tn : Int) := by omega
      have k0 : (0 : Int) ≤ ((tn - 1 : Nat) : Int) := by omega
      have F7 := hide1 ((Below.refl w4.heap.size w4).alloc (Nat.le_refl _) (.cells #[.slice A'.va vn A'.vc, .slice A'.ta tn A'.tc, .slice A'.na 0 A'.nc, .slice A'.ca 0 A'.cc] 32))
      go_wp2_with fail
      generalize (w4.alloc (.cells #[.slice A'.va vn A'.vc, .slice A'.ta tn A'.tc, .slice A'.na 0 A'.nc, .slice A'.ca 0 A'.cc] 32)) = w5 at F7 ⊢
      refine (CO.out w5).mono ?_
      rintro e w6 ⟨rfl, hb6⟩
      have B6 := hide1 (F7.out.trans (hb6.mono F7.out.size))
      have z1 : w6.cell? ⟨C, 1, none⟩ = some (.slice (some ⟨ib, io, none⟩) tn A.tc) := (B6.out.cell lC).trans y1
      have z0 : w6.cell? ⟨ib, io + (tn - 1) * 7, none⟩ = some (.int .i64 (tn : Int)) := (B6.out.cell li).trans j0
      clear y0 y1 y2 y3 j0 CO hb6 F7
      rw [show oneL (newCn vn tn).ch = true from rfl]
      go_wp2
      go_ret
      exact ⟨rfl, BF.out.trans (B6.out.mono BF.out.size)⟩
    · have E1 := hide1 (show newC v t = zeroCn by unfold newC; rw [if_neg c])
      have E2 := hide1 (decide_eq_false c)
      rw [E1.out, E2.out]
      clear c
      rw [zeroCn_cells]
      have F5 := hide1 (And.intro (Blk.new w2 32 #[.slice A.va 0 A.vc, .slice A.ta 0 A.tc, .slice A.na 0 A.nc, .slice A.ca 0 A.cc]) ((Below.refl w2.heap.size w2).alloc (Nat.le_refl _) (.cells #[.slice A.va 0 A.vc, .slice A.ta 0 A.tc, .slice A.na 0 A.nc, .slice A.ca 0 A.cc] 32)))
      go_wp2_with fail
      generalize (w2.alloc (.cells #[.slice A.va 0 A.vc, .slice A.ta 0 A.tc, .slice A.na 0 A.nc, .slice A.ca 0 A.cc] 32)) = w3 at F5 ⊢
      refine (CS.out w3).mono ?_
      rintro e w4 ⟨⟨A', rfl, _⟩, hb4⟩
      rw [E1.out, E2.out, zeroCn_cells]
      obtain ⟨C, hC⟩ : ∃ C, C = w2.heap.size := ⟨_, rfl⟩
      have K5 := hide1 (F5.out.1.below hb4 F5.out.1.lt)
      have B4 := hide1 (F5.out.2.trans (hb4.mono F5.out.2.size))
      rw [← hC] at K5 ⊢
      have lC : C < w4.heap.size := K5.out.lt
      have BF := hide1 (B1.out.trans ((B2.out.trans (B4.out.mono B2.out.size)).mono B1.out.size))
      have lw1 : w1.heap.size ≤ w4.heap.size := Nat.le_trans B2.out.size B4.out.size
      clear hb4 F5 CS hC
      have y0 : w4.cell? ⟨C, 0, none⟩ = some (.slice A.va 0 A.vc) := K5.out.cell 0
      have y1 : w4.cell? ⟨C, 1, none⟩ = some (.slice A.ta 0 A.tc) := K5.out.cell 1
      have y2 : w4.cell? ⟨C, 2, none⟩ = some (.slice A.na 0 A.nc) := K5.out.cell 2
      have y3 : w4.cell? ⟨C, 3, none⟩ = some (.slice A.ca 0 A.cc) := K5.out.cell 3
      go_wp2
      go_ret
      exact ⟨rfl, BF.out.alloc BF.out.size _⟩
  · have CB := hide1 (big11_yes a len cap w hbig)
    go_enter Try.func6, Try.ntmps6
    go_wp2_with fail
    refine CB.out.mono ?_
    rintro e w1 ⟨rfl, rfl⟩
    go_wp2
    go_ret
    exact ⟨rfl, Below.refl _ _⟩

set_option maxRecDepth 100000 in
theorem lifted_FnCouncilNew (os : Os) (started : os.Started) (H : Type) (enc : TypeId × Value → H) :
    ReturnsInHanded {} Try.checked os 6 .any (Rows.fnCouncilNewSpec.pre6 enc Try.prog Try.f6 Rows.fnCouncilNewRow.domain false) (Rows.fnCouncilNewSpec.post enc Try.prog Try.f6 false true false false) := by
  refine returnsInHanded_of_change (C := Try.checked) (show ownKnob Try.prog.godebug = none by kernel_rfl) started (by kernel_rfl) Try.func6
    (ChangeSpec.witness6 (enc := enc) (C := Try.checked) false ⟨#[], #[.slice none 0 0], []⟩ 8 (by kernel_rfl) (by kernel_rfl) (by kernel_rfl) (by kernel_rfl)) ?_
  intro W base args ds gs before hval0 hW hcnd _
  have hval : ∀ (j : Nat) t v, Try.f6.params[j]? = some t → args[j]? = some v → Value.okWide Try.prog W .any base t v := hval0
  have hW' := hW
  obtain ⟨p, q, hA0, hV, rfl, hfz, hnd⟩ := hW
  have hA : DataW.TrodAll enc Try.prog W 0 (fun _ => true) true Try.f6.params.toList args.toList ds p := hA0
  rw [Try.params6] at hA hval
  obtain ⟨v0, d0, rfl, rfl, h0⟩ := trodAll_one hA
  obtain ⟨rfl, rfl⟩ := trodVars_none hV
  obtain ⟨a0, len0, cap0, rfl⟩ := okWide_slice Try.underlying22 (hval 0 22 v0 rfl rfl)
  have k0 := h0
  have lt0 : ∀ x ∈ p, x.block < W.heap.size := by obtain ⟨m, hm⟩ := k0; exact DataW.trod_lt m _ _ _ hm
  have r0 : RowB W a0 len0 := by
    obtain ⟨fuel, hf⟩ := h0
    rcases Go.ChangeShapes.open_ints Try.underlying22 Try.underlying5 (by kernel_rfl) hf with ⟨hcs, _⟩ | ⟨x, l, c, zs, hcs, _, hl, hm, hz, _, hcell, hwz⟩
    · simp [Value.cells] at hcs
      obtain ⟨rfl, rfl, rfl⟩ := hcs
      exact fun j hj => absurd hj (Nat.not_lt_zero _)
    · simp [Value.cells] at hcs
      obtain ⟨rfl, rfl, rfl⟩ := hcs
      exact rowB_of hl (by simpa using hz) hcell (fun n hn => bounds_u8 (hwz n hn))
  clear hA0 hval0
  refine (walk_FnCouncilNew a0 len0 cap0 W r0).mono fun e W' ⟨he, bel⟩ => ?_
  subst he
  exact ⟨_, rfl, _, _, _, [], _, [], hW', trodAll_mk1 (shut_bool Try.underlying4 _), trodAll_mk1 (Below.trod (show laidOutB Try.prog = true by kernel_rfl) (by kernel_rfl) (of_decide_eq_true (by kernel_rfl)) k0 bel lt0), rfl, bel.frame _, fun h => by cases h⟩

theorem proved_FnCouncilNew : Rows.FnCouncilNewSaid :=
  OpenClaim.holds_of_wide 6 Try.f6 rfl rfl rfl rfl rfl rfl rfl ⟨rfl, rfl, rfl, rfl, rfl⟩ rfl rfl rfl rfl rfl (by kernel_rfl) Try.func6 (by kernel_rfl)
    (of_decide_eq_true (by kernel_rfl)) (by unfold Func.isWrapper; first | (rw [if_pos (by decide +kernel)]; kernel_rfl) | (rw [if_neg (by decide +kernel)]; exact ⟨rfl, rfl⟩))
    (fun os started H enc _ => lifted_FnCouncilNew os started H enc)
#print axioms proved_FnCouncilNew
end Go.Proofs.Ytgehdgmllilmgaa
