/- Decisions by the model: a note said, a try put into its place. -/
import Derived.Test.YtgehdgmllilmgaaYM
import Derived.Deep.RegionHeld3
import Derived.Deep.RegionLaw
import Derived.Deep.DeepCutAuto
namespace Go.Proofs.Ytgehdgmllilmgaa
open Go.RowKit
set_option linter.unusedVariables false
variable {lo : Nat → Prop}

set_option maxRecDepth 100000 in
set_option maxHeartbeats 8000000 in
theorem specSay_any (c : Cn) (m : Nt) (B : Nat) (A : CA) (w : World) (h : VaC lo w B A c) (hn2 : c.ns.length ≤ 1000000) :
    Calls Try.prog 79 #[.pointer (some ⟨B, 0, none⟩), ntV m] w fun e w' => e = .returned (.tuple #[]) ∧ (∃ na nc, VaC lo w' B { A with na := na, nc := nc } { c with ns := c.ns ++ [m] }) ∧ w.grownBy w' (some B) := by
  have F0 := hide1 (And.intro (Blk.new w 111 #[.int .i64 m.k, .int .i64 m.f, .int .i64 m.o, .int .i64 m.b, .int .i64 m.t, .string m.v]) ((Below.refl w.heap.size w).alloc (Nat.le_refl _) (.cells #[.int .i64 m.k, .int .i64 m.f, .int .i64 m.o, .int .i64 m.b, .int .i64 m.t, .string m.v] 111)))
  have HV := hide1 h
  have lBw : B < w.heap.size := h.b.lt
  clear h
  unfold ntV
  go_enter Try.func79, Try.ntmps79
  go_wp2_with fail
  generalize (w.alloc (.cells #[.int .i64 m.k, .int .i64 m.f, .int .i64 m.o, .int .i64 m.b, .int .i64 m.t, .string m.v] 111)) = u at F0 ⊢
  obtain ⟨X, hX⟩ : ∃ X, X = w.heap.size := ⟨_, rfl⟩
  have HB := hide1 (HV.out.b.below F0.out.2 lBw)
  have HR := hide1 (HV.out.r.n.later F0.out.2)
  have FX := hide1 F0.out.1
  rw [← hX] at FX ⊢
  have HX := hide1 hX
  have lB : B < u.heap.size := HB.out.lt
  have lX : X < u.heap.size := FX.out.lt
  have hne : B ≠ X := by omega
  clear hX

  have HZ := hide1 (HB.out.froz 2)
  have hz : u.frozen? ⟨B, 2, none⟩ = false := HZ.out
  have g0 : u.cell? ⟨B, 2, none⟩ = some (.slice A.na c.ns.length A.nc) := HB.out.cell 2
  have G0 := hide1 g0
  have h0 : u.cell? ⟨X, 0, none⟩ = some (.int .i64 m.k) := FX.out.cell 0
  have H0 := hide1 h0
  have h1 : u.cell? ⟨X, 1, none⟩ = some (.int .i64 m.f) := FX.out.cell 1
  have H1 := hide1 h1
  have h2 : u.cell? ⟨X, 2, none⟩ = some (.int .i64 m.o) := FX.out.cell 2
  have H2 := hide1 h2
  have h3 : u.cell? ⟨X, 3, none⟩ = some (.int .i64 m.b) := FX.out.cell 3
  have H3 := hide1 h3
  have h4 : u.cell? ⟨X, 4, none⟩ = some (.int .i64 m.t) := FX.out.cell 4
  have H4 := hide1 h4
  have h5 : u.cell? ⟨X, 5, none⟩ = some (.string m.v) := FX.out.cell 5
  have H5 := hide1 h5
  go_region_law ((first | (have := E4.out; refine step_pushG encN rowN rfl (.tmp 10) (.tmp 12) rfl u.heap.size b4 c.ns.length c4 c.ns rfl (by first | exact O4.out | exact O4.out.alloc _ | exact O4.out.drew) _ (m) rfl (by first | exact ZM.out | exact Blk.new _ _ _ | exact blkE1 _ _) hn2 (by have := E4.out.size; go_size) ?_; intro b5 c5 w5 ho5 hb5; have E5 : Hid (Below u.heap.size u w5) := E4.out.trans ((show Below u.heap.size w4 _ by go_grown).trans hb5); have O5 := hide1 ho5; have s5 := E5.out.size; have hz : w5.frozen? ⟨B, 2, none⟩ = false := (E5.out.frozen lB).trans HZ.out; clear ho5 hb5 h0 h1 h2 h3 h4 h5 g0; have h0 : w5.cell? ⟨X, 0, none⟩ = some (.int .i64 m.k) := (E5.out.cell lX).trans H0.out; have h1 : w5.cell? ⟨X, 1, none⟩ = some (.int .i64 m.f) := (E5.out.cell lX).trans H1.out; have h2 : w5.cell? ⟨X, 2, none⟩ = some (.int .i64 m.o) := (E5.out.cell lX).trans H2.out; have h3 : w5.cell? ⟨X, 3, none⟩ = some (.int .i64 m.b) := (E5.out.cell lX).trans H3.out; have h4 : w5.cell? ⟨X, 4, none⟩ = some (.int .i64 m.t) := (E5.out.cell lX).trans H4.out; have h5 : w5.cell? ⟨X, 5, none⟩ = some (.string m.v) := (E5.out.cell lX).trans H5.out; have g0 : w5.cell? ⟨B, 2, none⟩ = some (.slice A.na c.ns.length A.nc) := (E5.out.cell lB).trans G0.out) | (refine step_copyG encN rowN rfl (.tmp 5) (.tmp 9) rfl u.heap.size _ rfl (by first | exact Blk.new _ _ _ | exact blkE1 _ _ | exact Blk.more (Blk.new _ _ _) _ | exact blkE2 _ _ _ | exact (blkN2 _ _ _ _ _).2.1 | exact blkE3 _ _ _) (by first | exact Nat.le_refl _ | exact Nat.le_succ _) A.na c.ns.length A.nc c.ns rfl rfl (HR.out.later (by go_grown)) (by omega) ?_; intro b4 c4 w4 ho4 hb4 hg4; have E4 : Hid (Below u.heap.size u w4) := (show Below u.heap.size u _ by go_grown).trans hb4; have O4 := hide1 ho4; (first | (have ZM := hide1 (zM1D hg4)) | (have ZM := hide1 (zM2D hg4)) | (have ZM := hide1 (zM1 hg4)) | (have ZM := hide1 (zM2 hg4)) | skip); have s4 := E4.out.size; clear ho4 hb4 hg4 h0 h1 h2 h3 h4 h5 g0; have h0 : w4.cell? ⟨X, 0, none⟩ = some (.int .i64 m.k) := (E4.out.cell lX).trans H0.out; have h1 : w4.cell? ⟨X, 1, none⟩ = some (.int .i64 m.f) := (E4.out.cell lX).trans H1.out; have h2 : w4.cell? ⟨X, 2, none⟩ = some (.int .i64 m.o) := (E4.out.cell lX).trans H2.out; have h3 : w4.cell? ⟨X, 3, none⟩ = some (.int .i64 m.b) := (E4.out.cell lX).trans H3.out; have h4 : w4.cell? ⟨X, 4, none⟩ = some (.int .i64 m.t) := (E4.out.cell lX).trans H4.out; have h5 : w4.cell? ⟨X, 5, none⟩ = some (.string m.v) := (E4.out.cell lX).trans H5.out; have g0 : w4.cell? ⟨B, 2, none⟩ = some (.slice A.na c.ns.length A.nc) := (E4.out.cell lB).trans G0.out)))
  all_goals
    refine bodyPost_end (results_none Try.results79 _ _ _) rfl ?_
    have e1 : (c.ns ++ [m]).length = c.ns.length + 1 := by simp
    have hw : Below w.heap.size w w5 := F0.out.2.trans (E5.out.mono F0.out.2.size)
    have P := VaC.putN (l := c.ns ++ [m]) HV.out hw (by rw [e1]; exact O5.out) lB (HV.out.lw.trans F0.out.2.size)
    rw [e1] at P
    exact ⟨rfl, ⟨b5, c5, P⟩, put_grown hw _ _⟩
end Go.Proofs.Ytgehdgmllilmgaa
