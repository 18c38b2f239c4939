/- Decisions by the model: a try put into its place. -/
import Derived.Test.YtgehdgmllilmgaaYM
import Derived.Deep.DeepCutAuto
namespace Go.Proofs.Ytgehdgmllilmgaa
open Go.RowKit
set_option linter.unusedVariables false
variable {lo : Nat → Prop}

theorem ownG_some {w : World} {base n c k : Nat} {e : TypeId} {b : Option Addr} {xs : List Value} (h : w.ownsRow base e k (.slice b n c) n xs) (hn : 0 < n) : ∃ g, b = some ⟨g, 0, none⟩ ∧ base ≤ g ∧ g < w.heap.size := by
  rcases h.2 with ⟨hv, h0⟩ | ⟨g, cap, cur, hv, hg, hh, _⟩
  · omega
  · injection hv with h1
    exact ⟨g, h1, hg, (Array.getElem?_eq_some_iff.1 hh).1⟩

set_option maxRecDepth 100000 in
set_option maxHeartbeats 4000000 in
theorem specTry_any (c : Cn) (t : Tm) (B : Nat) (A : CA) (w : World) (h : VaC lo w B A c) (j : Nat) (hj : t.y.i = (j : Int) + 1) (hlt : j < c.ts.length) (hn : c.ts.length ≤ 1000) (ht : TmR lo w B t) :
    Calls Try.prog 99 #[.pointer (some ⟨B, 0, none⟩), .agg #[.int .i64 t.y.i, .int .i64 t.y.b, .string t.y.v, .slice t.pa t.y.ps.length t.pc, .bool t.y.as, .slice t.ka t.y.tk.length t.kc, .bool t.y.ch]] w fun e w' => e = .returned (.tuple #[]) ∧ (∃ ta tc, VaC lo w' B { A with ta := ta, tc := tc, L := A.L.set j t } { c with ts := c.ts.set j t.y }) ∧ w.grownBy w' (some B) := by
  have F0 := hide1 (And.intro (Blk.new w 47 #[.int .i64 t.y.i, .int .i64 t.y.b, .string t.y.v, .slice t.pa t.y.ps.length t.pc, .bool t.y.as, .slice t.ka t.y.tk.length t.kc, .bool t.y.ch]) ((Below.refl w.heap.size w).alloc (Nat.le_refl _) (.cells #[.int .i64 t.y.i, .int .i64 t.y.b, .string t.y.v, .slice t.pa t.y.ps.length t.pc, .bool t.y.as, .slice t.ka t.y.tk.length t.kc, .bool t.y.ch] 47)))
  have HV := hide1 h
  have HT := hide1 ht
  have lBw : B < w.heap.size := h.b.lt
  have eL : A.L.length = c.ts.length := h.len
  have HL := hide1 eL
  have HJ := hide1 hj
  clear h ht hj
  go_enter Try.func99, Try.ntmps99
  go_upto_region 1 with fail
  generalize (w.alloc (.cells #[.int .i64 t.y.i, .int .i64 t.y.b, .string t.y.v, .slice t.pa t.y.ps.length t.pc, .bool t.y.as, .slice t.ka t.y.tk.length t.kc, .bool t.y.ch] 47)) = u at F0 ⊢
  obtain ⟨X, hX⟩ : ∃ X, X = w.heap.size := ⟨_, rfl⟩
  have HB := hide1 (HV.out.b.below F0.out.2 lBw)
  have HR := hide1 (HV.out.r.t.later F0.out.2)
  have FX := hide1 F0.out.1
  rw [← hX] at FX ⊢
  have HX := hide1 hX
  have lB : B < u.heap.size := HB.out.lt
  have lX : X < u.heap.size := FX.out.lt
  have hne : B ≠ X := by omega
  clear hX
  have g0 : u.cell? ⟨B, 1, none⟩ = some (.slice A.ta c.ts.length A.tc) := HB.out.cell 1
  have FE := hide1 (And.intro (Blk.new u 47 #[]) ((Below.refl u.heap.size u).alloc (Nat.le_refl _) (.cells #[] 47)))
  clear eL
  go_upto_region 2 with (at_builtin; (refine wpList_copyG encT rowT rfl (.tmp 5) (.tmp 9) rfl u.heap.size u.heap.size rfl FE.out.1 (Nat.le_refl _) A.ta c.ts.length A.tc A.L rfl HL.out (HR.out.later FE.out.2) (by omega) ?_; intro b4 c4 w4 ho4 hb4 hg4; have E4 : Hid (Below u.heap.size u w4) := FE.out.2.trans hb4; obtain ⟨g, rfl, hg, hgl⟩ := ownG_some ho4 (by omega); have O4 := hide1 ho4; have s4 := E4.out.size; clear ho4 hb4 hg4 FE))
  have h0 : w4.cell? ⟨X, 0, none⟩ = some (.int .i64 t.y.i) := (FX.out.below E4.out lX).cell 0
  have h1 : w4.cell? ⟨X, 1, none⟩ = some (.int .i64 t.y.b) := (FX.out.below E4.out lX).cell 1
  have h2 : w4.cell? ⟨X, 2, none⟩ = some (.string t.y.v) := (FX.out.below E4.out lX).cell 2
  have h3 : w4.cell? ⟨X, 3, none⟩ = some (.slice t.pa t.y.ps.length t.pc) := (FX.out.below E4.out lX).cell 3
  have h4 : w4.cell? ⟨X, 4, none⟩ = some (.bool t.y.as) := (FX.out.below E4.out lX).cell 4
  have h5 : w4.cell? ⟨X, 5, none⟩ = some (.slice t.ka t.y.tk.length t.kc) := (FX.out.below E4.out lX).cell 5
  have h6 : w4.cell? ⟨X, 6, none⟩ = some (.bool t.y.ch) := (FX.out.below E4.out lX).cell 6
  rw [HJ.out] at h0
  obtain ⟨u0, y0⟩ := own_some O4.out (j * 7) (by omega)
  have f0 := O4.out.frozenAt (j * 7)
  obtain ⟨u1, y1⟩ := own_some O4.out (j * 7 + 1) (by omega)
  have f1 := O4.out.frozenAt (j * 7 + 1)
  obtain ⟨u2, y2⟩ := own_some O4.out (j * 7 + 2) (by omega)
  have f2 := O4.out.frozenAt (j * 7 + 2)
  obtain ⟨u3, y3⟩ := own_some O4.out (j * 7 + 3) (by omega)
  have f3 := O4.out.frozenAt (j * 7 + 3)
  obtain ⟨u4, y4⟩ := own_some O4.out (j * 7 + 4) (by omega)
  have f4 := O4.out.frozenAt (j * 7 + 4)
  obtain ⟨u5, y5⟩ := own_some O4.out (j * 7 + 5) (by omega)
  have f5 := O4.out.frozenAt (j * 7 + 5)
  obtain ⟨u6, y6⟩ := own_some O4.out (j * 7 + 6) (by omega)
  have f6 := O4.out.frozenAt (j * 7 + 6)
  have b0 : w4.cell? ⟨B, 1, none⟩ = some (.slice A.ta c.ts.length A.tc) := (HB.out.below E4.out lB).cell 1
  have bf : ∀ i, w4.frozen? ⟨B, i, none⟩ = false := fun i => (HB.out.below E4.out lB).froz i
  have gB : B ≠ g := by omega
  have gX : X ≠ g := by omega
  have qj : ((j : Int) + 1) - 1 = (j : Int) := by omega
  have qw : IntKind.i64.wrap ((j : Int) + 1 - 1) = (j : Int) := by rw [qj]; exact IntWalk.i64_in _ ⟨by omega, by omega⟩
  have k1 : (j : Int) < (c.ts.length : Int) := by omega
  have k0 : (0 : Int) ≤ (j : Int) := by omega
  clear qj
  go_wp2
  refine bodyPost_end (results_none Try.results99 _ _ _) rfl ?_
  have hw : Below w.heap.size w (putG w4 g (j * 7) (tmC t)) := below_putG (tmC t) (j * 7) (F0.out.2.trans (E4.out.mono F0.out.2.size)) (by have := F0.out.2.size; omega)
  have ho : (putG w4 g (j * 7) (tmC t)).ownsRow u.heap.size 47 7 (.slice (some ⟨g, 0, none⟩) c.ts.length c4) c.ts.length (rowG tmC (A.L.set j t)) := by
    rw [rowG_set tmC 7 encT.len _ _ _ (by rw [HL.out]; exact hlt)]
    exact own_putG (tmC t) (j * 7) O4.out
  have hlen : (A.L.set j t).length = c.ts.length := by rw [List.length_set]; exact HL.out
  rw [← hlen] at ho
  have P := VaC.putT (L := A.L.set j t) HV.out hw ho lB (HV.out.lw.trans F0.out.2.size) (fun t' h' => by
    rcases List.mem_or_eq_of_mem_set h' with h' | h'
    · exact (HV.out.r.r t' h').grown (gnew hw)
    · rw [h']; exact HT.out.grown (gnew hw))
  rw [hlen] at P
  have em : (A.L.set j t).map (·.y) = c.ts.set j t.y := by rw [List.map_set, HV.out.r.e]
  rw [em] at P
  rw [← HJ.out]
  exact ⟨rfl, ⟨_, _, P⟩, put_grown hw _ _⟩
end Go.Proofs.Ytgehdgmllilmgaa
