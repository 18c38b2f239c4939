/- Tries in the statements' words: opened, copied, sized. -/
import Derived.Test.YtgehdgmllilmgaaYT
import Derived.Test.YtgehdgmllilmgaaYS
import Derived.Test.YtgehdgmllilmgaaTxV
import Derived.Test.YtgehdgmllilmgaaCnI
import Derived.Test.YtgehdgmllilmgaaMkD
namespace Go.Proofs.Ytgehdgmllilmgaa
open Go.ChangeShapes Go.WideShapes Go.ChangeAt Go.RowKit Go.Deep Go.Joins
set_option linter.unusedVariables false

theorem rdG_Z {w : World} {a : Option Addr} {l : List Int} (h : RdZ w a l) : RdG izE 1 w a l := by
  intro i hi
  obtain ⟨b, o, h1, h2, h3⟩ := h i hi
  refine ⟨b, o, h1, h2, fun j hj => ?_⟩
  obtain rfl : j = 0 := by omega
  rw [Nat.mul_one]
  exact h3
theorem rdG_Q {w : World} {a : Option Addr} {l : List ByteArray} (h : RdQ w a l) : RdG txE 1 w a l := by
  intro i hi
  obtain ⟨b, o, h1, h2, h3⟩ := h i hi
  refine ⟨b, o, h1, h2, fun j hj => ?_⟩
  obtain rfl : j = 0 := by omega
  rw [Nat.mul_one]
  exact h3
/-- The rows of a try are read. -/
def TmR0 (w : World) (t : Tm) : Prop := RdG ntC 6 w t.pa t.y.ps ∧ RdG izE 1 w t.ka t.y.tk
/-- What every try that came in is. -/
def wfT (t : Tm) : Prop := t.y.v.size ≤ maxLen ∧ t.y.ps.length ≤ maxLen ∧ (∀ m ∈ t.y.ps, m.v.size ≤ maxLen) ∧ t.y.tk.length ≤ maxLen
set_option maxRecDepth 100000 in
theorem open_tryE {H : Type} {enc : TypeId × Value → H} {w : World} {base fuel : Nat} {sp : Nat → Bool} {held : Bool} {cs : List Value} {x : DataW H × List MemPlace} (h : DataW.trod enc Try.prog w base sp held fuel 125 cs = some x) :
    ∃ t : Tm, cs = tmC t ∧ TmR0 w t ∧ wfT t := by
  obtain ⟨xs, n, _, _, hlen, hxl, hf⟩ := DataW.trod_struct Try.underlying125 h
  have hc : Try.prog.cellsOf 125 = 7 := by kernel_rfl
  rw [hc] at hlen
  match xs, hxl, cs, hlen with
  | [p0, p1, p2, p3, p4, p5, p6], _, [v0, v1, v2, v3, v4, v5, v6], _ =>
    have g0 := hf 0 _ rfl
    have g1 := hf 1 _ rfl
    have g2 := hf 2 _ rfl
    have g3 := hf 3 _ rfl
    have g4 := hf 4 _ rfl
    have g5 := hf 5 _ rfl
    have g6 := hf 6 _ rfl
    have ci : Try.prog.cellsOf 3 = 1 := by kernel_rfl
    have cst : Try.prog.cellsOf 9 = 1 := by kernel_rfl
    have cb : Try.prog.cellsOf 4 = 1 := by kernel_rfl
    have cn : Try.prog.cellsOf 64 = 1 := by kernel_rfl
    have cz : Try.prog.cellsOf 33 = 1 := by kernel_rfl
    simp [ci, cst, cb, cn, cz] at g0 g1 g2 g3 g4 g5 g6
    obtain ⟨n0, e0, _, w0⟩ := DataW.trod_int Try.underlying3 g0
    obtain ⟨n1, e1, _, w1⟩ := DataW.trod_int Try.underlying3 g1
    obtain ⟨s2, e2, _, w2⟩ := DataW.trod_string Try.underlying9 g2
    obtain ⟨a3, l3, c3, e3, r3, k3, f3⟩ := open_notesE g3
    obtain ⟨b4, e4, _⟩ := DataW.trod_bool Try.underlying4 g4
    obtain ⟨a5, l5, c5, e5, r5, k5⟩ := open_ints g5
    obtain ⟨b6, e6, _⟩ := DataW.trod_bool Try.underlying4 g6
    simp at e0 e1 e2 e3 e4 e5 e6
    subst e0 e1 e2 e3 e4 e5 e6
    exact ⟨⟨⟨n0, n1, s2, l3, b4, l5, b6⟩, a3, c3, a5, c5⟩, rfl, ⟨r3, rdG_Z r5⟩, w2, k3, fun m hm => (f3 m hm).2.2.2.2.2, k5⟩
instance : Inhabited Tm := ⟨zTm⟩
set_option maxRecDepth 100000 in
theorem open_trysE {H : Type} {enc : TypeId × Value → H} {w : World} {base fuel : Nat} {sp : Nat → Bool} {held : Bool} {cs : List Value} {x : DataW H × List MemPlace} (h : DataW.trod enc Try.prog w base sp held fuel 63 cs = some x) :
    ∃ (ao : Option Addr) (l : List Tm) (ca : Nat), cs = [.slice ao l.length ca] ∧ RdG tmC 7 w ao l ∧ l.length ≤ maxLen ∧ ∀ s ∈ l, TmR0 w s ∧ wfT s := by
  rcases open_slice Try.underlying63 h with ⟨rfl, _⟩ | ⟨a, len, cap, m, n, D, Pl, rfl, hb, hl, hm, hmm, _, hx⟩
  · exact ⟨none, [], 0, rfl, RdG.nil _ _, Nat.zero_le _, fun i hi => by simp at hi⟩
  have hlm : len ≤ m := by rw [hmm]; split <;> omega
  have hc : Try.prog.cellsOf 125 = 7 := by kernel_rfl
  refine open_rowG (P := fun t => TmR0 w t ∧ wfT t) encT (by decide) (.inr (Nat.le_trans hl hm)) hlm (fun i hi => ?_)
  obtain ⟨cs', h1, h2⟩ := hx i hi
  rw [hc] at h1
  obtain ⟨_, hlen, hcell⟩ := World.cells?_some h1
  obtain ⟨s, rfl, hw⟩ := open_tryE h2
  exact ⟨s, hw, fun j hj => hcell j (by omega)⟩

set_option maxRecDepth 100000 in
set_option maxHeartbeats 1000000 in
theorem toTry_any (t : Tm) (w : World) (hp : t.y.ps.length ≤ 1048576) (hk : t.y.tk.length ≤ 1048576) (hR : TmR0 w t) :
    Calls Try.prog 89 #[.agg #[.int .i64 t.y.i, .int .i64 t.y.b, .string t.y.v, .slice t.pa t.y.ps.length t.pc, .bool t.y.as, .slice t.ka t.y.tk.length t.kc, .bool t.y.ch]] w fun e w' => (∃ pa pc ka kc, e = .returned (.agg #[.int .i64 t.y.i, .int .i64 t.y.b, .string t.y.v, .slice pa t.y.ps.length pc, .bool t.y.as, .slice ka t.y.tk.length kc, .bool t.y.ch]) ∧ TmO w.heap.size w' ⟨t.y, pa, pc, ka, kc⟩) ∧ Below w.heap.size w w' := by
  have C1 := hide1 (fun w1 (h : Below w.heap.size w w1) => toNoteS_any t.pa t.y.ps t.pc w1 hp (rdN6_of_rdG (hR.1.later h)))
  have C2 := hide1 (fun w1 (h : Below w.heap.size w w1) => toIntS_any t.ka t.y.tk t.kc w1 hk (rdZ_G (hR.2.later h)))
  clear hR
  have F0 := hide1 (blkN3 w #[.int .i64 t.y.i, .int .i64 t.y.b, .string t.y.v, .slice t.pa t.y.ps.length t.pc, .bool t.y.as, .slice t.ka t.y.tk.length t.kc, .bool t.y.ch] #[.int .i64 0, .int .i64 0, .string ⟨#[]⟩, .slice none 0 0, .bool false, .slice none 0 0, .bool false] #[.int .i64 0, .int .i64 0, .string ⟨#[]⟩, .slice none 0 0, .bool false, .slice none 0 0, .bool false] 125 47 47)
  go_enter Try.func89, Try.ntmps89
  go_upto_region 2 with fail
  generalize (((w.alloc (.cells #[.int .i64 t.y.i, .int .i64 t.y.b, .string t.y.v, .slice t.pa t.y.ps.length t.pc, .bool t.y.as, .slice t.ka t.y.tk.length t.kc, .bool t.y.ch] 125)).alloc (.cells #[.int .i64 0, .int .i64 0, .string ⟨#[]⟩, .slice none 0 0, .bool false, .slice none 0 0, .bool false] 47)).alloc (.cells #[.int .i64 0, .int .i64 0, .string ⟨#[]⟩, .slice none 0 0, .bool false, .slice none 0 0, .bool false] 47)) = w0 at F0 ⊢
  obtain ⟨s0, hs0⟩ : ∃ s, s = w.heap.size := ⟨_, rfl⟩
  obtain ⟨s1, hs1⟩ : ∃ s, s = w.heap.size + 1 := ⟨_, rfl⟩
  obtain ⟨s2, hs2⟩ : ∃ s, s = w.heap.size + 1 + 1 := ⟨_, rfl⟩
  have K0 := hide1 F0.out.1
  have K1 := hide1 F0.out.2.1
  have K2 := hide1 F0.out.2.2.1
  have B0 := hide1 F0.out.2.2.2
  rw [← hs0] at K0
  rw [← hs1] at K1
  rw [← hs2] at K2 ⊢
  rw [← hs1]
  have hge : Hid (w.heap.size ≤ s0 ∧ w.heap.size ≤ s1 ∧ w.heap.size ≤ s2) := hide1 (by omega)
  have n01 : s0 ≠ s1 := by omega
  have n02 : s0 ≠ s2 := by omega
  have n12 : s1 ≠ s2 := by omega
  have HS0 := hide1 hs0
  rw [show ({block := w.heap.size, off := 0} : Addr) = ⟨s0, 0, none⟩ by rw [hs0]]
  clear hs0 hs1 hs2 F0
  have x0 : w0.cell? ⟨s0, 0, none⟩ = some (.int .i64 t.y.i) := K0.out.cell 0
  have x1 : w0.cell? ⟨s0, 1, none⟩ = some (.int .i64 t.y.b) := K0.out.cell 1
  have x2 : w0.cell? ⟨s0, 2, none⟩ = some (.string t.y.v) := K0.out.cell 2
  have x3 : w0.cell? ⟨s0, 3, none⟩ = some (.slice t.pa t.y.ps.length t.pc) := K0.out.cell 3
  have y0 : w0.cell? ⟨s2, 0, none⟩ = some (.int .i64 0) := K2.out.cell 0
  have y1 : w0.cell? ⟨s2, 1, none⟩ = some (.int .i64 0) := K2.out.cell 1
  have y2 : w0.cell? ⟨s2, 2, none⟩ = some (.string ⟨#[]⟩) := K2.out.cell 2
  have yf : ∀ j, w0.frozen? ⟨s2, j, none⟩ = false := fun j => K2.out.froz j
  have J2 := hide1 (((K2.out.set 0 (.int .i64 t.y.i)).set 1 (.int .i64 t.y.b)).set 2 (.string t.y.v))
  have J0 := hide1 (((K0.out.far ⟨s2, 0, none⟩ (.int .i64 t.y.i) n02).far ⟨s2, 1, none⟩ (.int .i64 t.y.b) n02).far ⟨s2, 2, none⟩ (.string t.y.v) n02)
  have J1 := hide1 (((K1.out.far ⟨s2, 0, none⟩ (.int .i64 t.y.i) n12).far ⟨s2, 1, none⟩ (.int .i64 t.y.b) n12).far ⟨s2, 2, none⟩ (.string t.y.v) n12)
  have B1 := hide1 (((B0.out.setCell (p := ⟨s2, 0, none⟩) hge.out.2.2 (.int .i64 t.y.i)).setCell (p := ⟨s2, 1, none⟩) hge.out.2.2 (.int .i64 t.y.b)).setCell (p := ⟨s2, 2, none⟩) hge.out.2.2 (.string t.y.v))
  clear K0 K1 K2 B0
  go_wp2_with fail
  generalize (((w0.setCell ⟨s2, 0, none⟩ (.int .i64 t.y.i)).setCell ⟨s2, 1, none⟩ (.int .i64 t.y.b)).setCell ⟨s2, 2, none⟩ (.string t.y.v)) = w1 at J0 J1 J2 B1 ⊢
  clear x0 x1 x2 x3 y0 y1 y2 yf
  refine (C1.out w1 B1.out).mono ?_
  rintro e w2 ⟨pa, pc, rfl, ho2, hb2⟩
  have O2 := hide1 ho2
  have L0 := hide1 (J0.out.below hb2 J0.out.lt)
  have L1 := hide1 (J1.out.below hb2 J1.out.lt)
  have L2 := hide1 (J2.out.below hb2 J2.out.lt)
  have l2 : s2 < w1.heap.size := J2.out.lt
  have l11 : s1 < w1.heap.size := J1.out.lt
  have hb1s : w.heap.size ≤ w1.heap.size := B1.out.size
  have B2 := hide1 (B1.out.trans (hb2.mono B1.out.size))
  clear ho2 hb2 J0 J1 J2 C1
  have x4 : w2.cell? ⟨s0, 4, none⟩ = some (.bool t.y.as) := L0.out.cell 4
  have x5 : w2.cell? ⟨s0, 5, none⟩ = some (.slice t.ka t.y.tk.length t.kc) := L0.out.cell 5
  have y3 : w2.cell? ⟨s2, 3, none⟩ = some (.slice none 0 0) := L2.out.cell 3
  have y4 : w2.cell? ⟨s2, 4, none⟩ = some (.bool false) := L2.out.cell 4
  have yf : ∀ j, w2.frozen? ⟨s2, j, none⟩ = false := fun j => L2.out.froz j
  have M2 := hide1 ((L2.out.set 3 (.slice pa t.y.ps.length pc)).set 4 (.bool t.y.as))
  have M0 := hide1 ((L0.out.far ⟨s2, 3, none⟩ (.slice pa t.y.ps.length pc) n02).far ⟨s2, 4, none⟩ (.bool t.y.as) n02)
  have M1 := hide1 ((L1.out.far ⟨s2, 3, none⟩ (.slice pa t.y.ps.length pc) n12).far ⟨s2, 4, none⟩ (.bool t.y.as) n12)
  have B3 := hide1 ((B2.out.setCell (p := ⟨s2, 3, none⟩) hge.out.2.2 (.slice pa t.y.ps.length pc)).setCell (p := ⟨s2, 4, none⟩) hge.out.2.2 (.bool t.y.as))
  have O3 := hide1 (own_far1 (gset (gset (World.grownBy.refl w2 (some s2)) 3 (.slice pa t.y.ps.length pc)) 4 (.bool t.y.as)) O2.out l2)
  clear L0 L1 L2 B2 O2
  go_wp2_with fail
  generalize ((w2.setCell ⟨s2, 3, none⟩ (.slice pa t.y.ps.length pc)).setCell ⟨s2, 4, none⟩ (.bool t.y.as)) = w3 at M0 M1 M2 B3 O3 ⊢
  clear x4 x5 y3 y4 yf
  refine (C2.out w3 B3.out).mono ?_
  rintro e w4 ⟨ka, kc, rfl, ho4, hb4⟩
  rw [iz_row] at ho4
  have O4 := hide1 (own_kept O3.out hb4)
  have P4 := hide1 ho4
  have L0 := hide1 (M0.out.below hb4 M0.out.lt)
  have L1 := hide1 (M1.out.below hb4 M1.out.lt)
  have L2 := hide1 (M2.out.below hb4 M2.out.lt)
  have l3 : s2 < w3.heap.size := M2.out.lt
  have l31 : s1 < w3.heap.size := M1.out.lt
  have B4 := hide1 (B3.out.trans (hb4.mono B3.out.size))
  clear ho4 hb4 M0 M1 M2 C2 O3
  have x6 : w4.cell? ⟨s0, 6, none⟩ = some (.bool t.y.ch) := L0.out.cell 6
  have y0 : w4.cell? ⟨s2, 0, none⟩ = some (.int .i64 t.y.i) := L2.out.cell 0
  have y1 : w4.cell? ⟨s2, 1, none⟩ = some (.int .i64 t.y.b) := L2.out.cell 1
  have y2 : w4.cell? ⟨s2, 2, none⟩ = some (.string t.y.v) := L2.out.cell 2
  have y3 : w4.cell? ⟨s2, 3, none⟩ = some (.slice pa t.y.ps.length pc) := L2.out.cell 3
  have y4 : w4.cell? ⟨s2, 4, none⟩ = some (.bool t.y.as) := L2.out.cell 4
  have y5 : w4.cell? ⟨s2, 5, none⟩ = some (.slice none 0 0) := L2.out.cell 5
  have y6 : w4.cell? ⟨s2, 6, none⟩ = some (.bool false) := L2.out.cell 6
  have yf : ∀ j, w4.frozen? ⟨s2, j, none⟩ = false := fun j => L2.out.froz j
  have z0 : w4.cell? ⟨s1, 0, none⟩ = some (.int .i64 0) := L1.out.cell 0
  have z1 : w4.cell? ⟨s1, 1, none⟩ = some (.int .i64 0) := L1.out.cell 1
  have z2 : w4.cell? ⟨s1, 2, none⟩ = some (.string ⟨#[]⟩) := L1.out.cell 2
  have z3 : w4.cell? ⟨s1, 3, none⟩ = some (.slice none 0 0) := L1.out.cell 3
  have z4 : w4.cell? ⟨s1, 4, none⟩ = some (.bool false) := L1.out.cell 4
  have z5 : w4.cell? ⟨s1, 5, none⟩ = some (.slice none 0 0) := L1.out.cell 5
  have z6 : w4.cell? ⟨s1, 6, none⟩ = some (.bool false) := L1.out.cell 6
  have zf : ∀ j, w4.frozen? ⟨s1, j, none⟩ = false := fun j => L1.out.froz j
  go_wp2
  refine bodyPost_ret (results_cell_row Try.results89 _ _ s1 47 #[.int .i64 t.y.i, .int .i64 t.y.b, .string t.y.v, .slice pa t.y.ps.length pc, .bool t.y.as, .slice ka t.y.tk.length kc, .bool t.y.ch] (0, 0) _ rfl (Blk.set (Blk.set (Blk.set (Blk.set (Blk.set (Blk.set (Blk.set (Blk.far (Blk.far L1.out ⟨s2, 5, none⟩ _ n12) ⟨s2, 6, none⟩ _ n12) 0 _) 1 _) 2 _) 3 _) 4 _) 5 _) 6 _) Try.underlying47 rfl (by kernel_rfl)) rfl ?_
  have G2 : ∀ (a b : Value), w4.grownBy ((w4.setCell ⟨s2, 5, none⟩ a).setCell ⟨s2, 6, none⟩ b) (some s2) := fun a b => gset (gset (World.grownBy.refl _ _) 5 a) 6 b
  have G1 : ∀ (v : World) (a b c d e f g : Value), v.grownBy (((((((v.setCell ⟨s1, 0, none⟩ a).setCell ⟨s1, 1, none⟩ b).setCell ⟨s1, 2, none⟩ c).setCell ⟨s1, 3, none⟩ d).setCell ⟨s1, 4, none⟩ e).setCell ⟨s1, 5, none⟩ f).setCell ⟨s1, 6, none⟩ g) (some s1) := fun v a b c d e f g => gset (gset (gset (gset (gset (gset (gset (World.grownBy.refl _ _) 0 a) 1 b) 2 c) 3 d) 4 e) 5 f) 6 g
  refine ⟨⟨pa, pc, ka, kc, rfl, ⟨own_base (own_far1 (G1 _ _ _ _ _ _ _ _) (own_far1 (G2 _ _) O4.out l2) l11) hb1s, own_base (own_far1 (G1 _ _ _ _ _ _ _ _) (own_far1 (G2 _ _) P4.out l3) l31) B3.out.size⟩⟩, ?_⟩
  exact (B4.out.grown (G2 _ _) B4.out.size (fun k hk => by injection hk with hk; have := hge.out; omega)).grown (G1 _ _ _ _ _ _ _ _) (by rw [World.size_setCell, World.size_setCell]; exact B4.out.size) (fun k hk => by injection hk with hk; have := hge.out; omega)

set_option maxRecDepth 100000 in
set_option maxHeartbeats 1000000 in
theorem szTry_any (t : Tm) (left : Nat) (w : World) (hw : wfT t) (hR : TmR0 w t) (hl : left ≤ 1048576) :
    Calls Try.prog 86 #[.agg #[.int .i64 t.y.i, .int .i64 t.y.b, .string t.y.v, .slice t.pa t.y.ps.length t.pc, .bool t.y.as, .slice t.ka t.y.tk.length t.kc, .bool t.y.ch], .int .i64 (left : Int)] w fun e w' => (e = .returned (.int .i64 (-1)) ∨ ∃ r : Nat, e = .returned (.int .i64 (r : Int)) ∧ r ≤ left ∧ t.y.ps.length ≤ 1048576 ∧ t.y.tk.length ≤ 1048576) ∧ Below w.heap.size w w' := by
  have m1 : maxLen = 9223372036854775807 := rfl
  obtain ⟨h1, h2, h3, h4⟩ := hw
  rw [m1] at h1 h2 h4
  have F0 := hide1 (And.intro (Blk.new w 125 #[.int .i64 t.y.i, .int .i64 t.y.b, .string t.y.v, .slice t.pa t.y.ps.length t.pc, .bool t.y.as, .slice t.ka t.y.tk.length t.kc, .bool t.y.ch]) ((Below.refl w.heap.size w).alloc (Nat.le_refl _) (.cells #[.int .i64 t.y.i, .int .i64 t.y.b, .string t.y.v, .slice t.pa t.y.ps.length t.pc, .bool t.y.as, .slice t.ka t.y.tk.length t.kc, .bool t.y.ch] 125)))
  have C1 := hide1 (fun w1 (r : Nat) (h : Below w.heap.size w w1) (hr : r ≤ 1048576) => szNoteS_any t.pa t.y.ps t.pc r w1 hr (by omega) (rdN6_of_rdG (hR.1.later h)) (fun i hi => by have := h3 _ (List.getElem_mem hi); rw [m1] at this; exact this))
  have C2 := hide1 (fun w1 (r : Nat) (hr : r ≤ 1048576) => szIntS_any t.ka t.y.tk.length t.kc r w1 (by omega) hr)
  clear hR h3
  by_cases c1 : t.y.v.size ≤ left
  · have q1 : decide ((left : Int) - (t.y.v.size : Int) < 0) = false := by simp; omega
    have qe : (left : Int) - (t.y.v.size : Int) = ((left - t.y.v.size : Nat) : Int) := by omega
    have QE := hide1 qe
    clear qe
    go_enter Try.func86, Try.ntmps86
    go_upto_region 1 with fail
    generalize (w.alloc (.cells #[.int .i64 t.y.i, .int .i64 t.y.b, .string t.y.v, .slice t.pa t.y.ps.length t.pc, .bool t.y.as, .slice t.ka t.y.tk.length t.kc, .bool t.y.ch] 125)) = u at F0 ⊢
    have x2 : u.cell? ⟨w.heap.size, 2, none⟩ = some (.string t.y.v) := F0.out.1.cell 2
    have x3 : u.cell? ⟨w.heap.size, 3, none⟩ = some (.slice t.pa t.y.ps.length t.pc) := F0.out.1.cell 3
    go_wp2_with fail
    rw [QE.out]
    refine (C1.out u (left - t.y.v.size) F0.out.2 (by omega)).mono ?_
    rintro e w1 ⟨hr, hb1⟩
    have B1 := hide1 (F0.out.2.trans (hb1.mono F0.out.2.size))
    have x5 : w1.cell? ⟨w.heap.size, 5, none⟩ = some (.slice t.ka t.y.tk.length t.kc) := (F0.out.1.below hb1 F0.out.1.lt).cell 5
    clear hb1 F0 C1 x2 x3
    rcases hr with rfl | ⟨r, rfl, hr, hs, _⟩
    · go_wp2
      go_ret
      exact ⟨.inl rfl, B1.out⟩
    · have q2 : decide ((r : Int) < 0) = false := by simp
      go_wp2_with fail
      refine (C2.out w1 r (by omega)).mono ?_
      rintro e w2 ⟨hq, rfl⟩
      rcases hq with ⟨rfl, _⟩ | ⟨r2, rfl, hr2⟩
      · go_wp2
        go_ret
        exact ⟨.inl rfl, B1.out⟩
      · have q3 : decide ((r2 : Int) < 0) = false := by simp
        have hf : r2 ≤ left ∧ t.y.tk.length ≤ 1048576 := by omega
        clear hr2
        go_wp2
        go_ret
        exact ⟨.inr ⟨r2, rfl, hf.1, hs, hf.2⟩, B1.out⟩
  · have q1 : decide ((left : Int) - (t.y.v.size : Int) < 0) = true := by simp; omega
    go_enter Try.func86, Try.ntmps86
    go_wp2
    go_ret
    exact ⟨.inl rfl, F0.out.2⟩
end Go.Proofs.Ytgehdgmllilmgaa
namespace Go.Proofs.Ytgehdgmllilmgaa
open Go.ChangeShapes Go.WideShapes Go.ChangeAt Go.RowKit Go.Deep Go.Joins
set_option linter.unusedVariables false

theorem tmCells {w : World} {b o i : Nat} {t : Tm} (h : ∀ j, j < 7 → w.cell? ⟨b, o + i * 7 + j, none⟩ = (tmC t)[j]?) :
    w.cell? ⟨b, o + i * 7, none⟩ = some (.int .i64 t.y.i) ∧ w.cell? ⟨b, o + i * 7 + 1, none⟩ = some (.int .i64 t.y.b) ∧ w.cell? ⟨b, o + i * 7 + 2, none⟩ = some (.string t.y.v) ∧ w.cell? ⟨b, o + i * 7 + 3, none⟩ = some (.slice t.pa t.y.ps.length t.pc) ∧ w.cell? ⟨b, o + i * 7 + 4, none⟩ = some (.bool t.y.as) ∧ w.cell? ⟨b, o + i * 7 + 5, none⟩ = some (.slice t.ka t.y.tk.length t.kc) ∧ w.cell? ⟨b, o + i * 7 + 6, none⟩ = some (.bool t.y.ch) :=
  ⟨h 0 (by omega), h 1 (by omega), h 2 (by omega), h 3 (by omega), h 4 (by omega), h 5 (by omega), h 6 (by omega)⟩
theorem cellsLater {w w' : World} {b o i : Nat} {t : Tm} (h : ∀ j, j < 7 → w.cell? ⟨b, o + i * 7 + j, none⟩ = (tmC t)[j]?) (hb : Below w.heap.size w w') (hg : b < w.heap.size) : ∀ j, j < 7 → w'.cell? ⟨b, o + i * 7 + j, none⟩ = (tmC t)[j]? := fun j hj => (hb.cell (p := ⟨b, o + i * 7 + j, none⟩) hg).trans (h j hj)
theorem TmR0.later {w w' : World} {t : Tm} (h : TmR0 w t) (hb : Below w.heap.size w w') : TmR0 w' t := ⟨h.1.later hb, h.2.later hb⟩

set_option maxRecDepth 100000 in
set_option maxHeartbeats 1000000 in
theorem szTryS_any (ao : Option Addr) (l : List Tm) (ca left0 : Nat) (w : World) (hl0 : left0 ≤ 1048576) (hl : l.length ≤ 9223372036854775807) (hA : RdG tmC 7 w ao l) (hS : ∀ t ∈ l, TmR0 w t ∧ wfT t) :
    Calls Try.prog 64 #[.slice ao l.length ca, .int .i64 (left0 : Int)] w fun e w' => (e = .returned (.int .i64 (-1)) ∨ ∃ r : Nat, e = .returned (.int .i64 (r : Int)) ∧ r ≤ left0 ∧ l.length ≤ left0 ∧ ∀ t ∈ l, t.y.ps.length ≤ 1048576 ∧ t.y.tk.length ≤ 1048576) ∧ Below w.heap.size w w' := by
  by_cases c0 : l.length ≤ left0
  · have q0 : decide ((left0 : Int) - (l.length : Int) < 0) = false := by simp; omega
    have HA := hide1 hA
    have HS := hide1 hS
    clear hA hS
    go_enter Try.func64, Try.ntmps64
    go_wp2
    go_loopw [1, 5] (fun lv iv wr => ∃ i left : Nat, i ≤ l.length ∧ iv = .int .i64 (i : Int) ∧ lv = .int .i64 (left : Int) ∧ left ≤ left0 ∧ Hid (∀ j t, l[j]? = some t → j < i → t.y.ps.length ≤ 1048576 ∧ t.y.tk.length ≤ 1048576) ∧ Below w.heap.size w wr) (fun _ iv _ => l.length - (intOf iv).toNat)
    case atStart => exact ⟨0, left0 - l.length, by omega, rfl, by rw [show ((left0 - l.length : Nat) : Int) = (left0 : Int) - (l.length : Int) by omega], by omega, fun j _ _ h => by omega, Below.refl _ _⟩
    case round =>
      obtain ⟨i, left, hi, rfl, rfl, hle, hdone, hbel⟩ := hrel
      by_cases hlt : i < l.length
      · have k1 : (i : Int) < (l.length : Int) := by omega
        obtain ⟨b, o, rfl, hb, h1⟩ := HA.out i hlt
        obtain ⟨x0, x1, x2, x3, x4, x5, x6⟩ := tmCells (cellsLater h1 hbel hb)
        have hq : l[i]? = some l[i] := List.getElem?_eq_getElem hlt
        have m1 := HS.out _ (List.mem_of_getElem? hq)
        generalize l[i] = t at *
        have cc := hide1 (fun (w' : World) (h : Below w.heap.size w w') => szTry_any t left w' m1.2 (m1.1.later h) (by omega))
        have HQ := hide1 hq
        have HB := hide1 hbel
        clear h1 hq m1 hbel
        go_wp2_with fail
        refine (cc.out _ HB.out).mono ?_
        rintro e w2 ⟨hr, hb2⟩
        have B2 := hide1 (HB.out.trans (hb2.mono HB.out.size))
        rcases hr with rfl | ⟨r, rfl, hr, hr3⟩
        · go_wp2
          go_ret
          exact ⟨.inl rfl, B2.out⟩
        · have q : decide ((r : Int) < 0) = false := by simp
          have hr2 : r ≤ left0 := by omega
          have HR := hide1 hr3
          clear hr hr3
          go_wp2
          go_roundw
          case rel => exact ⟨i + 1, r, by omega, by go_num, rfl, hr2, hide1 (fun j t' h hj => by
            by_cases e : j < i
            · exact hdone.out j t' h e
            · obtain rfl : j = i := by omega
              rw [HQ.out] at h
              injection h with h
              subst h
              exact HR.out), B2.out⟩
          case measure => simp [intOf]; omega
      · go_wp2
        go_ret
        exact ⟨.inr ⟨left, rfl, hle, c0, fun t ht => by
          obtain ⟨j, hj, rfl⟩ := List.getElem_of_mem ht
          exact hdone.out j _ (List.getElem?_eq_getElem hj) (by omega)⟩, hbel⟩
  · have q0 : decide ((left0 : Int) - (l.length : Int) < 0) = true := by simp; omega
    clear hA hS
    go_enter Try.func64, Try.ntmps64
    go_wp2
    go_ret
    exact ⟨.inl rfl, Below.refl _ _⟩

theorem TmO.rd {base : Nat} {w : World} {t : Tm} (h : TmO base w t) : TmR0 w t := ⟨rdG_of_own encN.len h.p rfl, rdG_of_own encZ.len h.k rfl⟩
theorem TmO.far1 {base B : Nat} {w w' : World} {t : Tm} (h : TmO base w t) (hg : w.grownBy w' (some B)) (hB : B < base) : TmO base w' t := ⟨own_far1 hg h.p hB, own_far1 hg h.k hB⟩
theorem TmO.base {base base' : Nat} {w : World} {t : Tm} (h : TmO base' w t) (hb : base ≤ base') : TmO base w t := ⟨own_base h.p hb, own_base h.k hb⟩
theorem put_grownG : ∀ (vs : List Value) (w : World) (g m : Nat), w.grownBy (putG w g m vs) (some g)
  | [], w, g, m => World.grownBy.refl _ _
  | v :: vs, w, g, m => (gset (World.grownBy.refl w (some g)) m v).trans (put_grownG vs _ g (m + 1))

set_option maxRecDepth 100000 in
set_option maxHeartbeats 1000000 in
theorem toTryS_any (ao : Option Addr) (l : List Tm) (ca : Nat) (w : World) (hl : l.length ≤ 1048576) (hA : RdG tmC 7 w ao l) (hS : ∀ t ∈ l, TmR0 w t ∧ t.y.ps.length ≤ 1048576 ∧ t.y.tk.length ≤ 1048576) :
    Calls Try.prog 68 #[.slice ao l.length ca] w fun e w' => (∃ b c, e = .returned (.slice b l.length c) ∧ ∃ L' : List Tm, L'.map (·.y) = l.map (·.y) ∧ w'.ownsRow w.heap.size 47 7 (.slice b l.length c) l.length (rowG tmC L') ∧ ∀ t ∈ L', TmO w.heap.size w' t) ∧ Below w.heap.size w w' := by
  obtain ⟨i0, hi, hz0, hz1, hz2⟩ := info_parts Try.infoT
  have HA := hide1 hA
  have HS := hide1 hS
  clear hA hS
  go_enter Try.func68, Try.ntmps68
  go_wp2_with (at_make; (refine wpList_make_full _ rfl _ _ 28 rfl w.heap.size 47 i0 (.agg #[.int .i64 0, .int .i64 0, .string ⟨#[]⟩, .slice none 0 0, .bool false, .slice none 0 0, .bool false]) 7 Try.underlying28 hi hz0 hz1 _ _ _ _ l.length rfl rfl rfl rfl (by rw [hz2]; omega) (by unfold maxLen; omega) (Nat.le_refl _) ?_; intro w0 hown0 hg0))
  rw [made7] at hown0
  have HO := hide1 hown0
  have lw0 : w.heap.size < w0.heap.size := (hown0.lt w.heap.size rfl).2
  clear hown0
  go_loopw [4] (fun iv wr => ∃ i : Nat, i ≤ l.length ∧ iv = .int .i64 (i : Int) ∧ ∃ L' : List Tm, Hid (L'.length = i ∧ L'.map (·.y) = (l.take i).map (·.y)) ∧ Hid (wr.ownsRow w.heap.size 47 7 (.slice (some ⟨w.heap.size, 0, none⟩) l.length l.length) l.length (rowG tmC (L' ++ List.replicate (l.length - i) zTm))) ∧ Hid (∀ t ∈ L', TmO (w.heap.size + 1) wr t) ∧ Hid (Below w.heap.size w wr)) (fun iv _ => l.length - (intOf iv).toNat)
  case atStart => exact ⟨0, by omega, rfl, [], hide1 ⟨rfl, rfl⟩, hide1 (by simpa using HO.out), hide1 (fun t ht => by simp at ht), hide1 (Below.grown (Below.refl _ _) hg0 (Nat.le_refl _) (by intro k hk; cases hk))⟩
  case round =>
    obtain ⟨i, hi, rfl, L', hL, HO1, HT, HB⟩ := hrel
    by_cases hlt : i < l.length
    · have k1 : (i : Int) < (l.length : Int) := by omega
      obtain ⟨b, o, rfl, hb, h1⟩ := HA.out i hlt
      obtain ⟨x0, x1, x2, x3, x4, x5, x6⟩ := tmCells (cellsLater h1 HB.out hb)
      have hq : l[i]? = some l[i] := List.getElem?_eq_getElem hlt
      have m1 := HS.out _ (List.mem_of_getElem? hq)
      have HTK := hide1 (show (l.take (i + 1)).map (·.y) = (l.take i).map (·.y) ++ [l[i].y] by rw [List.take_succ_eq_append_getElem hlt, List.map_append]; rfl)
      generalize l[i] = t at *
      have cc := hide1 (fun (w' : World) (h : Below w.heap.size w w') => toTry_any t w' m1.2.1 m1.2.2 (m1.1.later h))
      have lwr : w.heap.size < wr.heap.size := (HO1.out.lt w.heap.size rfl).2
      clear h1 hq m1
      go_wp2_with fail
      refine (cc.out _ HB.out).mono ?_
      rintro e w2 ⟨⟨pa, pc, ka, kc, rfl, hT⟩, hb2⟩
      have o2 := own_kept HO1.out hb2
      have T2 := hide1 (fun u hu => (HT.out u hu).kept hb2)
      have N2 := hide1 (hT.base (show w.heap.size + 1 ≤ wr.heap.size by omega))
      have B2 := hide1 (HB.out.trans (hb2.mono HB.out.size))
      obtain ⟨u0, y0⟩ := own_some o2 (i * 7) (by omega)
      obtain ⟨u1, y1⟩ := own_some o2 (i * 7 + 1) (by omega)
      obtain ⟨u2, y2⟩ := own_some o2 (i * 7 + 2) (by omega)
      obtain ⟨u3, y3⟩ := own_some o2 (i * 7 + 3) (by omega)
      obtain ⟨u4, y4⟩ := own_some o2 (i * 7 + 4) (by omega)
      obtain ⟨u5, y5⟩ := own_some o2 (i * 7 + 5) (by omega)
      obtain ⟨u6, y6⟩ := own_some o2 (i * 7 + 6) (by omega)
      have f0 := o2.frozenAt (i * 7)
      have f1 := o2.frozenAt (i * 7 + 1)
      have f2 := o2.frozenAt (i * 7 + 2)
      have f3 := o2.frozenAt (i * 7 + 3)
      have f4 := o2.frozenAt (i * 7 + 4)
      have f5 := o2.frozenAt (i * 7 + 5)
      have f6 := o2.frozenAt (i * 7 + 6)
      have O2 := hide1 o2
      clear o2 hT hb2 x0 x1 x2 x3 x4 x5 x6 HB HO1 HT
      go_wp2
      go_roundw
      case rel =>
        have hg := put_grownG (tmC ⟨t.y, pa, pc, ka, kc⟩) w2 w.heap.size (i * 7)
        refine ⟨i + 1, by omega, by go_num, L' ++ [⟨t.y, pa, pc, ka, kc⟩], hide1 ⟨by rw [List.length_append, hL.out.1]; rfl, by rw [HTK.out, List.map_append, hL.out.2]; rfl⟩, hide1 ?_, hide1 (fun u hu => ?_), hide1 (below_putG (tmC ⟨t.y, pa, pc, ka, kc⟩) (i * 7) B2.out (Nat.le_refl _))⟩
        · have := own_putG (tmC ⟨t.y, pa, pc, ka, kc⟩) (i * 7) O2.out
          have hset := rowG_set tmC 7 encT.len (L' ++ List.replicate (l.length - i) zTm) i ⟨t.y, pa, pc, ka, kc⟩ (by rw [List.length_append, hL.out.1]; simp; omega)
          rw [← hset] at this
          have he : (L' ++ List.replicate (l.length - i) zTm).set i ⟨t.y, pa, pc, ka, kc⟩ = L' ++ [⟨t.y, pa, pc, ka, kc⟩] ++ List.replicate (l.length - (i + 1)) zTm := by
            have hl2 := hL.out.1
            rw [List.set_append_right _ _ (by omega), hl2, Nat.sub_self, show l.length - i = (l.length - (i + 1)) + 1 by omega, List.replicate_succ, List.set_cons_zero, List.append_assoc]
            rfl
          rw [he] at this
          exact this
        · rcases List.mem_append.1 hu with hu | hu
          · exact (T2.out u hu).far1 hg (Nat.lt_succ_self _)
          · rw [List.mem_singleton] at hu
            subst hu
            exact N2.out.far1 hg (Nat.lt_succ_self _)
      case measure => simp [intOf]; omega
    · obtain rfl : i = l.length := by omega
      go_wp2
      go_ret
      have ho := HO1.out
      rw [Nat.sub_self, List.replicate_zero, List.append_nil] at ho
      have hy := hL.out.2
      rw [List.take_length] at hy
      exact ⟨⟨_, _, rfl, L', hy, ho, fun t ht => (HT.out t ht).base (Nat.le_succ _)⟩, HB.out⟩
end Go.Proofs.Ytgehdgmllilmgaa
namespace Go.Proofs.Ytgehdgmllilmgaa
open Go.ChangeShapes Go.WideShapes Go.ChangeAt Go.RowKit Go.Deep Go.Joins
set_option linter.unusedVariables false

/-- A council that is read, wherever it lies. -/
structure RdI (w : World) (A : CA) (c : Cn) : Prop where
  v : RdG voC 3 w A.va c.vs
  e : A.L.map (·.y) = c.ts
  t : RdG tmC 7 w A.ta A.L
  r : ∀ t ∈ A.L, TmR0 w t
  n : RdG ntC 6 w A.na c.ns
  c : RdG txE 1 w A.ca c.ch
theorem RdI.len {w : World} {A : CA} {c : Cn} (h : RdI w A c) : A.L.length = c.ts.length := by rw [← h.e, List.length_map]
theorem RdI.later {w w' : World} {A : CA} {c : Cn} (h : RdI w A c) (hb : Below w.heap.size w w') : RdI w' A c := ⟨h.v.later hb, h.e, h.t.later hb, fun t ht => (h.r t ht).later hb, h.n.later hb, h.c.later hb⟩
/-- What every council that came in is. -/
structure Wf12 (A : CA) (c : Cn) : Prop where
  v : c.vs.length ≤ maxLen ∧ ∀ x ∈ c.vs, wfVoice x
  t : A.L.length ≤ maxLen ∧ ∀ t ∈ A.L, wfT t
  n : c.ns.length ≤ maxLen ∧ ∀ x ∈ c.ns, wfNote x
  c : c.ch.length ≤ maxLen ∧ ∀ i (h : i < c.ch.length), c.ch[i].size ≤ maxLen
set_option maxRecDepth 100000 in
/-- A council that came in. -/
theorem open_council {H : Type} {enc : TypeId × Value → H} {w : World} {r : Reach} {b0 base : Nat} {sp : Nat → Bool} {held : Bool} {v : Value} {d : DataW H} {p : List MemPlace} (hv : Value.okWide Try.prog w r b0 66 v) (h : DataW.Trod enc Try.prog w base sp held 66 v d p) :
    ∃ (A : CA) (c : Cn), v = .agg #[.slice A.va c.vs.length A.vc, .slice A.ta c.ts.length A.tc, .slice A.na c.ns.length A.nc, .slice A.ca c.ch.length A.cc] ∧ RdI w A c ∧ Wf12 A c := by
  obtain ⟨cs, rfl, hsz⟩ := okWide_struct Try.underlying66 hv
  have hc : Try.prog.cellsOf 66 = 4 := by kernel_rfl
  rw [hc] at hsz
  obtain ⟨fuel, hf0⟩ := h
  obtain ⟨xs, n, _, _, hlen, hxl, hf⟩ := DataW.trod_struct Try.underlying66 hf0
  obtain ⟨cl⟩ := cs
  match xs, hxl, cl, hsz with
  | [q0, q1, q2, q3], _, [u0, u1, u2, u3], _ =>
    have g0 := hf 0 _ rfl
    have g1 := hf 1 _ rfl
    have g2 := hf 2 _ rfl
    have g3 := hf 3 _ rfl
    have c0 : Try.prog.cellsOf 62 = 1 := by kernel_rfl
    have c1 : Try.prog.cellsOf 63 = 1 := by kernel_rfl
    have c2 : Try.prog.cellsOf 64 = 1 := by kernel_rfl
    have c3 : Try.prog.cellsOf 30 = 1 := by kernel_rfl
    simp [c0, c1, c2, c3, Value.cells] at g0 g1 g2 g3
    obtain ⟨a0, l0, k0, e0, r0, m0, f0⟩ := open_voicesE g0
    obtain ⟨a1, l1, k1, e1, r1, m1, f1⟩ := open_trysE g1
    obtain ⟨a2, l2, k2, e2, r2, m2, f2⟩ := open_notesE g2
    obtain ⟨a3, l3, k3, e3, r3, m3, f3⟩ := open_texts g3
    simp at e0 e1 e2 e3
    subst e0 e1 e2 e3
    exact ⟨⟨a0, k0, a1, k1, a2, k2, a3, k3, l1⟩, ⟨l0, l1.map (·.y), l2, l3⟩, by rw [List.length_map], ⟨r0, rfl, r1, fun t ht => (f1 t ht).1, r2, rdG_Q r3⟩, ⟨⟨m0, f0⟩, ⟨m1, fun t ht => (f1 t ht).2⟩, ⟨m2, f2⟩, ⟨m3, f3⟩⟩⟩

set_option maxRecDepth 100000 in
set_option maxHeartbeats 1000000 in
theorem szCouncil_any (A : CA) (c : Cn) (w : World) (hR : RdI w A c) (hW : Wf12 A c) :
    Calls Try.prog 34 #[.agg #[.slice A.va c.vs.length A.vc, .slice A.ta c.ts.length A.tc, .slice A.na c.ns.length A.nc, .slice A.ca c.ch.length A.cc], .int .i64 1048576] w fun e w' => (e = .returned (.int .i64 (-1)) ∨ ∃ r : Nat, e = .returned (.int .i64 (r : Int)) ∧ Sm12 c) ∧ Below w.heap.size w w' := by
  have m1 : maxLen = 9223372036854775807 := rfl
  have hl := hR.len
  have F0 := hide1 (And.intro (Blk.new w 66 #[.slice A.va c.vs.length A.vc, .slice A.ta c.ts.length A.tc, .slice A.na c.ns.length A.nc, .slice A.ca c.ch.length A.cc]) ((Below.refl w.heap.size w).alloc (Nat.le_refl _) (.cells #[.slice A.va c.vs.length A.vc, .slice A.ta c.ts.length A.tc, .slice A.na c.ns.length A.nc, .slice A.ca c.ch.length A.cc] 66)))
  have C0 := hide1 (fun w1 (h : Below w.heap.size w w1) => szVoiceS_any A.va c.vs A.vc 1048576 w1 (Nat.le_refl _) (by have := hW.v.1; omega) (hR.v.later h) (fun i hi => by have := (hW.v.2 _ (List.getElem_mem hi)).2.2; omega))
  have C1 := hide1 (fun w1 (r : Nat) (h : Below w.heap.size w w1) (hr : r ≤ 1048576) => (show Calls Try.prog 64 #[.slice A.ta c.ts.length A.tc, .int .i64 (r : Int)] w1 fun e w' => (e = .returned (.int .i64 (-1)) ∨ ∃ q : Nat, e = .returned (.int .i64 (q : Int)) ∧ q ≤ r ∧ A.L.length ≤ r ∧ ∀ t ∈ A.L, t.y.ps.length ≤ 1048576 ∧ t.y.tk.length ≤ 1048576) ∧ Below w1.heap.size w1 w' by
    rw [← hl]
    exact szTryS_any A.ta A.L A.tc r w1 hr (by have := hW.t.1; omega) (hR.t.later h) (fun t ht => ⟨(hR.r t ht).later h, hW.t.2 t ht⟩)))
  have C2 := hide1 (fun w1 (r : Nat) (h : Below w.heap.size w w1) (hr : r ≤ 1048576) => szNoteS_any A.na c.ns A.nc r w1 hr (by have := hW.n.1; omega) (rdN6_of_rdG (hR.n.later h)) (fun i hi => by have := (hW.n.2 _ (List.getElem_mem hi)).2.2.2.2.2; omega))
  have C3 := hide1 (fun w1 (r : Nat) (h : Below w.heap.size w w1) (hr : r ≤ 1048576) => szTextS_any A.ca c.ch A.cc r w1 (by have := hW.c.1; omega) (fun i hi => by have := hW.c.2 i hi; omega) hr (rdQ_G (hR.c.later h)))
  have HL := hide1 hl
  have HE := hide1 hR.e
  clear hR hW hl
  go_enter Try.func34, Try.ntmps34
  go_upto_region 1 with fail
  generalize (w.alloc (.cells #[.slice A.va c.vs.length A.vc, .slice A.ta c.ts.length A.tc, .slice A.na c.ns.length A.nc, .slice A.ca c.ch.length A.cc] 66)) = u at F0 ⊢
  have x0 : u.cell? ⟨w.heap.size, 0, none⟩ = some (.slice A.va c.vs.length A.vc) := F0.out.1.cell 0
  go_wp2_with fail
  refine (C0.out u F0.out.2).mono ?_
  rintro e w1 ⟨hr, hb1⟩
  have K1 := hide1 (F0.out.1.below hb1 F0.out.1.lt)
  have B1 := hide1 (F0.out.2.trans (hb1.mono F0.out.2.size))
  have x1 : w1.cell? ⟨w.heap.size, 1, none⟩ = some (.slice A.ta c.ts.length A.tc) := K1.out.cell 1
  clear hb1 x0 F0 C0
  rcases hr with rfl | ⟨r0, rfl, h00, h01, _⟩
  · go_wp2
    go_ret
    exact ⟨.inl rfl, B1.out⟩
  have q0 : decide ((r0 : Int) < 0) = false := by simp
  go_wp2_with fail
  refine (C1.out w1 r0 B1.out (by omega)).mono ?_
  rintro e w2 ⟨hr, hb2⟩
  have K2 := hide1 (K1.out.below hb2 K1.out.lt)
  have B2 := hide1 (B1.out.trans (hb2.mono B1.out.size))
  have x2 : w2.cell? ⟨w.heap.size, 2, none⟩ = some (.slice A.na c.ns.length A.nc) := K2.out.cell 2
  clear hb2 x1 K1 B1 C1
  rcases hr with rfl | ⟨r1, rfl, h10, h11, h12⟩
  · go_wp2
    go_ret
    exact ⟨.inl rfl, B2.out⟩
  have q1 : decide ((r1 : Int) < 0) = false := by simp
  have H12 := hide1 h12
  clear h12
  go_wp2_with fail
  refine (C2.out w2 r1 B2.out (by omega)).mono ?_
  rintro e w3 ⟨hr, hb3⟩
  have K3 := hide1 (K2.out.below hb3 K2.out.lt)
  have B3 := hide1 (B2.out.trans (hb3.mono B2.out.size))
  have x3 : w3.cell? ⟨w.heap.size, 3, none⟩ = some (.slice A.ca c.ch.length A.cc) := K3.out.cell 3
  clear hb3 x2 K2 B2 C2
  rcases hr with rfl | ⟨r2, rfl, h20, h21, _⟩
  · go_wp2
    go_ret
    exact ⟨.inl rfl, B3.out⟩
  have q2 : decide ((r2 : Int) < 0) = false := by simp
  go_wp2_with fail
  refine (C3.out w3 r2 B3.out (by omega)).mono ?_
  rintro e w4 ⟨hr, rfl⟩
  rcases hr with rfl | ⟨r3, rfl, h30, h31, _⟩
  · go_wp2
    go_ret
    exact ⟨.inl rfl, B3.out⟩
  have q3 : decide ((r3 : Int) < 0) = false := by simp
  have HF := hide1 (show Sm12 c from ⟨by omega, by have := HL.out; omega, h21, by omega, fun y hy => by
    rw [← HE.out] at hy
    obtain ⟨t, ht, rfl⟩ := List.mem_map.1 hy
    exact H12.out t ht⟩)
  go_wp2
  go_ret
  exact ⟨.inr ⟨r3, rfl, HF.out⟩, B3.out⟩

set_option maxRecDepth 100000 in
set_option maxHeartbeats 1000000 in
theorem toCouncil_any (A : CA) (c : Cn) (w : World) (hs : Sm12 c) (hR : RdI w A c) :
    Calls Try.prog 35 #[.agg #[.slice A.va c.vs.length A.vc, .slice A.ta c.ts.length A.tc, .slice A.na c.ns.length A.nc, .slice A.ca c.ch.length A.cc]] w fun e w' => (∃ M : CA, e = .returned (.agg #[.slice M.va c.vs.length M.vc, .slice M.ta c.ts.length M.tc, .slice M.na c.ns.length M.nc, .slice M.ca c.ch.length M.cc]) ∧ ∀ B, B < w.heap.size ∨ w'.heap.size ≤ B → RdC12 (fun _ => True) w' B M c) ∧ Below w.heap.size w w' := by
  have hl := hR.len
  have C0 := hide1 (fun w1 (h : Below w.heap.size w w1) => toVoiceS_any A.va c.vs A.vc w1 hs.v (hR.v.later h))
  have C1 := hide1 (fun w1 (h : Below w.heap.size w w1) => (show Calls Try.prog 68 #[.slice A.ta c.ts.length A.tc] w1 fun e w' => (∃ b q, e = .returned (.slice b c.ts.length q) ∧ ∃ L' : List Tm, L'.map (·.y) = c.ts ∧ w'.ownsRow w1.heap.size 47 7 (.slice b c.ts.length q) c.ts.length (rowG tmC L') ∧ ∀ t ∈ L', TmO w1.heap.size w' t) ∧ Below w1.heap.size w1 w' by
    rw [← hl, ← hR.e]
    exact toTryS_any A.ta A.L A.tc w1 (by rw [hl]; exact hs.t) (hR.t.later h) (fun t ht => ⟨(hR.r t ht).later h, hs.r t.y (by rw [← hR.e]; exact List.mem_map.2 ⟨t, ht, rfl⟩)⟩)))
  have C2 := hide1 (fun w1 (h : Below w.heap.size w w1) => toNoteS_any A.na c.ns A.nc w1 hs.n (rdN6_of_rdG (hR.n.later h)))
  have C3 := hide1 (fun w1 (h : Below w.heap.size w w1) => toTextS_any A.ca c.ch A.cc w1 hs.h (rdQ_G (hR.c.later h)))
  clear hR hs hl
  have F0 := hide1 (blkN3 w #[.slice A.va c.vs.length A.vc, .slice A.ta c.ts.length A.tc, .slice A.na c.ns.length A.nc, .slice A.ca c.ch.length A.cc] #[.slice none 0 0, .slice none 0 0, .slice none 0 0, .slice none 0 0] #[.slice none 0 0, .slice none 0 0, .slice none 0 0, .slice none 0 0] 66 32 32)
  go_enter Try.func35, Try.ntmps35
  go_upto_region 2 with fail
  generalize (((w.alloc (.cells #[.slice A.va c.vs.length A.vc, .slice A.ta c.ts.length A.tc, .slice A.na c.ns.length A.nc, .slice A.ca c.ch.length A.cc] 66)).alloc (.cells #[.slice none 0 0, .slice none 0 0, .slice none 0 0, .slice none 0 0] 32)).alloc (.cells #[.slice none 0 0, .slice none 0 0, .slice none 0 0, .slice none 0 0] 32)) = w0 at F0 ⊢
  obtain ⟨s0, hs0⟩ : ∃ s, s = w.heap.size := ⟨_, rfl⟩
  obtain ⟨s1, hs1⟩ : ∃ s, s = w.heap.size + 1 := ⟨_, rfl⟩
  obtain ⟨s2, hs2⟩ : ∃ s, s = w.heap.size + 1 + 1 := ⟨_, rfl⟩
  have K0 := hide1 F0.out.1
  have K1 := hide1 F0.out.2.1
  have K2 := hide1 F0.out.2.2.1
  have B0 := hide1 F0.out.2.2.2
  rw [← hs0] at K0
  rw [← hs1] at K1
  rw [← hs2] at K2 ⊢
  rw [← hs1]
  have hge : Hid (w.heap.size ≤ s0 ∧ w.heap.size ≤ s1 ∧ w.heap.size ≤ s2) := hide1 (by omega)
  have n01 : s0 ≠ s1 := by omega
  have n02 : s0 ≠ s2 := by omega
  have n12 : s1 ≠ s2 := by omega
  rw [show ({block := w.heap.size, off := 0} : Addr) = ⟨s0, 0, none⟩ by rw [hs0]]
  clear hs0 hs1 hs2 F0
  have x0 : w0.cell? ⟨s0, 0, none⟩ = some (.slice A.va c.vs.length A.vc) := K0.out.cell 0
  go_wp2_with fail
  refine (C0.out w0 B0.out).mono ?_
  rintro e w1 ⟨b0, q0, rfl, ho0, hb0⟩
  have J0 := hide1 (K0.out.below hb0 K0.out.lt)
  have J1 := hide1 (K1.out.below hb0 K1.out.lt)
  have J2 := hide1 (K2.out.below hb0 K2.out.lt)
  have D := hide1 (B0.out.trans (hb0.mono B0.out.size))
  have l02 : s2 < w0.heap.size := K2.out.lt
  have l01 : s1 < w0.heap.size := K1.out.lt
  have g0 : w.heap.size ≤ w0.heap.size := B0.out.size
  have hf : ∀ q, w1.frozen? ⟨s2, q, none⟩ = false := fun q => J2.out.froz q
  have y0 : w1.cell? ⟨s2, 0, none⟩ = some (.slice none 0 0) := J2.out.cell 0
  have S := hide1 (gset (World.grownBy.refl w1 (some s2)) 0 (.slice b0 c.vs.length q0))
  have O0 := hide1 (own_far1 S.out ho0 l02)
  have T2 := hide1 (J2.out.set 0 (.slice b0 c.vs.length q0))
  have T0 := hide1 (J0.out.far ⟨s2, 0, none⟩ (.slice b0 c.vs.length q0) n02)
  have T1 := hide1 (J1.out.far ⟨s2, 0, none⟩ (.slice b0 c.vs.length q0) n12)
  have E := hide1 (D.out.setCell (p := ⟨s2, 0, none⟩) hge.out.2.2 (.slice b0 c.vs.length q0))
  clear J0 J1 J2 D S ho0 hb0 C0 x0 K0 K1 K2 B0
  have K0 := hide1 T0.out
  have K1 := hide1 T1.out
  have K2 := hide1 T2.out
  have B0 := hide1 E.out
  clear T0 T1 T2 E
  have x1 : (w1.setCell ⟨s2, 0, none⟩ (.slice b0 c.vs.length q0)).cell? ⟨s0, 1, none⟩ = some (.slice A.ta c.ts.length A.tc) := K0.out.cell 1
  have xx1 : w1.cell? ⟨s0, 1, none⟩ = some (.slice A.ta c.ts.length A.tc) := by rw [← x1]; exact (World.cell?_of_block (Below.heap_setCell _ _ _ _ n02)).symm
  clear x1
  go_wp2_with fail
  clear xx1 y0 hf
  generalize (w1.setCell ⟨s2, 0, none⟩ (.slice b0 c.vs.length q0)) = w2 at *
  refine (C1.out w2 B0.out).mono ?_
  rintro e w3 ⟨⟨b1, q1, rfl, L', hy, ho1, hT⟩, hb1⟩
  have J0 := hide1 (K0.out.below hb1 K0.out.lt)
  have J1 := hide1 (K1.out.below hb1 K1.out.lt)
  have J2 := hide1 (K2.out.below hb1 K2.out.lt)
  have D := hide1 (B0.out.trans (hb1.mono B0.out.size))
  have l12 : s2 < w2.heap.size := K2.out.lt
  have l11 : s1 < w2.heap.size := K1.out.lt
  have g1 : w.heap.size ≤ w2.heap.size := B0.out.size
  have hf : ∀ q, w3.frozen? ⟨s2, q, none⟩ = false := fun q => J2.out.froz q
  have y1 : w3.cell? ⟨s2, 1, none⟩ = some (.slice none 0 0) := J2.out.cell 1
  have S := hide1 (gset (World.grownBy.refl w3 (some s2)) 1 (.slice b1 c.ts.length q1))
  have P0 := hide1 (own_far1 S.out (own_kept O0.out hb1) l02)
  clear O0
  have O0 := hide1 P0.out
  clear P0
  have O1 := hide1 (own_far1 S.out ho1 l12)
  have OT := hide1 (fun t ht => (hT t ht).far1 S.out l12)
  have HY := hide1 hy
  clear hT hy
  have T2 := hide1 (J2.out.set 1 (.slice b1 c.ts.length q1))
  have T0 := hide1 (J0.out.far ⟨s2, 1, none⟩ (.slice b1 c.ts.length q1) n02)
  have T1 := hide1 (J1.out.far ⟨s2, 1, none⟩ (.slice b1 c.ts.length q1) n12)
  have E := hide1 (D.out.setCell (p := ⟨s2, 1, none⟩) hge.out.2.2 (.slice b1 c.ts.length q1))
  clear J0 J1 J2 D S ho1 hb1 C1 K0 K1 K2 B0
  have K0 := hide1 T0.out
  have K1 := hide1 T1.out
  have K2 := hide1 T2.out
  have B0 := hide1 E.out
  clear T0 T1 T2 E
  have x2 : (w3.setCell ⟨s2, 1, none⟩ (.slice b1 c.ts.length q1)).cell? ⟨s0, 2, none⟩ = some (.slice A.na c.ns.length A.nc) := K0.out.cell 2
  have xx2 : w3.cell? ⟨s0, 2, none⟩ = some (.slice A.na c.ns.length A.nc) := by rw [← x2]; exact (World.cell?_of_block (Below.heap_setCell _ _ _ _ n02)).symm
  clear x2
  go_wp2_with fail
  clear xx2 y1 hf
  generalize (w3.setCell ⟨s2, 1, none⟩ (.slice b1 c.ts.length q1)) = w4 at *
  refine (C2.out w4 B0.out).mono ?_
  rintro e w5 ⟨b2, q2, rfl, ho2, hb2⟩
  have J0 := hide1 (K0.out.below hb2 K0.out.lt)
  have J1 := hide1 (K1.out.below hb2 K1.out.lt)
  have J2 := hide1 (K2.out.below hb2 K2.out.lt)
  have D := hide1 (B0.out.trans (hb2.mono B0.out.size))
  have l22 : s2 < w4.heap.size := K2.out.lt
  have l21 : s1 < w4.heap.size := K1.out.lt
  have g2 : w.heap.size ≤ w4.heap.size := B0.out.size
  have hf : ∀ q, w5.frozen? ⟨s2, q, none⟩ = false := fun q => J2.out.froz q
  have y2 : w5.cell? ⟨s2, 2, none⟩ = some (.slice none 0 0) := J2.out.cell 2
  have S := hide1 (gset (World.grownBy.refl w5 (some s2)) 2 (.slice b2 c.ns.length q2))
  have P0 := hide1 (own_far1 S.out (own_kept O0.out hb2) l02)
  clear O0
  have O0 := hide1 P0.out
  clear P0
  have P1 := hide1 (own_far1 S.out (own_kept O1.out hb2) l12)
  clear O1
  have O1 := hide1 P1.out
  clear P1
  have PT := hide1 (fun t ht => ((OT.out t ht).kept hb2).far1 S.out l12)
  clear OT
  have OT := hide1 PT.out
  clear PT
  have O2 := hide1 (own_far1 S.out ho2 l22)
  have T2 := hide1 (J2.out.set 2 (.slice b2 c.ns.length q2))
  have T0 := hide1 (J0.out.far ⟨s2, 2, none⟩ (.slice b2 c.ns.length q2) n02)
  have T1 := hide1 (J1.out.far ⟨s2, 2, none⟩ (.slice b2 c.ns.length q2) n12)
  have E := hide1 (D.out.setCell (p := ⟨s2, 2, none⟩) hge.out.2.2 (.slice b2 c.ns.length q2))
  clear J0 J1 J2 D S ho2 hb2 C2 K0 K1 K2 B0
  have K0 := hide1 T0.out
  have K1 := hide1 T1.out
  have K2 := hide1 T2.out
  have B0 := hide1 E.out
  clear T0 T1 T2 E
  have x3 : (w5.setCell ⟨s2, 2, none⟩ (.slice b2 c.ns.length q2)).cell? ⟨s0, 3, none⟩ = some (.slice A.ca c.ch.length A.cc) := K0.out.cell 3
  have xx3 : w5.cell? ⟨s0, 3, none⟩ = some (.slice A.ca c.ch.length A.cc) := by rw [← x3]; exact (World.cell?_of_block (Below.heap_setCell _ _ _ _ n02)).symm
  clear x3
  go_wp2_with fail
  clear xx3 y2 hf
  generalize (w5.setCell ⟨s2, 2, none⟩ (.slice b2 c.ns.length q2)) = w6 at *
  refine (C3.out w6 B0.out).mono ?_
  rintro e w7 ⟨b3, q3, rfl, ho3, hb3⟩
  rw [sc_row] at ho3
  have J0 := hide1 (K0.out.below hb3 K0.out.lt)
  have J1 := hide1 (K1.out.below hb3 K1.out.lt)
  have J2 := hide1 (K2.out.below hb3 K2.out.lt)
  have D := hide1 (B0.out.trans (hb3.mono B0.out.size))
  have l32 : s2 < w6.heap.size := K2.out.lt
  have l31 : s1 < w6.heap.size := K1.out.lt
  have g3 : w.heap.size ≤ w6.heap.size := B0.out.size
  have hf : ∀ q, w7.frozen? ⟨s2, q, none⟩ = false := fun q => J2.out.froz q
  have y3 : w7.cell? ⟨s2, 3, none⟩ = some (.slice none 0 0) := J2.out.cell 3
  have P0 := hide1 (own_kept O0.out hb3)
  have P1 := hide1 (own_kept O1.out hb3)
  have P2 := hide1 (own_kept O2.out hb3)
  have PT := hide1 (fun t ht => (OT.out t ht).kept hb3)
  have P3 := hide1 ho3
  clear ho3 hb3 C3 K0 K1 K2 B0 O0 O1 O2 OT
  have y0 : w7.cell? ⟨s2, 0, none⟩ = some (.slice b0 c.vs.length q0) := J2.out.cell 0
  have y1 : w7.cell? ⟨s2, 1, none⟩ = some (.slice b1 c.ts.length q1) := J2.out.cell 1
  have y2 : w7.cell? ⟨s2, 2, none⟩ = some (.slice b2 c.ns.length q2) := J2.out.cell 2
  have z0 : w7.cell? ⟨s1, 0, none⟩ = some (.slice none 0 0) := J1.out.cell 0
  have z1 : w7.cell? ⟨s1, 1, none⟩ = some (.slice none 0 0) := J1.out.cell 1
  have z2 : w7.cell? ⟨s1, 2, none⟩ = some (.slice none 0 0) := J1.out.cell 2
  have z3 : w7.cell? ⟨s1, 3, none⟩ = some (.slice none 0 0) := J1.out.cell 3
  have zf : ∀ q, w7.frozen? ⟨s1, q, none⟩ = false := fun q => J1.out.froz q
  go_wp2
  refine bodyPost_ret (results_cell_row Try.results35 _ _ s1 32 #[.slice b0 c.vs.length q0, .slice b1 c.ts.length q1, .slice b2 c.ns.length q2, .slice b3 c.ch.length q3] (0, 0) _ rfl (Blk.set (Blk.set (Blk.set (Blk.set (Blk.far J1.out ⟨s2, 3, none⟩ _ n12) 0 _) 1 _) 2 _) 3 _) Try.underlying32 rfl (by kernel_rfl)) rfl ?_
  have G2 : ∀ a : Value, w7.grownBy (w7.setCell ⟨s2, 3, none⟩ a) (some s2) := fun a => gset (World.grownBy.refl _ _) 3 a
  have G1 : ∀ (v : World) (a b c d : Value), v.grownBy ((((v.setCell ⟨s1, 0, none⟩ a).setCell ⟨s1, 1, none⟩ b).setCell ⟨s1, 2, none⟩ c).setCell ⟨s1, 3, none⟩ d) (some s1) := fun v a b c d => gset (gset (gset (gset (World.grownBy.refl _ _) 0 a) 1 b) 2 c) 3 d
  have Q0 := own_base (own_far1 (G1 _ (.slice b0 c.vs.length q0) (.slice b1 c.ts.length q1) (.slice b2 c.ns.length q2) (.slice b3 c.ch.length q3)) (own_far1 (G2 (.slice b3 c.ch.length q3)) P0.out l02) l01) g0
  have Q1 := own_base (own_far1 (G1 _ (.slice b0 c.vs.length q0) (.slice b1 c.ts.length q1) (.slice b2 c.ns.length q2) (.slice b3 c.ch.length q3)) (own_far1 (G2 (.slice b3 c.ch.length q3)) P1.out l12) l11) g1
  have Q2 := own_base (own_far1 (G1 _ (.slice b0 c.vs.length q0) (.slice b1 c.ts.length q1) (.slice b2 c.ns.length q2) (.slice b3 c.ch.length q3)) (own_far1 (G2 (.slice b3 c.ch.length q3)) P2.out l22) l21) g2
  have Q3 := own_base (own_far1 (G1 _ (.slice b0 c.vs.length q0) (.slice b1 c.ts.length q1) (.slice b2 c.ns.length q2) (.slice b3 c.ch.length q3)) (own_far1 (G2 (.slice b3 c.ch.length q3)) P3.out l32) l31) g3
  have QT := fun t ht => (((PT.out t ht).far1 (G2 (.slice b3 c.ch.length q3)) l12).far1 (G1 _ (.slice b0 c.vs.length q0) (.slice b1 c.ts.length q1) (.slice b2 c.ns.length q2) (.slice b3 c.ch.length q3)) l11).base g1
  have hyl : L'.length = c.ts.length := by rw [← HY.out, List.length_map]
  refine ⟨⟨⟨b0, q0, b1, q1, b2, q2, b3, q3, L'⟩, rfl, fun B hB => ?_⟩, ?_⟩
  · exact ⟨rdG_of_own encV.len Q0 rfl, own_neE Q0 hB (LoLe.all _), HY.out, rdG_of_own encT.len Q1 hyl, own_neE Q1 hB (LoLe.all _), fun t ht => ⟨rdG_of_own encN.len (QT t ht).p rfl, own_neE (QT t ht).p hB (LoLe.all _), rdG_of_own encZ.len (QT t ht).k rfl, own_neE (QT t ht).k hB (LoLe.all _)⟩, rdG_of_own encN.len Q2 rfl, own_neE Q2 hB (LoLe.all _), own_le Q2, rdG_of_own encX.len Q3 rfl, own_neE Q3 hB (LoLe.all _)⟩
  · exact (D.out.grown (G2 _) D.out.size (fun k hk => by injection hk with hk; have := hge.out; omega)).grown (G1 _ _ _ _ _) (by rw [World.size_setCell]; exact D.out.size) (fun k hk => by injection hk with hk; have := hge.out; omega)
end Go.Proofs.Ytgehdgmllilmgaa
