/- Tries in the statements' words: opened, copied, sized. -/
import Derived.Test.YtmejdblobikclaaToN
import Derived.Test.YtmejdblobikclaaToV
import Derived.Test.YtmejdblobikclaaMkP
import Derived.Test.YtmejdblobikclaaTxV
import Derived.Test.YtmejdblobikclaaCnI
namespace Go.Proofs.Ytmejdblobikclaa
open Go.ChangeShapes Go.WideShapes Go.ChangeAt Go.RowKit Go.Deep Go.Joins
set_option linter.unusedVariables false

theorem rdG_Z {w : World} {a : Option Addr} {l : List Int} (h : RdZ w a l) : RdG izE 1 w a l := by
  intro i hi
  obtain ⟨b, o, h1, h2, h3⟩ := h i hi
  refine ⟨b, o, h1, h2, fun j hj => ?_⟩
  obtain rfl : j = 0 := by omega
  rw [Nat.mul_one]
  exact h3
theorem rdG_Q {w : World} {a : Option Addr} {l : List ByteArray} (h : RdQ w a l) : RdG txE 1 w a l := by
  intro i hi
  obtain ⟨b, o, h1, h2, h3⟩ := h i hi
  refine ⟨b, o, h1, h2, fun j hj => ?_⟩
  obtain rfl : j = 0 := by omega
  rw [Nat.mul_one]
  exact h3
/-- The rows of a try are read. -/
def TmR0 (w : World) (t : Tm) : Prop := RdG ntC 6 w t.pa t.y.ps ∧ RdG izE 1 w t.ka t.y.tk
/-- What every try that came in is. -/
def wfT (t : Tm) : Prop := t.y.v.size ≤ maxLen ∧ t.y.ps.length ≤ maxLen ∧ (∀ m ∈ t.y.ps, m.v.size ≤ maxLen) ∧ t.y.tk.length ≤ maxLen
set_option maxRecDepth 100000 in
theorem open_tryE {H : Type} {enc : TypeId × Value → H} {w : World} {base fuel : Nat} {sp : Nat → Bool} {held : Bool} {cs : List Value} {x : DataW H × List MemPlace} (h : DataW.trod enc Try.prog w base sp held fuel 125 cs = some x) :
    ∃ t : Tm, cs = tmC t ∧ TmR0 w t ∧ wfT t := by
  obtain ⟨xs, n, _, _, hlen, hxl, hf⟩ := DataW.trod_struct Try.underlying125 h
  have hc : Try.prog.cellsOf 125 = 7 := by kernel_rfl
  rw [hc] at hlen
  match xs, hxl, cs, hlen with
  | [p0, p1, p2, p3, p4, p5, p6], _, [v0, v1, v2, v3, v4, v5, v6], _ =>
    have g0 := hf 0 _ rfl
    have g1 := hf 1 _ rfl
    have g2 := hf 2 _ rfl
    have g3 := hf 3 _ rfl
    have g4 := hf 4 _ rfl
    have g5 := hf 5 _ rfl
    have g6 := hf 6 _ rfl
    have ci : Try.prog.cellsOf 3 = 1 := by kernel_rfl
    have cst : Try.prog.cellsOf 9 = 1 := by kernel_rfl
    have cb : Try.prog.cellsOf 4 = 1 := by kernel_rfl
    have cn : Try.prog.cellsOf 64 = 1 := by kernel_rfl
    have cz : Try.prog.cellsOf 33 = 1 := by kernel_rfl
    simp [ci, cst, cb, cn, cz] at g0 g1 g2 g3 g4 g5 g6
    obtain ⟨n0, e0, _, w0⟩ := DataW.trod_int Try.underlying3 g0
    obtain ⟨n1, e1, _, w1⟩ := DataW.trod_int Try.underlying3 g1
    obtain ⟨s2, e2, _, w2⟩ := DataW.trod_string Try.underlying9 g2
    obtain ⟨a3, l3, c3, e3, r3, k3, f3⟩ := open_notesE g3
    obtain ⟨b4, e4, _⟩ := DataW.trod_bool Try.underlying4 g4
    obtain ⟨a5, l5, c5, e5, r5, k5⟩ := open_ints g5
    obtain ⟨b6, e6, _⟩ := DataW.trod_bool Try.underlying4 g6
    simp at e0 e1 e2 e3 e4 e5 e6
    subst e0 e1 e2 e3 e4 e5 e6
    exact ⟨⟨⟨n0, n1, s2, l3, b4, l5, b6⟩, a3, c3, a5, c5⟩, rfl, ⟨r3, rdG_Z r5⟩, w2, k3, fun m hm => (f3 m hm).2.2.2.2.2, k5⟩
instance : Inhabited Tm := ⟨zTm⟩
set_option maxRecDepth 100000 in
theorem open_trysE {H : Type} {enc : TypeId × Value → H} {w : World} {base fuel : Nat} {sp : Nat → Bool} {held : Bool} {cs : List Value} {x : DataW H × List MemPlace} (h : DataW.trod enc Try.prog w base sp held fuel 63 cs = some x) :
    ∃ (ao : Option Addr) (l : List Tm) (ca : Nat), cs = [.slice ao l.length ca] ∧ RdG tmC 7 w ao l ∧ l.length ≤ maxLen ∧ ∀ s ∈ l, TmR0 w s ∧ wfT s := by
  rcases open_slice Try.underlying63 h with ⟨rfl, _⟩ | ⟨a, len, cap, m, n, D, Pl, rfl, hb, hl, hm, hmm, _, hx⟩
  · exact ⟨none, [], 0, rfl, RdG.nil _ _, Nat.zero_le _, fun i hi => by simp at hi⟩
  have hlm : len ≤ m := by rw [hmm]; split <;> omega
  have hc : Try.prog.cellsOf 125 = 7 := by kernel_rfl
  refine open_rowG (P := fun t => TmR0 w t ∧ wfT t) encT (by decide) (.inr (Nat.le_trans hl hm)) hlm (fun i hi => ?_)
  obtain ⟨cs', h1, h2⟩ := hx i hi
  rw [hc] at h1
  obtain ⟨_, hlen, hcell⟩ := World.cells?_some h1
  obtain ⟨s, rfl, hw⟩ := open_tryE h2
  exact ⟨s, hw, fun j hj => hcell j (by omega)⟩

set_option maxRecDepth 100000 in
set_option maxHeartbeats 1000000 in
theorem toTry_any (t : Tm) (w : World) (hp : t.y.ps.length ≤ 1048576) (hk : t.y.tk.length ≤ 1048576) (hR : TmR0 w t) :
    Calls Try.prog 89 #[.agg #[.int .i64 t.y.i, .int .i64 t.y.b, .string t.y.v, .slice t.pa t.y.ps.length t.pc, .bool t.y.as, .slice t.ka t.y.tk.length t.kc, .bool t.y.ch]] w fun e w' => (∃ pa pc ka kc, e = .returned (.agg #[.int .i64 t.y.i, .int .i64 t.y.b, .string t.y.v, .slice pa t.y.ps.length pc, .bool t.y.as, .slice ka t.y.tk.length kc, .bool t.y.ch]) ∧ TmO w.heap.size w' ⟨t.y, pa, pc, ka, kc⟩) ∧ Below w.heap.size w w' := by
  have C1 := hide1 (fun w1 (h : Below w.heap.size w w1) => toNoteS_any t.pa t.y.ps t.pc w1 hp (rdN6_of_rdG (hR.1.later h)))
  have C2 := hide1 (fun w1 (h : Below w.heap.size w w1) => toIntS_any t.ka t.y.tk t.kc w1 hk (rdZ_G (hR.2.later h)))
  clear hR
  have F0 := hide1 (blkN3 w #[.int .i64 t.y.i, .int .i64 t.y.b, .string t.y.v, .slice t.pa t.y.ps.length t.pc, .bool t.y.as, .slice t.ka t.y.tk.length t.kc, .bool t.y.ch] #[.int .i64 0, .int .i64 0, .string ⟨#[]⟩, .slice none 0 0, .bool false, .slice none 0 0, .bool false] #[.int .i64 0, .int .i64 0, .string ⟨#[]⟩, .slice none 0 0, .bool false, .slice none 0 0, .bool false] 125 47 47)
  go_enter Try.func89, Try.ntmps89
  go_upto_region 2 with fail
  generalize (((w.alloc (.cells #[.int .i64 t.y.i, .int .i64 t.y.b, .string t.y.v, .slice t.pa t.y.ps.length t.pc, .bool t.y.as, .slice t.ka t.y.tk.length t.kc, .bool t.y.ch] 125)).alloc (.cells #[.int .i64 0, .int .i64 0, .string ⟨#[]⟩, .slice none 0 0, .bool false, .slice none 0 0, .bool false] 47)).alloc (.cells #[.int .i64 0, .int .i64 0, .string ⟨#[]⟩, .slice none 0 0, .bool false, .slice none 0 0, .bool false] 47)) = w0 at F0 ⊢
  obtain ⟨s0, hs0⟩ : ∃ s, s = w.heap.size := ⟨_, rfl⟩
  obtain ⟨s1, hs1⟩ : ∃ s, s = w.heap.size + 1 := ⟨_, rfl⟩
  obtain ⟨s2, hs2⟩ : ∃ s, s = w.heap.size + 1 + 1 := ⟨_, rfl⟩
  have K0 := hide1 F0.out.1
  have K1 := hide1 F0.out.2.1
  have K2 := hide1 F0.out.2.2.1
  have B0 := hide1 F0.out.2.2.2
  rw [← hs0] at K0
  rw [← hs1] at K1
  rw [← hs2] at K2 ⊢
  rw [← hs1]
  have hge : Hid (w.heap.size ≤ s0 ∧ w.heap.size ≤ s1 ∧ w.heap.size ≤ s2) := hide1 (by omega)
  have n01 : s0 ≠ s1 := by omega
  have n02 : s0 ≠ s2 := by omega
  have n12 : s1 ≠ s2 := by omega
  have HS0 := hide1 hs0
  rw [show ({block := w.heap.size, off := 0} : Addr) = ⟨s0, 0, none⟩ by rw [hs0]]
  clear hs0 hs1 hs2 F0
  have x0 : w0.cell? ⟨s0, 0, none⟩ = some (.int .i64 t.y.i) := K0.out.cell 0
  have x1 : w0.cell? ⟨s0, 1, none⟩ = some (.int .i64 t.y.b) := K0.out.cell 1
  have x2 : w0.cell? ⟨s0, 2, none⟩ = some (.string t.y.v) := K0.out.cell 2
  have x3 : w0.cell? ⟨s0, 3, none⟩ = some (.slice t.pa t.y.ps.length t.pc) := K0.out.cell 3
  have y0 : w0.cell? ⟨s2, 0, none⟩ = some (.int .i64 0) := K2.out.cell 0
  have y1 : w0.cell? ⟨s2, 1, none⟩ = some (.int .i64 0) := K2.out.cell 1
  have y2 : w0.cell? ⟨s2, 2, none⟩ = some (.string ⟨#[]⟩) := K2.out.cell 2
  have yf : ∀ j, w0.frozen? ⟨s2, j, none⟩ = false := fun j => K2.out.froz j
  have J2 := hide1 (((K2.out.set 0 (.int .i64 t.y.i)).set 1 (.int .i64 t.y.b)).set 2 (.string t.y.v))
  have J0 := hide1 (((K0.out.far ⟨s2, 0, none⟩ (.int .i64 t.y.i) n02).far ⟨s2, 1, none⟩ (.int .i64 t.y.b) n02).far ⟨s2, 2, none⟩ (.string t.y.v) n02)
  have J1 := hide1 (((K1.out.far ⟨s2, 0, none⟩ (.int .i64 t.y.i) n12).far ⟨s2, 1, none⟩ (.int .i64 t.y.b) n12).far ⟨s2, 2, none⟩ (.string t.y.v) n12)
  have B1 := hide1 (((B0.out.setCell (p := ⟨s2, 0, none⟩) hge.out.2.2 (.int .i64 t.y.i)).setCell (p := ⟨s2, 1, none⟩) hge.out.2.2 (.int .i64 t.y.b)).setCell (p := ⟨s2, 2, none⟩) hge.out.2.2 (.string t.y.v))
  clear K0 K1 K2 B0
  go_wp2_with fail
  generalize (((w0.setCell ⟨s2, 0, none⟩ (.int .i64 t.y.i)).setCell ⟨s2, 1, none⟩ (.int .i64 t.y.b)).setCell ⟨s2, 2, none⟩ (.string t.y.v)) = w1 at J0 J1 J2 B1 ⊢
  clear x0 x1 x2 x3 y0 y1 y2 yf
  refine (C1.out w1 B1.out).mono ?_
  rintro e w2 ⟨pa, pc, rfl, ho2, hb2⟩
  have O2 := hide1 ho2
  have L0 := hide1 (J0.out.below hb2 J0.out.lt)
  have L1 := hide1 (J1.out.below hb2 J1.out.lt)
  have L2 := hide1 (J2.out.below hb2 J2.out.lt)
  have l2 : s2 < w1.heap.size := J2.out.lt
  have l11 : s1 < w1.heap.size := J1.out.lt
  have hb1s : w.heap.size ≤ w1.heap.size := B1.out.size
  have B2 := hide1 (B1.out.trans (hb2.mono B1.out.size))
  clear ho2 hb2 J0 J1 J2 C1
  have x4 : w2.cell? ⟨s0, 4, none⟩ = some (.bool t.y.as) := L0.out.cell 4
  have x5 : w2.cell? ⟨s0, 5, none⟩ = some (.slice t.ka t.y.tk.length t.kc) := L0.out.cell 5
  have y3 : w2.cell? ⟨s2, 3, none⟩ = some (.slice none 0 0) := L2.out.cell 3
  have y4 : w2.cell? ⟨s2, 4, none⟩ = some (.bool false) := L2.out.cell 4
  have yf : ∀ j, w2.frozen? ⟨s2, j, none⟩ = false := fun j => L2.out.froz j
  have M2 := hide1 ((L2.out.set 3 (.slice pa t.y.ps.length pc)).set 4 (.bool t.y.as))
  have M0 := hide1 ((L0.out.far ⟨s2, 3, none⟩ (.slice pa t.y.ps.length pc) n02).far ⟨s2, 4, none⟩ (.bool t.y.as) n02)
  have M1 := hide1 ((L1.out.far ⟨s2, 3, none⟩ (.slice pa t.y.ps.length pc) n12).far ⟨s2, 4, none⟩ (.bool t.y.as) n12)
  have B3 := hide1 ((B2.out.setCell (p := ⟨s2, 3, none⟩) hge.out.2.2 (.slice pa t.y.ps.length pc)).setCell (p := ⟨s2, 4, none⟩) hge.out.2.2 (.bool t.y.as))
  have O3 := hide1 (own_far1 (gset (gset (World.grownBy.refl w2 (some s2)) 3 (.slice pa t.y.ps.length pc)) 4 (.bool t.y.as)) O2.out l2)
  clear L0 L1 L2 B2 O2
  go_wp2_with fail
  generalize ((w2.setCell ⟨s2, 3, none⟩ (.slice pa t.y.ps.length pc)).setCell ⟨s2, 4, none⟩ (.bool t.y.as)) = w3 at M0 M1 M2 B3 O3 ⊢
  clear x4 x5 y3 y4 yf
  refine (C2.out w3 B3.out).mono ?_
  rintro e w4 ⟨ka, kc, rfl, ho4, hb4⟩
  rw [iz_row] at ho4
  have O4 := hide1 (own_kept O3.out hb4)
  have P4 := hide1 ho4
  have L0 := hide1 (M0.out.below hb4 M0.out.lt)
  have L1 := hide1 (M1.out.below hb4 M1.out.lt)
  have L2 := hide1 (M2.out.below hb4 M2.out.lt)
  have l3 : s2 < w3.heap.size := M2.out.lt
  have l31 : s1 < w3.heap.size := M1.out.lt
  have B4 := hide1 (B3.out.trans (hb4.mono B3.out.size))
  clear ho4 hb4 M0 M1 M2 C2 O3
  have x6 : w4.cell? ⟨s0, 6, none⟩ = some (.bool t.y.ch) := L0.out.cell 6
  have y0 : w4.cell? ⟨s2, 0, none⟩ = some (.int .i64 t.y.i) := L2.out.cell 0
  have y1 : w4.cell? ⟨s2, 1, none⟩ = some (.int .i64 t.y.b) := L2.out.cell 1
  have y2 : w4.cell? ⟨s2, 2, none⟩ = some (.string t.y.v) := L2.out.cell 2
  have y3 : w4.cell? ⟨s2, 3, none⟩ = some (.slice pa t.y.ps.length pc) := L2.out.cell 3
  have y4 : w4.cell? ⟨s2, 4, none⟩ = some (.bool t.y.as) := L2.out.cell 4
  have y5 : w4.cell? ⟨s2, 5, none⟩ = some (.slice none 0 0) := L2.out.cell 5
  have y6 : w4.cell? ⟨s2, 6, none⟩ = some (.bool false) := L2.out.cell 6
  have yf : ∀ j, w4.frozen? ⟨s2, j, none⟩ = false := fun j => L2.out.froz j
  have z0 : w4.cell? ⟨s1, 0, none⟩ = some (.int .i64 0) := L1.out.cell 0
  have z1 : w4.cell? ⟨s1, 1, none⟩ = some (.int .i64 0) := L1.out.cell 1
  have z2 : w4.cell? ⟨s1, 2, none⟩ = some (.string ⟨#[]⟩) := L1.out.cell 2
  have z3 : w4.cell? ⟨s1, 3, none⟩ = some (.slice none 0 0) := L1.out.cell 3
  have z4 : w4.cell? ⟨s1, 4, none⟩ = some (.bool false) := L1.out.cell 4
  have z5 : w4.cell? ⟨s1, 5, none⟩ = some (.slice none 0 0) := L1.out.cell 5
  have z6 : w4.cell? ⟨s1, 6, none⟩ = some (.bool false) := L1.out.cell 6
  have zf : ∀ j, w4.frozen? ⟨s1, j, none⟩ = false := fun j => L1.out.froz j
  go_wp2
  refine bodyPost_ret (results_cell_row Try.results89 _ _ s1 47 #[.int .i64 t.y.i, .int .i64 t.y.b, .string t.y.v, .slice pa t.y.ps.length pc, .bool t.y.as, .slice ka t.y.tk.length kc, .bool t.y.ch] (0, 0) _ rfl (Blk.set (Blk.set (Blk.set (Blk.set (Blk.set (Blk.set (Blk.set (Blk.far (Blk.far L1.out ⟨s2, 5, none⟩ _ n12) ⟨s2, 6, none⟩ _ n12) 0 _) 1 _) 2 _) 3 _) 4 _) 5 _) 6 _) Try.underlying47 rfl (by kernel_rfl)) rfl ?_
  have G2 : ∀ (a b : Value), w4.grownBy ((w4.setCell ⟨s2, 5, none⟩ a).setCell ⟨s2, 6, none⟩ b) (some s2) := fun a b => gset (gset (World.grownBy.refl _ _) 5 a) 6 b
  have G1 : ∀ (v : World) (a b c d e f g : Value), v.grownBy (((((((v.setCell ⟨s1, 0, none⟩ a).setCell ⟨s1, 1, none⟩ b).setCell ⟨s1, 2, none⟩ c).setCell ⟨s1, 3, none⟩ d).setCell ⟨s1, 4, none⟩ e).setCell ⟨s1, 5, none⟩ f).setCell ⟨s1, 6, none⟩ g) (some s1) := fun v a b c d e f g => gset (gset (gset (gset (gset (gset (gset (World.grownBy.refl _ _) 0 a) 1 b) 2 c) 3 d) 4 e) 5 f) 6 g
  refine ⟨⟨pa, pc, ka, kc, rfl, ⟨own_base (own_far1 (G1 _ _ _ _ _ _ _ _) (own_far1 (G2 _ _) O4.out l2) l11) hb1s, own_base (own_far1 (G1 _ _ _ _ _ _ _ _) (own_far1 (G2 _ _) P4.out l3) l31) B3.out.size⟩⟩, ?_⟩
  exact (B4.out.grown (G2 _ _) B4.out.size (fun k hk => by injection hk with hk; have := hge.out; omega)).grown (G1 _ _ _ _ _ _ _ _) (by rw [World.size_setCell, World.size_setCell]; exact B4.out.size) (fun k hk => by injection hk with hk; have := hge.out; omega)

set_option maxRecDepth 100000 in
set_option maxHeartbeats 1000000 in
theorem szTry_any (t : Tm) (left : Nat) (w : World) (hw : wfT t) (hR : TmR0 w t) (hl : left ≤ 1048576) :
    Calls Try.prog 86 #[.agg #[.int .i64 t.y.i, .int .i64 t.y.b, .string t.y.v, .slice t.pa t.y.ps.length t.pc, .bool t.y.as, .slice t.ka t.y.tk.length t.kc, .bool t.y.ch], .int .i64 (left : Int)] w fun e w' => (e = .returned (.int .i64 (-1)) ∨ ∃ r : Nat, e = .returned (.int .i64 (r : Int)) ∧ r ≤ left ∧ t.y.ps.length ≤ 1048576 ∧ t.y.tk.length ≤ 1048576) ∧ Below w.heap.size w w' := by
  have m1 : maxLen = 9223372036854775807 := rfl
  obtain ⟨h1, h2, h3, h4⟩ := hw
  rw [m1] at h1 h2 h4
  have F0 := hide1 (And.intro (Blk.new w 125 #[.int .i64 t.y.i, .int .i64 t.y.b, .string t.y.v, .slice t.pa t.y.ps.length t.pc, .bool t.y.as, .slice t.ka t.y.tk.length t.kc, .bool t.y.ch]) ((Below.refl w.heap.size w).alloc (Nat.le_refl _) (.cells #[.int .i64 t.y.i, .int .i64 t.y.b, .string t.y.v, .slice t.pa t.y.ps.length t.pc, .bool t.y.as, .slice t.ka t.y.tk.length t.kc, .bool t.y.ch] 125)))
  have C1 := hide1 (fun w1 (r : Nat) (h : Below w.heap.size w w1) (hr : r ≤ 1048576) => szNoteS_any t.pa t.y.ps t.pc r w1 hr (by omega) (rdN6_of_rdG (hR.1.later h)) (fun i hi => by have := h3 _ (List.getElem_mem hi); rw [m1] at this; exact this))
  have C2 := hide1 (fun w1 (r : Nat) (hr : r ≤ 1048576) => szIntS_any t.ka t.y.tk.length t.kc r w1 (by omega) hr)
  clear hR h3
  by_cases c1 : t.y.v.size ≤ left
  · have q1 : decide ((left : Int) - (t.y.v.size : Int) < 0) = false := by simp; omega
    have qe : (left : Int) - (t.y.v.size : Int) = ((left - t.y.v.size : Nat) : Int) := by omega
    have QE := hide1 qe
    clear qe
    go_enter Try.func86, Try.ntmps86
    go_upto_region 1 with fail
    generalize (w.alloc (.cells #[.int .i64 t.y.i, .int .i64 t.y.b, .string t.y.v, .slice t.pa t.y.ps.length t.pc, .bool t.y.as, .slice t.ka t.y.tk.length t.kc, .bool t.y.ch] 125)) = u at F0 ⊢
    have x2 : u.cell? ⟨w.heap.size, 2, none⟩ = some (.string t.y.v) := F0.out.1.cell 2
    have x3 : u.cell? ⟨w.heap.size, 3, none⟩ = some (.slice t.pa t.y.ps.length t.pc) := F0.out.1.cell 3
    go_wp2_with fail
    rw [QE.out]
    refine (C1.out u (left - t.y.v.size) F0.out.2 (by omega)).mono ?_
    rintro e w1 ⟨hr, hb1⟩
    have B1 := hide1 (F0.out.2.trans (hb1.mono F0.out.2.size))
    have x5 : w1.cell? ⟨w.heap.size, 5, none⟩ = some (.slice t.ka t.y.tk.length t.kc) := (F0.out.1.below hb1 F0.out.1.lt).cell 5
    clear hb1 F0 C1 x2 x3
    rcases hr with rfl | ⟨r, rfl, hr, hs, _⟩
    · go_wp2
      go_ret
      exact ⟨.inl rfl, B1.out⟩
    · have q2 : decide ((r : Int) < 0) = false := by simp
      go_wp2_with fail
      refine (C2.out w1 r (by omega)).mono ?_
      rintro e w2 ⟨hq, rfl⟩
      rcases hq with ⟨rfl, _⟩ | ⟨r2, rfl, hr2⟩
      · go_wp2
        go_ret
        exact ⟨.inl rfl, B1.out⟩
      · have q3 : decide ((r2 : Int) < 0) = false := by simp
        have hf : r2 ≤ left ∧ t.y.tk.length ≤ 1048576 := by omega
        clear hr2
        go_wp2
        go_ret
        exact ⟨.inr ⟨r2, rfl, hf.1, hs, hf.2⟩, B1.out⟩
  · have q1 : decide ((left : Int) - (t.y.v.size : Int) < 0) = true := by simp; omega
    go_enter Try.func86, Try.ntmps86
    go_wp2
    go_ret
    exact ⟨.inl rfl, F0.out.2⟩
end Go.Proofs.Ytmejdblobikclaa
