/- The program's councils: a question is brought to a voice. -/
import Derived.Test.YtgehdgmllilmgaaYG
import Derived.Test.YtgehdgmllilmgaaBaL
namespace Go.Proofs.Ytgehdgmllilmgaa
open Go.RowKit
set_option linter.unusedVariables false

theorem newAt {W : World} {n : Nat} {t : TypeId} {cs : Array Value} (h : W.heap.size = n) : Blk (W.alloc (.cells cs t)) n t cs.toList := h ▸ Blk.new W t cs
theorem zb2 {u w7 : World} {c d : Array Value} {t s : TypeId} (hb : Below ((u.alloc (.cells c t)).alloc (.cells d s)).heap.size ((u.alloc (.cells c t)).alloc (.cells d s)) w7) : Blk w7 u.heap.size t c.toList ∧ Blk w7 (u.heap.size + 1) s d.toList := by
  have h := blkN2 u c d t s
  exact ⟨h.1.below hb h.1.lt, h.2.1.below hb h.2.1.lt⟩
theorem zb2D {u w7 : World} {c d : Array Value} {t s : TypeId} (hb : Below ((u.alloc (.cells c t)).alloc (.cells d s)).drew.heap.size ((u.alloc (.cells c t)).alloc (.cells d s)).drew w7) : Blk w7 u.heap.size t c.toList ∧ Blk w7 (u.heap.size + 1) s d.toList := by
  have h := blkN2 u c d t s
  exact ⟨Blk.below (w := ((u.alloc (.cells c t)).alloc (.cells d s)).drew) h.1 hb h.1.lt, Blk.below (w := ((u.alloc (.cells c t)).alloc (.cells d s)).drew) h.2.1 hb h.2.1.lt⟩

set_option maxRecDepth 100000 in
set_option maxHeartbeats 8000000 in
theorem regAskV {c : Go.Code} {Q : Exit → Act → World → Prop} {u : World} {B X g o j s ca : Nat} {p t k f b q x0 x1 n0 n1 n2 n3 n4 : Int} {v z x2 n5 : ByteArray} {r : Bool} {y1 y2 y4 y5 y6 y7 y8 y9 ya yb yc yd ye yf yg yh yi yj yk yl ym yn yo yp yq yr ys yt yu yv yw yx yy yz yA yB yC yD yE yF yG yH : Value} (hc : pickR 1 (Try.f95.body.getD .skip) = some c)
    (lB : B < u.heap.size) (lX : X < u.heap.size) (lg : g < u.heap.size) (h0 : u.cell? ⟨B, 0, none⟩ = some (.slice (some ⟨g, o, none⟩) s ca)) (h1 : u.cell? ⟨X, 0, none⟩ = some (.int .i64 k)) (h2 : u.cell? ⟨X, 1, none⟩ = some (.int .i64 f)) (h3 : u.cell? ⟨X, 2, none⟩ = some (.int .i64 ((j : Int) + 1))) (h4 : u.cell? ⟨X, 3, none⟩ = some (.int .i64 b)) (h5 : u.cell? ⟨X, 4, none⟩ = some (.int .i64 q)) (h6 : u.cell? ⟨X, 5, none⟩ = some (.string z)) (h7 : u.cell? ⟨g, o + j * 3, none⟩ = some (.int .i64 p)) (h8 : u.cell? ⟨g, o + j * 3 + 1, none⟩ = some (.int .i64 t)) (h9 : u.cell? ⟨g, o + j * 3 + 2, none⟩ = some (.string v)) (k1 : (j : Int) < (s : Int)) (k0 : (0 : Int) ≤ (j : Int)) (qw : IntKind.i64.wrap ((j : Int) + 1 - 1) = (j : Int)) (qw2 : IntKind.i64.wrap (j : Int) = (j : Int))
    (C0 : ∀ w', Calls Try.prog 105 #[.agg #[.int .i64 p, .int .i64 t, .string v], .agg #[.int .i64 k, .int .i64 f, .int .i64 ((j : Int) + 1), .int .i64 b, .int .i64 q, .string z]] w' fun e w'' => e = .returned (.tuple #[.agg #[.int .i64 x0, .int .i64 x1, .string x2], .agg #[.int .i64 n0, .int .i64 n1, .int .i64 n2, .int .i64 n3, .int .i64 n4, .string n5], .bool r]) ∧ Below w'.heap.size w' w'')
    (hQ : ∀ bv bn w', u.heap.size ≤ bv → u.heap.size ≤ bn → bv ≠ bn → Blk w' bv 43 [.int .i64 x0, .int .i64 x1, .string x2] → Blk w' bn 111 [.int .i64 n0, .int .i64 n1, .int .i64 n2, .int .i64 n3, .int .i64 n4, .string n5] → Below u.heap.size u w' → Q .normal { tmps := #[.pointer (some ⟨B, 0, none⟩), y1, y2, .pointer (some ⟨X, 0, none⟩), y4, .pointer (some ⟨bv, 0, none⟩), .pointer (some ⟨bn, 0, none⟩), .bool r, .tuple #[.agg #[.int .i64 x0, .int .i64 x1, .string x2], .agg #[.int .i64 n0, .int .i64 n1, .int .i64 n2, .int .i64 n3, .int .i64 n4, .string n5], .bool r], .pointer (some ⟨B, 0, none⟩), .pointer (some ⟨B, 0, none⟩), .pointer (some ⟨B, 0, none⟩), .slice (some ⟨g, o, none⟩) s ca, .pointer (some ⟨X, 2, none⟩), .int .i64 ((j : Int) + 1), .int .i64 (j : Int), .pointer (some ⟨g, o + j * 3, none⟩), .agg #[.int .i64 p, .int .i64 t, .string v], .agg #[.int .i64 k, .int .i64 f, .int .i64 ((j : Int) + 1), .int .i64 b, .int .i64 q, .string z], .tuple #[.agg #[.int .i64 x0, .int .i64 x1, .string x2], .agg #[.int .i64 n0, .int .i64 n1, .int .i64 n2, .int .i64 n3, .int .i64 n4, .string n5], .bool r], .agg #[.int .i64 x0, .int .i64 x1, .string x2], .agg #[.int .i64 n0, .int .i64 n1, .int .i64 n2, .int .i64 n3, .int .i64 n4, .string n5], .bool r, yn, yo, yp, yq, yr, ys, yt, yu, yv, yw, yx, yy, yz, yA, yB, yC, yD, yE, yF, yG, yH], defers := [] } w') :
    Go.Code.wp Try.prog c Q { tmps := #[.pointer (some ⟨B, 0, none⟩), y1, y2, .pointer (some ⟨X, 0, none⟩), y4, y5, y6, y7, y8, y9, ya, yb, yc, yd, ye, yf, yg, yh, yi, yj, yk, yl, ym, yn, yo, yp, yq, yr, ys, yt, yu, yv, yw, yx, yy, yz, yA, yB, yC, yD, yE, yF, yG, yH], defers := [] } u := by
  have ec : some c = some _ := hc.symm.trans (show pickR 1 (Try.f95.body.getD .skip) = some _ from rfl)
  injection ec with ec
  subst ec
  have HQ := hide1 hQ
  clear hQ hc
  have D0 := hide1 C0
  clear C0
  have H0 := hide1 h0
  have H1 := hide1 h1
  have H2 := hide1 h2
  have H3 := hide1 h3
  have H4 := hide1 h4
  have H5 := hide1 h5
  have H6 := hide1 h6
  have H7 := hide1 h7
  have H8 := hide1 h8
  have H9 := hide1 h9
  go_region_held3 (fun w' => w'.cell? ⟨B, 0, none⟩ = some (.slice (some ⟨g, o, none⟩) s ca) ∧ w'.cell? ⟨X, 0, none⟩ = some (.int .i64 k) ∧ w'.cell? ⟨X, 1, none⟩ = some (.int .i64 f) ∧ w'.cell? ⟨X, 2, none⟩ = some (.int .i64 ((j : Int) + 1)) ∧ w'.cell? ⟨X, 3, none⟩ = some (.int .i64 b) ∧ w'.cell? ⟨X, 4, none⟩ = some (.int .i64 q) ∧ w'.cell? ⟨X, 5, none⟩ = some (.string z) ∧ w'.cell? ⟨g, o + j * 3, none⟩ = some (.int .i64 p) ∧ w'.cell? ⟨g, o + j * 3 + 1, none⟩ = some (.int .i64 t) ∧ w'.cell? ⟨g, o + j * 3 + 2, none⟩ = some (.string v)) (first | go_keep | exact ⟨((E0.out.trans (show Below u.heap.size wa _ by go_grown)).cell lB).trans H0.out, ((E0.out.trans (show Below u.heap.size wa _ by go_grown)).cell lX).trans H1.out, ((E0.out.trans (show Below u.heap.size wa _ by go_grown)).cell lX).trans H2.out, ((E0.out.trans (show Below u.heap.size wa _ by go_grown)).cell lX).trans H3.out, ((E0.out.trans (show Below u.heap.size wa _ by go_grown)).cell lX).trans H4.out, ((E0.out.trans (show Below u.heap.size wa _ by go_grown)).cell lX).trans H5.out, ((E0.out.trans (show Below u.heap.size wa _ by go_grown)).cell lX).trans H6.out, ((E0.out.trans (show Below u.heap.size wa _ by go_grown)).cell lg).trans H7.out, ((E0.out.trans (show Below u.heap.size wa _ by go_grown)).cell lg).trans H8.out, ((E0.out.trans (show Below u.heap.size wa _ by go_grown)).cell lg).trans H9.out⟩ | exact ⟨(((show Below u.heap.size u _ by go_grown)).cell lB).trans H0.out, (((show Below u.heap.size u _ by go_grown)).cell lX).trans H1.out, (((show Below u.heap.size u _ by go_grown)).cell lX).trans H2.out, (((show Below u.heap.size u _ by go_grown)).cell lX).trans H3.out, (((show Below u.heap.size u _ by go_grown)).cell lX).trans H4.out, (((show Below u.heap.size u _ by go_grown)).cell lX).trans H5.out, (((show Below u.heap.size u _ by go_grown)).cell lX).trans H6.out, (((show Below u.heap.size u _ by go_grown)).cell lg).trans H7.out, (((show Below u.heap.size u _ by go_grown)).cell lg).trans H8.out, (((show Below u.heap.size u _ by go_grown)).cell lg).trans H9.out⟩) ((first | (go_at_call 105; refine (D0.out _).mono ?_; rintro e wa ⟨rfl, hb⟩; have G0 : Hid (Below u.heap.size u wa) := (show Below u.heap.size u _ by go_grown).trans (hb.mono (by go_size)); have E0 : Hid (Below u.heap.size u wa) := G0; (first | (have ZP : Hid (Blk wa u.heap.size 43 [.int .i64 0, .int .i64 0, .string ⟨#[]⟩] ∧ Blk wa (u.heap.size + 1) 111 [.int .i64 0, .int .i64 0, .int .i64 0, .int .i64 0, .int .i64 0, .string ⟨#[]⟩]) := (by first | exact zb2D hb | exact zb2 hb); have ZV := hide1 ZP.out.1; have ZN := hide1 ZP.out.2; clear ZP) | (have ZP : Hid (Blk wa u.heap.size 111 [.int .i64 0, .int .i64 0, .int .i64 0, .int .i64 0, .int .i64 0, .string ⟨#[]⟩] ∧ Blk wa (u.heap.size + 1) 43 [.int .i64 0, .int .i64 0, .string ⟨#[]⟩]) := (by first | exact zb2D hb | exact zb2 hb); have ZN := hide1 ZP.out.1; have ZV := hide1 ZP.out.2; clear ZP) | (have ZV : Hid (Blk wa u.heap.size 43 [.int .i64 0, .int .i64 0, .string ⟨#[]⟩]) := (by first | exact zbGD hb | exact zbG hb | exact zbGE hb)) | (have ZN : Hid (Blk wa u.heap.size 111 [.int .i64 0, .int .i64 0, .int .i64 0, .int .i64 0, .int .i64 0, .string ⟨#[]⟩]) := (by first | exact zbGD hb | exact zbG hb | exact zbGE hb)) | skip); (try (have lv0 := ZV.out.lt)); (try (have ln0 := ZN.out.lt)); have s0 := E0.out.size; have t0 := G0.out.size; clear hb h0 h1 h2 h3 h4 h5 h6 h7 h8 h9; have h0 : wa.cell? ⟨B, 0, none⟩ = some (.slice (some ⟨g, o, none⟩) s ca) := (E0.out.cell lB).trans H0.out; have h1 : wa.cell? ⟨X, 0, none⟩ = some (.int .i64 k) := (E0.out.cell lX).trans H1.out; have h2 : wa.cell? ⟨X, 1, none⟩ = some (.int .i64 f) := (E0.out.cell lX).trans H2.out; have h3 : wa.cell? ⟨X, 2, none⟩ = some (.int .i64 ((j : Int) + 1)) := (E0.out.cell lX).trans H3.out; have h4 : wa.cell? ⟨X, 3, none⟩ = some (.int .i64 b) := (E0.out.cell lX).trans H4.out; have h5 : wa.cell? ⟨X, 4, none⟩ = some (.int .i64 q) := (E0.out.cell lX).trans H5.out; have h6 : wa.cell? ⟨X, 5, none⟩ = some (.string z) := (E0.out.cell lX).trans H6.out; have h7 : wa.cell? ⟨g, o + j * 3, none⟩ = some (.int .i64 p) := (E0.out.cell lg).trans H7.out; have h8 : wa.cell? ⟨g, o + j * 3 + 1, none⟩ = some (.int .i64 t) := (E0.out.cell lg).trans H8.out; have h9 : wa.cell? ⟨g, o + j * 3 + 2, none⟩ = some (.string v) := (E0.out.cell lg).trans H9.out; (try (have v0 : wa.cell? ⟨_, 0, none⟩ = some (.int .i64 0) := ZV.out.cell 0; have v1 : wa.cell? ⟨_, 1, none⟩ = some (.int .i64 0) := ZV.out.cell 1; have v2 : wa.cell? ⟨_, 2, none⟩ = some (.string ⟨#[]⟩) := ZV.out.cell 2; have vf : ∀ j, wa.frozen? ⟨_, j, none⟩ = false := fun j => ZV.out.froz j)); (try (have e0 : wa.cell? ⟨_, 0, none⟩ = some (.int .i64 0) := ZN.out.cell 0; have e1 : wa.cell? ⟨_, 1, none⟩ = some (.int .i64 0) := ZN.out.cell 1; have e2 : wa.cell? ⟨_, 2, none⟩ = some (.int .i64 0) := ZN.out.cell 2; have e3 : wa.cell? ⟨_, 3, none⟩ = some (.int .i64 0) := ZN.out.cell 3; have e4 : wa.cell? ⟨_, 4, none⟩ = some (.int .i64 0) := ZN.out.cell 4; have e5 : wa.cell? ⟨_, 5, none⟩ = some (.string ⟨#[]⟩) := ZN.out.cell 5; have ef : ∀ j, wa.frozen? ⟨_, j, none⟩ = false := fun j => ZN.out.froz j)))))
  all_goals
    have sz := E0.out.size
    first
      | (have zv := ZV.out; have zn := ZN.out; have l1 := zv.lt; have l2 := zn.lt; exact HQ.out _ _ _ (by omega) (by omega) (by omega) (Blk.far (Blk.far (Blk.far (Blk.far (Blk.far (Blk.far (Blk.set (Blk.set (Blk.set zv 0 _) 1 _) 2 _) _ _ (by dsimp only; omega)) _ _ (by dsimp only; omega)) _ _ (by dsimp only; omega)) _ _ (by dsimp only; omega)) _ _ (by dsimp only; omega)) _ _ (by dsimp only; omega)) (Blk.set (Blk.set (Blk.set (Blk.set (Blk.set (Blk.set (Blk.far (Blk.far (Blk.far zn _ _ (by dsimp only; omega)) _ _ (by dsimp only; omega)) _ _ (by dsimp only; omega)) 0 _) 1 _) 2 _) 3 _) 4 _) 5 _) (E0.out.trans (show Below u.heap.size wa _ by go_grown)))
      | (have zv := ZV.out; have l1 := zv.lt; exact HQ.out _ _ _ (by omega) (by omega) (by omega) (Blk.more (Blk.set (Blk.set (Blk.set zv 0 _) 1 _) 2 _) _) (newAt (by simp only [World.size_setCell])) (E0.out.trans (show Below u.heap.size wa _ by go_grown)))
      | (have zn := ZN.out; have l1 := zn.lt; exact HQ.out _ _ _ (by omega) (by omega) (by omega) (newAt (by simp only [World.size_setCell])) (Blk.more (Blk.set (Blk.set (Blk.set (Blk.set (Blk.set (Blk.set zn 0 _) 1 _) 2 _) 3 _) 4 _) 5 _) _) (E0.out.trans (show Below u.heap.size wa _ by go_grown)))
      | exact HQ.out _ _ _ (by omega) (by omega) (by omega) (blkN2 wa _ _ _ _).1 (blkN2 wa _ _ _ _).2.1 (E0.out.trans (show Below u.heap.size wa _ by go_grown))
      | exact HQ.out _ _ _ (by omega) (by omega) (by omega) (blkN2 wa _ _ _ _).2.1 (blkN2 wa _ _ _ _).1 (E0.out.trans (show Below u.heap.size wa _ by go_grown))

theorem voAt_nat (c : Cn) {j : Nat} (hj : j < c.vs.length) : voAt c ((j : Int) + 1) = c.vs[j] := by
  unfold voAt
  rw [show ((j : Int) + 1).toNat - 1 = j by omega, List.getD_eq_getElem?_getD, List.getElem?_eq_getElem hj]
  rfl
theorem setVo_nat (c : Cn) (j : Nat) (t : Vo) : setVo c ((j : Int) + 1) t = { c with vs := c.vs.set j t } := by
  unfold setVo
  rw [show ((j : Int) + 1).toNat - 1 = j by omega]

end Go.Proofs.Ytgehdgmllilmgaa
namespace Go.Proofs.Ytgehdgmllilmgaa
open Go.RowKit
set_option linter.unusedVariables false

theorem put3 (w : World) (g o : Nat) (a0 a1 a2 : Value) : (((w.setCell ⟨g, o, none⟩ a0).setCell ⟨g, o + 1, none⟩ a1).setCell ⟨g, o + 2, none⟩ a2) = putG w g o [a0, a1, a2] := by simp only [putG, Nat.add_assoc, Nat.reduceAdd]
theorem putG_grownJ : ∀ (vs : List Value) (w : World) (g m : Nat), w.grownBy (putG w g m vs) (some g)
  | [], w, g, m => World.grownBy.refl _ _
  | v :: vs, w, g, m => (gset (World.grownBy.refl w (some g)) m v).trans (putG_grownJ vs _ g (m + 1))
set_option maxRecDepth 100000 in
set_option maxHeartbeats 4000000 in
theorem implAskV_any (c : Cn) (m : Nt) (A : CA) (B base : Nat) (w : World) (h : VaO base w B A c) (ha1 : 1 ≤ m.o) (ha2 : m.o ≤ c.vs.length) (nv : c.vs.length ≤ 1000) (nn : c.ns.length ≤ 100000) (hz : ∀ x ∈ c.vs, x.v.size ≤ 1048576) (hmz : m.v.size ≤ 1048576) :
    Calls Try.prog 95 #[.pointer (some ⟨B, 0, none⟩), .agg #[.int .i64 m.k, .int .i64 m.f, .int .i64 m.o, .int .i64 m.b, .int .i64 m.t, .string m.v]] w fun e w' => e = .returned (.int .i64 (hearC c m).2) ∧ (∃ A', VaO base w' B A' (hearC c m).1 ∧ FrB A B w A' w') := by
  obtain ⟨j, hj⟩ : ∃ j : Nat, m.o = (j : Int) + 1 := ⟨m.o.toNat - 1, by omega⟩
  have hjl : j < c.vs.length := by omega
  have HQ := hide1 (show hearC c m = if (hearA c.vs[j] m).2.2 = true then ({ c with vs := c.vs.set j (hearA c.vs[j] m).1, ns := c.ns ++ [(hearA c.vs[j] m).2.1] }, 0) else (c, 1) by
    unfold hearC
    rw [hj, voAt_nat c hjl, setVo_nat])
  rw [HQ.out]
  have CS := hide1 (fun w' => implHear_any c.vs[j] m w' (hz _ (List.getElem_mem hjl)) hmz)
  obtain ⟨g, hva⟩ : ∃ g, A.va = some ⟨g, 0, none⟩ := by
    rcases h.o.v.2 with ⟨hv, h0⟩ | ⟨g, cap, cur, hv, _⟩
    · omega
    · injection hv with e1; exact ⟨g, e1⟩
  have hgc : ∀ q, q < 3 → w.cell? ⟨g, 0 + j * 3 + q, none⟩ = (voC c.vs[j])[q]? := fun q hq => by
    obtain ⟨b, o, ha, hb, hc⟩ := rdG_of_own encV.len h.o.v rfl j hjl
    rw [hva] at ha
    injection ha with ha
    injection ha with e1 e2
    subst e1 e2
    exact hc q hq
  have hgl : g < w.heap.size := (h.o.lt 0 _ hva)
  have hgB : g ≠ B := fun e => h.nb (e ▸ ⟨0, _, hva, rfl⟩)
  have HG := hide1 hgc
  have HVA := hide1 hva
  have HJ := hide1 hj
  have HV := hide1 h
  have lBw : B < w.heap.size := h.b.lt
  have F0 := hide1 (And.intro (Blk.new w 111 #[.int .i64 m.k, .int .i64 m.f, .int .i64 m.o, .int .i64 m.b, .int .i64 m.t, .string m.v]) ((Below.refl w.heap.size w).alloc (Nat.le_refl _) (.cells #[.int .i64 m.k, .int .i64 m.f, .int .i64 m.o, .int .i64 m.b, .int .i64 m.t, .string m.v] 111)))
  clear h hgc hva hj hz ha1 ha2 HQ
  generalize c.vs[j] = x at *
  unfold HearE voV ntV at CS
  generalize hearA x m = a3 at *
  obtain ⟨y, n, r⟩ := a3
  dsimp only at CS ⊢
  go_enter Try.func95, Try.ntmps95
  go_upto_region 1 with fail
  generalize (w.alloc (.cells #[.int .i64 m.k, .int .i64 m.f, .int .i64 m.o, .int .i64 m.b, .int .i64 m.t, .string m.v] 111)) = u at F0 ⊢
  obtain ⟨X, hX⟩ : ∃ X, X = w.heap.size := ⟨_, rfl⟩
  have VU := hide1 (HV.out.kept F0.out.2)
  have FX := hide1 F0.out.1
  have BU := hide1 F0.out.2
  rw [← hX] at FX ⊢
  have HX := hide1 hX
  have lB : B < u.heap.size := VU.out.b.lt
  have lX : X < u.heap.size := FX.out.lt
  have lgu : g < u.heap.size := Nat.lt_of_lt_of_le hgl BU.out.size
  have hne : B ≠ X := by omega
  have hgX : g ≠ X := by omega
  rw [HJ.out] at CS
  have h0 : u.cell? ⟨X, 0, none⟩ = some (.int .i64 m.k) := FX.out.cell 0
  have h1 : u.cell? ⟨X, 1, none⟩ = some (.int .i64 m.f) := FX.out.cell 1
  have h2 : u.cell? ⟨X, 2, none⟩ = some (.int .i64 m.o) := FX.out.cell 2
  have h3 : u.cell? ⟨X, 3, none⟩ = some (.int .i64 m.b) := FX.out.cell 3
  have h4 : u.cell? ⟨X, 4, none⟩ = some (.int .i64 m.t) := FX.out.cell 4
  have h5 : u.cell? ⟨X, 5, none⟩ = some (.string m.v) := FX.out.cell 5
  rw [HJ.out] at h2
  have b0 : u.cell? ⟨B, 0, none⟩ = some (.slice A.va c.vs.length A.vc) := VU.out.b.cell 0
  rw [HVA.out] at b0
  have v0 : u.cell? ⟨g, 0 + j * 3, none⟩ = some (.int .i64 x.p) := (BU.out.cell hgl).trans (HG.out 0 (by omega))
  have v1 : u.cell? ⟨g, 0 + j * 3 + 1, none⟩ = some (.int .i64 x.t) := (BU.out.cell hgl).trans (HG.out 1 (by omega))
  have v2 : u.cell? ⟨g, 0 + j * 3 + 2, none⟩ = some (.string x.v) := (BU.out.cell hgl).trans (HG.out 2 (by omega))
  have qj : ((j : Int) + 1) - 1 = (j : Int) := by omega
  have qw : IntKind.i64.wrap ((j : Int) + 1 - 1) = (j : Int) := by rw [qj]; exact IntWalk.i64_in _ ⟨by omega, by omega⟩
  have qw2 : IntKind.i64.wrap (j : Int) = (j : Int) := IntWalk.i64_in _ ⟨by omega, by omega⟩
  have k1 : (j : Int) < (c.vs.length : Int) := by omega
  have k0 : (0 : Int) ≤ (j : Int) := by omega
  clear qj hX F0 HV
  go_cut [5, 6, 7] (fun bv nv rv wx => ∃ b1 b2 : Nat, bv = .pointer (some ⟨b1, 0, none⟩) ∧ nv = .pointer (some ⟨b2, 0, none⟩) ∧ rv = .bool r ∧ Hid (u.heap.size ≤ b1 ∧ u.heap.size ≤ b2) ∧ Hid (Blk wx b1 43 [.int .i64 y.p, .int .i64 y.t, .string y.v]) ∧ Hid (Blk wx b2 111 [.int .i64 n.k, .int .i64 n.f, .int .i64 n.o, .int .i64 n.b, .int .i64 n.t, .string n.v]) ∧ Hid (Below u.heap.size u wx))
  case first =>
    refine regAskV rfl lB lX lgu b0 h0 h1 h2 h3 h4 h5 v0 v1 v2 k1 k0 qw qw2 CS.out ?_
    intro b1 b2 w' g1 g2 g3 g4 g5 g6
    go_wp2_with fail
    go_meet
    exact ⟨b1, b2, rfl, rfl, rfl, hide1 ⟨g1, g2⟩, hide1 g4, hide1 g5, hide1 g6⟩
  case rest =>
    obtain ⟨b1, b2, rfl, rfl, rfl, hle, P1, P2, G1⟩ := hcut
    have V3 := hide1 (VU.out.kept G1.out)
    have FX3 := hide1 (FX.out.below G1.out lX)
    have R3 := hide1 ((FrB.refl A B w).below (BU.out.trans (G1.out.mono BU.out.size)))
    clear h0 h1 h2 h3 h4 h5 v0 v1 v2 b0 CS
    generalize wc = w3 at *
    cases r
    · go_wp2
      go_ret
      exact ⟨rfl, A, V3.out, R3.out⟩
    · have b0 : w3.cell? ⟨B, 0, none⟩ = some (.slice A.va c.vs.length A.vc) := V3.out.b.cell 0
      rw [HVA.out] at b0
      have x2 : w3.cell? ⟨X, 2, none⟩ = some (.int .i64 ((j : Int) + 1)) := by rw [← HJ.out]; exact FX3.out.cell 2
      have y0 : w3.cell? ⟨b1, 0, none⟩ = some (.int .i64 y.p) := P1.out.cell 0
      have y1 : w3.cell? ⟨b1, 1, none⟩ = some (.int .i64 y.t) := P1.out.cell 1
      have y2 : w3.cell? ⟨b1, 2, none⟩ = some (.string y.v) := P1.out.cell 2
      have OV := hide1 (show w3.ownsRow base 43 3 (.slice (some ⟨g, 0, none⟩) c.vs.length A.vc) c.vs.length (rowG voC c.vs) by have := V3.out.o.v; rw [HVA.out] at this; exact this)
      obtain ⟨u0, z0⟩ := own_some OV.out (j * 3) (by omega)
      obtain ⟨u1, z1⟩ := own_some OV.out (j * 3 + 1) (by omega)
      obtain ⟨u2, z2⟩ := own_some OV.out (j * 3 + 2) (by omega)
      have f0 := OV.out.frozenAt (j * 3)
      have f1 := OV.out.frozenAt (j * 3 + 1)
      have f2 := OV.out.frozenAt (j * 3 + 2)
      have hb1g : b1 ≠ g := by have := hle.out.1; omega
      have hb2g : b2 ≠ g := by have := hle.out.2; omega
      have hb2B : b2 ≠ B := by have := hle.out.2; omega
      have kB : ∀ (v : World) (i q : Nat) (z : Value), (v.setCell ⟨g, i, none⟩ z).cell? ⟨B, q, none⟩ = v.cell? ⟨B, q, none⟩ := fun v i q z => World.cell?_setCell_far _ _ _ _ (by dsimp only; omega)
      have kX : ∀ (v : World) (i q : Nat) (z : Value), (v.setCell ⟨g, i, none⟩ z).cell? ⟨X, q, none⟩ = v.cell? ⟨X, q, none⟩ := fun v i q z => World.cell?_setCell_far _ _ _ _ (by dsimp only; omega)
      have kb : ∀ (v : World) (i q : Nat) (z : Value), (v.setCell ⟨g, i, none⟩ z).cell? ⟨b1, q, none⟩ = v.cell? ⟨b1, q, none⟩ := fun v i q z => World.cell?_setCell_far _ _ _ _ (by dsimp only; omega)
      go_upto_region 4 with fail
      go_region_held3 (fun w' => w'.cell? ⟨B, 0, none⟩ = some (.slice (some ⟨g, 0, none⟩) c.vs.length A.vc) ∧ w'.cell? ⟨X, 2, none⟩ = some (.int .i64 ((j : Int) + 1)) ∧ w'.cell? ⟨b1, 0, none⟩ = some (.int .i64 y.p) ∧ w'.cell? ⟨b1, 1, none⟩ = some (.int .i64 y.t) ∧ w'.cell? ⟨b1, 2, none⟩ = some (.string y.v)) (first | go_keep | simp only [World.cell?_drew, kB, kX, kb, b0, x2, y0, y1, y2, and_self]) (fail)
      clear kB kX kb b0 x2 y0 y1 y2 z0 z1 z2 f0 f1 f2
      rw [put3]
      have hlen : (c.vs.set j y).length = c.vs.length := List.length_set
      have hgo : (Value.slice A.va c.vs.length A.vc).ownBlock = some g := by rw [HVA.out]; rfl
      have hg9 : w3.grownBy (putG w3 g (j * 3) (voC y)).drew (some g) := (putG_grownJ (voC y) w3 g (j * 3)).trans (gnew (Below.refl _ _).drew)
      have ho9 : (putG w3 g (j * 3) (voC y)).drew.ownsRow base 43 3 (.slice A.va (c.vs.set j y).length A.vc) (c.vs.set j y).length (rowG voC (c.vs.set j y)) := by
        rw [hlen, HVA.out, rowG_set voC 3 encV.len _ _ _ hjl]
        exact (own_putG (voC y) (j * 3) OV.out).drew
      have P9 := hide1 (V3.out.putV hlen (by rw [hgo]; exact hg9) ho9)
      have N9 := hide1 (gblk hg9 P2.out (by intro e; injection e with e; exact hb2g e.symm))
      clear hlen hgo ho9 hg9 OV
      change Exit.then _ _ Exit.normal _ (putG w3 g (j * 3) (voC y)).drew
      generalize (putG w3 g (j * 3) (voC y)).drew = w9 at P9 N9 ⊢
      have HV9 := hide1 P9.out.1
      have F9 := hide1 (R3.out.trans P9.out.2)
      clear P9 P1 P2 V3 R3 G1
      have y0 : w9.cell? ⟨b2, 0, none⟩ = some (.int .i64 n.k) := N9.out.cell 0
      have y1 : w9.cell? ⟨b2, 1, none⟩ = some (.int .i64 n.f) := N9.out.cell 1
      have y2 : w9.cell? ⟨b2, 2, none⟩ = some (.int .i64 n.o) := N9.out.cell 2
      have y3 : w9.cell? ⟨b2, 3, none⟩ = some (.int .i64 n.b) := N9.out.cell 3
      have y4 : w9.cell? ⟨b2, 4, none⟩ = some (.int .i64 n.t) := N9.out.cell 4
      have y5 : w9.cell? ⟨b2, 5, none⟩ = some (.string n.v) := N9.out.cell 5
      have g2 : w9.cell? ⟨B, 2, none⟩ = some (.slice A.na c.ns.length A.nc) := HV9.out.cells.2.2.1
      have zf : w9.frozen? ⟨B, 2, none⟩ = false := HV9.out.b.froz 2
      have lB9 : B < w9.heap.size := HV9.out.b.lt
      have lN9 : b2 < w9.heap.size := N9.out.lt
      go_upto_region 5 with fail
      go_region_law ((refine step_sayN HV9.out (by go_grown) rfl (.tmp 38) (.tmp 40) rfl rfl (some ⟨_, 0, none⟩) 1 1 [n] rfl rfl (by first | exact rd_one encN (Blk.new _ _ _) | exact rd_one encN (blkE1 _ _)) (show c.ns.length + 1 ≤ 1048576 by omega) ?_; intro b5 c5 w5 hs5; have S5 := hide1 hs5; clear hs5 g2 zf y0 y1 y2 y3 y4 y5; have g2 : w5.cell? ⟨B, 2, none⟩ = some (.slice A.na c.ns.length A.nc) := S5.out.b.cell 2; have zf : w5.frozen? ⟨B, 2, none⟩ = false := S5.out.b.froz 2))
      all_goals
        go_wp2
        go_ret
        exact ⟨rfl, _, S5.out.v, F9.out.trans S5.out.f⟩
end Go.Proofs.Ytgehdgmllilmgaa
