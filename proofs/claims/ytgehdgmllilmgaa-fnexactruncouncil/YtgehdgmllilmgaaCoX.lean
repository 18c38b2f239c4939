/- Decisions by the model: a note is carried. -/
import Derived.Test.YtgehdgmllilmgaaCoW
namespace Go.Proofs.Ytgehdgmllilmgaa
open Go.RowKit
set_option linter.unusedVariables false
variable {lo : Nat → Prop}

/-- A region of a text, by its number. -/
def pickX (n : Nat) : Go.Code → Option Go.Code
  | .region m o d => if m = n then some (.region m o d) else none
  | .seq a b => match pickX n a with
    | some c => some c
    | none => pickX n b
  | .cond _ a b => match pickX n a with
    | some c => some c
    | none => pickX n b
  | .block _ a => pickX n a
  | .loop a => pickX n a
  | _ => none
/-- A box that was made ahead of a call stands behind it. -/
theorem zbG {u w7 : World} {cs : Array Value} {t : TypeId} (hb : Below (u.alloc (.cells cs t)).heap.size (u.alloc (.cells cs t)) w7) : Blk w7 u.heap.size t cs.toList :=
  Blk.below (Blk.new u t cs) hb (by rw [World.size_alloc]; omega)
theorem zbGD {u w7 : World} {cs : Array Value} {t : TypeId} (hb : Below (u.alloc (.cells cs t)).drew.heap.size (u.alloc (.cells cs t)).drew w7) : Blk w7 u.heap.size t cs.toList :=
  Blk.below (w := (u.alloc (.cells cs t)).drew) (Blk.new u t cs) hb (show u.heap.size < (u.alloc (.cells cs t)).heap.size by rw [World.size_alloc]; omega)
theorem zbGE {u w7 : World} {cs : Array Value} {t : TypeId} (hb : Below (u.drew.alloc (.cells cs t)).heap.size (u.drew.alloc (.cells cs t)) w7) : Blk w7 u.heap.size t cs.toList :=
  Blk.below (Blk.new u.drew t cs) hb (show u.drew.heap.size < _ by rw [World.size_alloc]; omega)
theorem newAt {W : World} {n : Nat} {t : TypeId} {cs : Array Value} (h : W.heap.size = n) : Blk (W.alloc (.cells cs t)) n t cs.toList := h ▸ Blk.new W t cs
theorem zb2 {u w7 : World} {c d : Array Value} {t s : TypeId} (hb : Below ((u.alloc (.cells c t)).alloc (.cells d s)).heap.size ((u.alloc (.cells c t)).alloc (.cells d s)) w7) : Blk w7 u.heap.size t c.toList ∧ Blk w7 (u.heap.size + 1) s d.toList := by
  have h := blkN2 u c d t s
  exact ⟨h.1.below hb h.1.lt, h.2.1.below hb h.2.1.lt⟩
theorem zb2D {u w7 : World} {c d : Array Value} {t s : TypeId} (hb : Below ((u.alloc (.cells c t)).alloc (.cells d s)).drew.heap.size ((u.alloc (.cells c t)).alloc (.cells d s)).drew w7) : Blk w7 u.heap.size t c.toList ∧ Blk w7 (u.heap.size + 1) s d.toList := by
  have h := blkN2 u c d t s
  exact ⟨Blk.below (w := ((u.alloc (.cells c t)).alloc (.cells d s)).drew) h.1 hb h.1.lt, Blk.below (w := ((u.alloc (.cells c t)).alloc (.cells d s)).drew) h.2.1 hb h.2.1.lt⟩

set_option maxRecDepth 100000 in
set_option maxHeartbeats 8000000 in
theorem regCarry {c : Go.Code} {Q : Exit → Act → World → Prop} {u : World} {B X g o j s ca : Nat} {p t k f b q x0 x1 n0 n1 n2 n3 n4 : Int} {v z x2 n5 : ByteArray} {r : Bool} {y1 y2 y4 y5 y6 y7 y8 y9 ya yb yc yd ye yf yg yh yi yj yk yl ym yn yo yp yq yr ys yt yu yv yw yx yy yz yA yB yC yD yE yF yG yH yI yJ yK yL yM yN yO yP yQ yR yS yT yU : Value} (hc : pickX 6 (Try.f80.body.getD .skip) = some c)
    (lB : B < u.heap.size) (lX : X < u.heap.size) (lg : g < u.heap.size) (h0 : u.cell? ⟨B, 0, none⟩ = some (.slice (some ⟨g, o, none⟩) s ca)) (h1 : u.cell? ⟨X, 0, none⟩ = some (.int .i64 k)) (h2 : u.cell? ⟨X, 1, none⟩ = some (.int .i64 f)) (h3 : u.cell? ⟨X, 2, none⟩ = some (.int .i64 ((j : Int) + 1))) (h4 : u.cell? ⟨X, 3, none⟩ = some (.int .i64 b)) (h5 : u.cell? ⟨X, 4, none⟩ = some (.int .i64 q)) (h6 : u.cell? ⟨X, 5, none⟩ = some (.string z)) (h7 : u.cell? ⟨g, o + j * 3, none⟩ = some (.int .i64 p)) (h8 : u.cell? ⟨g, o + j * 3 + 1, none⟩ = some (.int .i64 t)) (h9 : u.cell? ⟨g, o + j * 3 + 2, none⟩ = some (.string v)) (k1 : (j : Int) < (s : Int)) (k0 : (0 : Int) ≤ (j : Int)) (qw : IntKind.i64.wrap ((j : Int) + 1 - 1) = (j : Int)) (qw2 : IntKind.i64.wrap (j : Int) = (j : Int))
    (C0 : ∀ w', Calls Try.prog 102 #[.agg #[.int .i64 p, .int .i64 t, .string v], .agg #[.int .i64 k, .int .i64 f, .int .i64 ((j : Int) + 1), .int .i64 b, .int .i64 q, .string z]] w' fun e w'' => e = .returned (.tuple #[.agg #[.int .i64 x0, .int .i64 x1, .string x2], .agg #[.int .i64 n0, .int .i64 n1, .int .i64 n2, .int .i64 n3, .int .i64 n4, .string n5], .bool r]) ∧ Below w'.heap.size w' w'')
    (hQ : ∀ bv bn w', u.heap.size ≤ bv → u.heap.size ≤ bn → bv ≠ bn → Blk w' bv 43 [.int .i64 x0, .int .i64 x1, .string x2] → Blk w' bn 111 [.int .i64 n0, .int .i64 n1, .int .i64 n2, .int .i64 n3, .int .i64 n4, .string n5] → Below u.heap.size u w' → Q .normal { tmps := #[.pointer (some ⟨B, 0, none⟩), y1, y2, .pointer (some ⟨X, 0, none⟩), y4, .pointer (some ⟨bv, 0, none⟩), .pointer (some ⟨bn, 0, none⟩), .bool r, y8, y9, ya, yb, yc, yd, ye, yf, yg, yh, yi, yj, yk, .tuple #[.agg #[.int .i64 x0, .int .i64 x1, .string x2], .agg #[.int .i64 n0, .int .i64 n1, .int .i64 n2, .int .i64 n3, .int .i64 n4, .string n5], .bool r], .pointer (some ⟨B, 0, none⟩), .pointer (some ⟨B, 0, none⟩), .pointer (some ⟨B, 0, none⟩), .slice (some ⟨g, o, none⟩) s ca, .pointer (some ⟨X, 2, none⟩), .int .i64 ((j : Int) + 1), .int .i64 (j : Int), .pointer (some ⟨g, o + j * 3, none⟩), .agg #[.int .i64 p, .int .i64 t, .string v], .agg #[.int .i64 k, .int .i64 f, .int .i64 ((j : Int) + 1), .int .i64 b, .int .i64 q, .string z], .tuple #[.agg #[.int .i64 x0, .int .i64 x1, .string x2], .agg #[.int .i64 n0, .int .i64 n1, .int .i64 n2, .int .i64 n3, .int .i64 n4, .string n5], .bool r], .agg #[.int .i64 x0, .int .i64 x1, .string x2], .agg #[.int .i64 n0, .int .i64 n1, .int .i64 n2, .int .i64 n3, .int .i64 n4, .string n5], .bool r, yA, yB, yC, yD, yE, yF, yG, yH, yI, yJ, yK, yL, yM, yN, yO, yP, yQ, yR, yS, yT, yU], defers := [] } w') :
    Go.Code.wp Try.prog c Q { tmps := #[.pointer (some ⟨B, 0, none⟩), y1, y2, .pointer (some ⟨X, 0, none⟩), y4, y5, y6, y7, y8, y9, ya, yb, yc, yd, ye, yf, yg, yh, yi, yj, yk, yl, ym, yn, yo, yp, yq, yr, ys, yt, yu, yv, yw, yx, yy, yz, yA, yB, yC, yD, yE, yF, yG, yH, yI, yJ, yK, yL, yM, yN, yO, yP, yQ, yR, yS, yT, yU], defers := [] } u := by
  have ec : some c = some _ := hc.symm.trans (show pickX 6 (Try.f80.body.getD .skip) = some _ from rfl)
  injection ec with ec
  subst ec
  have HQ := hide1 hQ
  clear hQ hc
  have D0 := hide1 C0
  clear C0
  have H0 := hide1 h0
  have H1 := hide1 h1
  have H2 := hide1 h2
  have H3 := hide1 h3
  have H4 := hide1 h4
  have H5 := hide1 h5
  have H6 := hide1 h6
  have H7 := hide1 h7
  have H8 := hide1 h8
  have H9 := hide1 h9
  go_region_held3 (fun w' => w'.cell? ⟨B, 0, none⟩ = some (.slice (some ⟨g, o, none⟩) s ca) ∧ w'.cell? ⟨X, 0, none⟩ = some (.int .i64 k) ∧ w'.cell? ⟨X, 1, none⟩ = some (.int .i64 f) ∧ w'.cell? ⟨X, 2, none⟩ = some (.int .i64 ((j : Int) + 1)) ∧ w'.cell? ⟨X, 3, none⟩ = some (.int .i64 b) ∧ w'.cell? ⟨X, 4, none⟩ = some (.int .i64 q) ∧ w'.cell? ⟨X, 5, none⟩ = some (.string z) ∧ w'.cell? ⟨g, o + j * 3, none⟩ = some (.int .i64 p) ∧ w'.cell? ⟨g, o + j * 3 + 1, none⟩ = some (.int .i64 t) ∧ w'.cell? ⟨g, o + j * 3 + 2, none⟩ = some (.string v)) (first | go_keep | exact ⟨((E0.out.trans (show Below u.heap.size wa _ by go_grown)).cell lB).trans H0.out, ((E0.out.trans (show Below u.heap.size wa _ by go_grown)).cell lX).trans H1.out, ((E0.out.trans (show Below u.heap.size wa _ by go_grown)).cell lX).trans H2.out, ((E0.out.trans (show Below u.heap.size wa _ by go_grown)).cell lX).trans H3.out, ((E0.out.trans (show Below u.heap.size wa _ by go_grown)).cell lX).trans H4.out, ((E0.out.trans (show Below u.heap.size wa _ by go_grown)).cell lX).trans H5.out, ((E0.out.trans (show Below u.heap.size wa _ by go_grown)).cell lX).trans H6.out, ((E0.out.trans (show Below u.heap.size wa _ by go_grown)).cell lg).trans H7.out, ((E0.out.trans (show Below u.heap.size wa _ by go_grown)).cell lg).trans H8.out, ((E0.out.trans (show Below u.heap.size wa _ by go_grown)).cell lg).trans H9.out⟩ | exact ⟨(((show Below u.heap.size u _ by go_grown)).cell lB).trans H0.out, (((show Below u.heap.size u _ by go_grown)).cell lX).trans H1.out, (((show Below u.heap.size u _ by go_grown)).cell lX).trans H2.out, (((show Below u.heap.size u _ by go_grown)).cell lX).trans H3.out, (((show Below u.heap.size u _ by go_grown)).cell lX).trans H4.out, (((show Below u.heap.size u _ by go_grown)).cell lX).trans H5.out, (((show Below u.heap.size u _ by go_grown)).cell lX).trans H6.out, (((show Below u.heap.size u _ by go_grown)).cell lg).trans H7.out, (((show Below u.heap.size u _ by go_grown)).cell lg).trans H8.out, (((show Below u.heap.size u _ by go_grown)).cell lg).trans H9.out⟩) ((first | (go_at_call 102; refine (D0.out _).mono ?_; rintro e wa ⟨rfl, hb⟩; have G0 : Hid (Below u.heap.size u wa) := (show Below u.heap.size u _ by go_grown).trans (hb.mono (by go_size)); have E0 : Hid (Below u.heap.size u wa) := G0; (first | (have ZP : Hid (Blk wa u.heap.size 43 [.int .i64 0, .int .i64 0, .string ⟨#[]⟩] ∧ Blk wa (u.heap.size + 1) 111 [.int .i64 0, .int .i64 0, .int .i64 0, .int .i64 0, .int .i64 0, .string ⟨#[]⟩]) := (by first | exact zb2D hb | exact zb2 hb); have ZV := hide1 ZP.out.1; have ZN := hide1 ZP.out.2; clear ZP) | (have ZP : Hid (Blk wa u.heap.size 111 [.int .i64 0, .int .i64 0, .int .i64 0, .int .i64 0, .int .i64 0, .string ⟨#[]⟩] ∧ Blk wa (u.heap.size + 1) 43 [.int .i64 0, .int .i64 0, .string ⟨#[]⟩]) := (by first | exact zb2D hb | exact zb2 hb); have ZN := hide1 ZP.out.1; have ZV := hide1 ZP.out.2; clear ZP) | (have ZV : Hid (Blk wa u.heap.size 43 [.int .i64 0, .int .i64 0, .string ⟨#[]⟩]) := (by first | exact zbGD hb | exact zbG hb | exact zbGE hb)) | (have ZN : Hid (Blk wa u.heap.size 111 [.int .i64 0, .int .i64 0, .int .i64 0, .int .i64 0, .int .i64 0, .string ⟨#[]⟩]) := (by first | exact zbGD hb | exact zbG hb | exact zbGE hb)) | skip); (try (have lv0 := ZV.out.lt)); (try (have ln0 := ZN.out.lt)); have s0 := E0.out.size; have t0 := G0.out.size; clear hb h0 h1 h2 h3 h4 h5 h6 h7 h8 h9; have h0 : wa.cell? ⟨B, 0, none⟩ = some (.slice (some ⟨g, o, none⟩) s ca) := (E0.out.cell lB).trans H0.out; have h1 : wa.cell? ⟨X, 0, none⟩ = some (.int .i64 k) := (E0.out.cell lX).trans H1.out; have h2 : wa.cell? ⟨X, 1, none⟩ = some (.int .i64 f) := (E0.out.cell lX).trans H2.out; have h3 : wa.cell? ⟨X, 2, none⟩ = some (.int .i64 ((j : Int) + 1)) := (E0.out.cell lX).trans H3.out; have h4 : wa.cell? ⟨X, 3, none⟩ = some (.int .i64 b) := (E0.out.cell lX).trans H4.out; have h5 : wa.cell? ⟨X, 4, none⟩ = some (.int .i64 q) := (E0.out.cell lX).trans H5.out; have h6 : wa.cell? ⟨X, 5, none⟩ = some (.string z) := (E0.out.cell lX).trans H6.out; have h7 : wa.cell? ⟨g, o + j * 3, none⟩ = some (.int .i64 p) := (E0.out.cell lg).trans H7.out; have h8 : wa.cell? ⟨g, o + j * 3 + 1, none⟩ = some (.int .i64 t) := (E0.out.cell lg).trans H8.out; have h9 : wa.cell? ⟨g, o + j * 3 + 2, none⟩ = some (.string v) := (E0.out.cell lg).trans H9.out; (try (have v0 : wa.cell? ⟨_, 0, none⟩ = some (.int .i64 0) := ZV.out.cell 0; have v1 : wa.cell? ⟨_, 1, none⟩ = some (.int .i64 0) := ZV.out.cell 1; have v2 : wa.cell? ⟨_, 2, none⟩ = some (.string ⟨#[]⟩) := ZV.out.cell 2; have vf : ∀ j, wa.frozen? ⟨_, j, none⟩ = false := fun j => ZV.out.froz j)); (try (have e0 : wa.cell? ⟨_, 0, none⟩ = some (.int .i64 0) := ZN.out.cell 0; have e1 : wa.cell? ⟨_, 1, none⟩ = some (.int .i64 0) := ZN.out.cell 1; have e2 : wa.cell? ⟨_, 2, none⟩ = some (.int .i64 0) := ZN.out.cell 2; have e3 : wa.cell? ⟨_, 3, none⟩ = some (.int .i64 0) := ZN.out.cell 3; have e4 : wa.cell? ⟨_, 4, none⟩ = some (.int .i64 0) := ZN.out.cell 4; have e5 : wa.cell? ⟨_, 5, none⟩ = some (.string ⟨#[]⟩) := ZN.out.cell 5; have ef : ∀ j, wa.frozen? ⟨_, j, none⟩ = false := fun j => ZN.out.froz j)))))
  all_goals
    have sz := E0.out.size
    first
      | (have zv := ZV.out; have zn := ZN.out; have l1 := zv.lt; have l2 := zn.lt; exact HQ.out _ _ _ (by omega) (by omega) (by omega) (Blk.far (Blk.far (Blk.far (Blk.far (Blk.far (Blk.far (Blk.set (Blk.set (Blk.set zv 0 _) 1 _) 2 _) _ _ (by dsimp only; omega)) _ _ (by dsimp only; omega)) _ _ (by dsimp only; omega)) _ _ (by dsimp only; omega)) _ _ (by dsimp only; omega)) _ _ (by dsimp only; omega)) (Blk.set (Blk.set (Blk.set (Blk.set (Blk.set (Blk.set (Blk.far (Blk.far (Blk.far zn _ _ (by dsimp only; omega)) _ _ (by dsimp only; omega)) _ _ (by dsimp only; omega)) 0 _) 1 _) 2 _) 3 _) 4 _) 5 _) (E0.out.trans (show Below u.heap.size wa _ by go_grown)))
      | (have zv := ZV.out; have l1 := zv.lt; exact HQ.out _ _ _ (by omega) (by omega) (by omega) (Blk.more (Blk.set (Blk.set (Blk.set zv 0 _) 1 _) 2 _) _) (newAt (by simp only [World.size_setCell])) (E0.out.trans (show Below u.heap.size wa _ by go_grown)))
      | (have zn := ZN.out; have l1 := zn.lt; exact HQ.out _ _ _ (by omega) (by omega) (by omega) (newAt (by simp only [World.size_setCell])) (Blk.more (Blk.set (Blk.set (Blk.set (Blk.set (Blk.set (Blk.set zn 0 _) 1 _) 2 _) 3 _) 4 _) 5 _) _) (E0.out.trans (show Below u.heap.size wa _ by go_grown)))
      | exact HQ.out _ _ _ (by omega) (by omega) (by omega) (blkN2 wa _ _ _ _).1 (blkN2 wa _ _ _ _).2.1 (E0.out.trans (show Below u.heap.size wa _ by go_grown))
      | exact HQ.out _ _ _ (by omega) (by omega) (by omega) (blkN2 wa _ _ _ _).2.1 (blkN2 wa _ _ _ _).1 (E0.out.trans (show Below u.heap.size wa _ by go_grown))

theorem voAt_eq {c : Cn} {i : Int} {j : Nat} (hi : i = (j : Int) + 1) (hj : j < c.vs.length) : voAt c i = c.vs[j] := by
  subst hi
  unfold voAt
  rw [show ((j : Int) + 1).toNat - 1 = j by omega, List.getD_eq_getElem?_getD, List.getElem?_eq_getElem hj]
  rfl
theorem setVo_eq {c : Cn} {i : Int} {j : Nat} (hi : i = (j : Int) + 1) (t : Vo) : setVo c i t = { c with vs := c.vs.set j t } := by
  subst hi
  unfold setVo
  rw [show ((j : Int) + 1).toNat - 1 = j by omega]

set_option maxRecDepth 100000 in
set_option maxHeartbeats 8000000 in
theorem specCarr_any (c : Cn) (m : Nt) (B : Nat) (A : CA) (w : World) (h : VaC lo w B A c) (F : Fit12 c) (ha1 : 1 ≤ m.o) (ha2 : m.k = 2 ∨ m.k = 4 → m.o ≤ c.ts.length) (ha3 : m.k ≠ 2 → m.k ≠ 4 → m.o ≤ c.vs.length) (hz : ∀ x ∈ c.vs, x.v.size ≤ 1048576) (hmz : m.v.size ≤ 1048576) :
    Calls Try.prog 80 #[.pointer (some ⟨B, 0, none⟩), .agg #[.int .i64 m.k, .int .i64 m.f, .int .i64 m.o, .int .i64 m.b, .int .i64 m.t, .string m.v]] w fun r w' => r = .returned (.int .i64 (carrC c m).2) ∧ (∃ A', VaC lo w' B A' (carrC c m).1) ∧ w.grownBy w' (some B) := by
  have F0 := hide1 (And.intro (Blk.new w 111 #[.int .i64 m.k, .int .i64 m.f, .int .i64 m.o, .int .i64 m.b, .int .i64 m.t, .string m.v]) ((Below.refl w.heap.size w).alloc (Nat.le_refl _) (.cells #[.int .i64 m.k, .int .i64 m.f, .int .i64 m.o, .int .i64 m.b, .int .i64 m.t, .string m.v] 111)))
  have HV := hide1 h
  have lBw : B < w.heap.size := h.b.lt
  have hv5 := F.v
  have hn5 := F.n
  have HF := hide1 F
  clear h F
  go_enter Try.func80, Try.ntmps80
  go_upto_region 1 with fail
  generalize (w.alloc (.cells #[.int .i64 m.k, .int .i64 m.f, .int .i64 m.o, .int .i64 m.b, .int .i64 m.t, .string m.v] 111)) = u at F0 ⊢
  obtain ⟨X, hX⟩ : ∃ X, X = w.heap.size := ⟨_, rfl⟩
  have VU := hide1 (HV.out.later F0.out.2)
  have FX := hide1 F0.out.1
  have GU := hide1 (show w.grownBy u (some B) from gnew F0.out.2)
  rw [← hX] at FX ⊢
  have HX := hide1 hX
  have lB : B < u.heap.size := VU.out.b.lt
  have lX : X < u.heap.size := FX.out.lt
  have hne : B ≠ X := by omega
  clear hX F0 HV
  have h0 : u.cell? ⟨X, 0, none⟩ = some (.int .i64 m.k) := FX.out.cell 0
  have h1 : u.cell? ⟨X, 1, none⟩ = some (.int .i64 m.f) := FX.out.cell 1
  have h2 : u.cell? ⟨X, 2, none⟩ = some (.int .i64 m.o) := FX.out.cell 2
  have h3 : u.cell? ⟨X, 3, none⟩ = some (.int .i64 m.b) := FX.out.cell 3
  have h4 : u.cell? ⟨X, 4, none⟩ = some (.int .i64 m.t) := FX.out.cell 4
  have h5 : u.cell? ⟨X, 5, none⟩ = some (.string m.v) := FX.out.cell 5
  by_cases c2 : m.k = 2
  · have HQ := hide1 (show carrC c m = promC c m by unfold carrC; rw [if_pos c2])
    have q2 : (m.k == 2) = true := by simp [c2]
    have CC := hide1 (specProm_any c m B A u VU.out HF.out ha1 (ha2 (.inl c2)))
    clear c2
    go_wp2_with fail
    refine CC.out.mono ?_
    rintro r w2 ⟨rfl, ⟨A2, V2⟩, g2⟩
    have HV2 := hide1 V2
    have G2 := hide1 (gtrans GU.out g2)
    clear V2 g2 h0 h1 h2 h3 h4 h5 CC
    go_wp2
    go_ret
    exact ⟨by rw [HQ.out]; rfl, ⟨A2, by rw [HQ.out]; exact HV2.out⟩, G2.out⟩
  · by_cases c4 : m.k = 4
    · have HQ := hide1 (show carrC c m = takC c m by unfold carrC; rw [if_neg c2, if_pos c4])
      have q2 : (m.k == 2) = false := by simp [c2]
      have q4 : (m.k == 4) = true := by simp [c4]
      have CC := hide1 (specTak_any c m B A u VU.out HF.out ha1 (ha2 (.inr c4)))
      clear c2 c4
      go_wp2_with fail
      refine CC.out.mono ?_
      rintro r w2 ⟨rfl, ⟨A2, V2⟩, g2⟩
      have HV2 := hide1 V2
      have G2 := hide1 (gtrans GU.out g2)
      clear V2 g2 h0 h1 h2 h3 h4 h5 CC
      go_wp2
      go_ret
      exact ⟨by rw [HQ.out]; rfl, ⟨A2, by rw [HQ.out]; exact HV2.out⟩, G2.out⟩
    · have hov := ha3 c2 c4
      obtain ⟨j, hj⟩ : ∃ j : Nat, m.o = (j : Int) + 1 := ⟨m.o.toNat - 1, by omega⟩
      have hjl : j < c.vs.length := by omega
      have HQ := hide1 (show carrC c m = if (hearA c.vs[j] m).2.2 = true then ({ c with vs := c.vs.set j (hearA c.vs[j] m).1, ns := c.ns ++ [(hearA c.vs[j] m).2.1] }, 0) else (c, 1) by
        unfold carrC hearC
        rw [if_neg c2, if_neg c4, voAt_eq hj hjl, setVo_eq hj])
      have q2 : (m.k == 2) = false := by simp [c2]
      have q4 : (m.k == 4) = false := by simp [c4]
      have CS := hide1 (fun w' => specHear_any c.vs[j] m w' (hz _ (List.getElem_mem hjl)) hmz)
      obtain ⟨g, og, hga, hgl, hgc⟩ := VU.out.r.v j hjl
      have HG := hide1 hgc
      have HJ := hide1 hj
      clear hj hgc hz hov c2 c4 ha2 ha3
      generalize c.vs[j] = x at *
      unfold HearE voV ntV at CS
      generalize hearA x m = a3 at *
      obtain ⟨y, n, r⟩ := a3
      dsimp only at HQ CS
      rw [HJ.out] at CS h2
      have b0 : u.cell? ⟨B, 0, none⟩ = some (.slice A.va c.vs.length A.vc) := VU.out.b.cell 0
      rw [hga] at b0
      clear hga
      have w0 : u.cell? ⟨g, og + j * 3, none⟩ = some (.int .i64 x.p) := HG.out 0 (by omega)
      have w1 : u.cell? ⟨g, og + j * 3 + 1, none⟩ = some (.int .i64 x.t) := HG.out 1 (by omega)
      have w2 : u.cell? ⟨g, og + j * 3 + 2, none⟩ = some (.string x.v) := HG.out 2 (by omega)
      have qj : ((j : Int) + 1) - 1 = (j : Int) := by omega
      have qw : IntKind.i64.wrap ((j : Int) + 1 - 1) = (j : Int) := by rw [qj]; exact IntWalk.i64_in _ ⟨by omega, by omega⟩
      have qw2 : IntKind.i64.wrap (j : Int) = (j : Int) := IntWalk.i64_in _ ⟨by omega, by omega⟩
      have k1 : (j : Int) < (c.vs.length : Int) := by omega
      have k0 : (0 : Int) ≤ (j : Int) := by omega
      clear qj
      go_upto_region 6 with fail
      go_cut [5, 6, 7] (fun bv nv rv wx => ∃ b1 b2 : Nat, bv = .pointer (some ⟨b1, 0, none⟩) ∧ nv = .pointer (some ⟨b2, 0, none⟩) ∧ rv = .bool r ∧ Hid (u.heap.size ≤ b1 ∧ u.heap.size ≤ b2) ∧ Hid (Blk wx b1 43 [.int .i64 y.p, .int .i64 y.t, .string y.v]) ∧ Hid (Blk wx b2 111 [.int .i64 n.k, .int .i64 n.f, .int .i64 n.o, .int .i64 n.b, .int .i64 n.t, .string n.v]) ∧ Hid (Below u.heap.size u wx))
      case first =>
        refine regCarry rfl lB lX hgl b0 h0 h1 h2 h3 h4 h5 w0 w1 w2 k1 k0 qw qw2 CS.out ?_
        intro b1 b2 w' g1 g2 g3 g4 g5 g6
        go_wp2_with fail
        go_meet
        exact ⟨b1, b2, rfl, rfl, rfl, hide1 ⟨g1, g2⟩, hide1 g4, hide1 g5, hide1 g6⟩
      case rest =>
      obtain ⟨b1, b2, rfl, rfl, rfl, hle, P1, P2, G1⟩ := hcut
      have V3 := hide1 (VU.out.later G1.out)
      have FX3 := hide1 (FX.out.below G1.out lX)
      have G3 := hide1 (gtrans GU.out (gnew G1.out))
      clear h0 h1 h2 h3 h4 h5 w0 w1 w2 b0 CS
      generalize wc = w3 at *
      cases r
      · have HQ2 := hide1 (HQ.out.trans (if_neg (by simp)))
        go_wp2
        go_ret
        exact ⟨by rw [HQ2.out]; rfl, ⟨A, by rw [HQ2.out]; exact V3.out⟩, G3.out⟩
      · have HQ2 := hide1 (HQ.out.trans (if_pos rfl))
        have HR := hide1 V3.out.r.v
        have b0 : w3.cell? ⟨B, 0, none⟩ = some (.slice A.va c.vs.length A.vc) := V3.out.b.cell 0
        have FE := hide1 (And.intro (Blk.new w3 43 #[]) ((Below.refl w3.heap.size w3).alloc (Nat.le_refl _) (.cells #[] 43)))
        have lB3 : B < w3.heap.size := V3.out.b.lt
        have lX3 : X < w3.heap.size := FX3.out.lt
        have l13 : b1 < w3.heap.size := P1.out.lt
        have l23 : b2 < w3.heap.size := P2.out.lt
        clear HQ
        go_upto_region 10 with (at_builtin; (refine wpList_copyG encV rowV rfl (.tmp 38) (.tmp 42) rfl w3.heap.size w3.heap.size rfl FE.out.1 (Nat.le_refl _) A.va c.vs.length A.vc c.vs rfl rfl (HR.out.later FE.out.2) (by omega) ?_; intro b4 c4 w4 ho4 hb4 hg4; have E4 : Hid (Below w3.heap.size w3 w4) := FE.out.2.trans hb4; obtain ⟨q, rfl, hq, hql⟩ := ownG_some ho4 (by omega); have O4 := hide1 ho4; have s4 := E4.out.size; clear ho4 hb4 hg4 FE))
        have z2 : w4.cell? ⟨X, 2, none⟩ = some (.int .i64 ((j : Int) + 1)) := by rw [← HJ.out]; exact (FX3.out.below E4.out lX3).cell 2
        have v0 : w4.cell? ⟨b1, 0, none⟩ = some (.int .i64 y.p) := (P1.out.below E4.out l13).cell 0
        have v1 : w4.cell? ⟨b1, 1, none⟩ = some (.int .i64 y.t) := (P1.out.below E4.out l13).cell 1
        have v2 : w4.cell? ⟨b1, 2, none⟩ = some (.string y.v) := (P1.out.below E4.out l13).cell 2
        have n0 : w4.cell? ⟨b2, 0, none⟩ = some (.int .i64 n.k) := (P2.out.below E4.out l23).cell 0
        have n1 : w4.cell? ⟨b2, 1, none⟩ = some (.int .i64 n.f) := (P2.out.below E4.out l23).cell 1
        have n2 : w4.cell? ⟨b2, 2, none⟩ = some (.int .i64 n.o) := (P2.out.below E4.out l23).cell 2
        have n3 : w4.cell? ⟨b2, 3, none⟩ = some (.int .i64 n.b) := (P2.out.below E4.out l23).cell 3
        have n4 : w4.cell? ⟨b2, 4, none⟩ = some (.int .i64 n.t) := (P2.out.below E4.out l23).cell 4
        have n5 : w4.cell? ⟨b2, 5, none⟩ = some (.string n.v) := (P2.out.below E4.out l23).cell 5
        obtain ⟨u0, y0⟩ := own_some O4.out (j * 3) (by omega)
        obtain ⟨u1, y1⟩ := own_some O4.out (j * 3 + 1) (by omega)
        obtain ⟨u2, y2⟩ := own_some O4.out (j * 3 + 2) (by omega)
        have f0 := O4.out.frozenAt (j * 3)
        have f1 := O4.out.frozenAt (j * 3 + 1)
        have f2 := O4.out.frozenAt (j * 3 + 2)
        have bb0 : w4.cell? ⟨B, 0, none⟩ = some (.slice A.va c.vs.length A.vc) := (V3.out.b.below E4.out lB3).cell 0
        have bf : ∀ i, w4.frozen? ⟨B, i, none⟩ = false := fun i => (V3.out.b.below E4.out lB3).froz i
        have gB : B ≠ q := by omega
        have gX : X ≠ q := by omega
        have g1 : b1 ≠ q := by omega
        have g2 : b2 ≠ q := by omega
        have hb1 : b1 ≠ B := by have := hle.out.1; omega
        have hb2 : b2 ≠ B := by have := hle.out.2; omega
        have hw : Below w3.heap.size w3 (putG w4 q (j * 3) (voC y)) := below_putG (voC y) (j * 3) E4.out hq
        have ho : (putG w4 q (j * 3) (voC y)).ownsRow w3.heap.size 43 3 (.slice (some ⟨q, 0, none⟩) c.vs.length c4) c.vs.length (rowG voC (c.vs.set j y)) := by
          rw [rowG_set voC 3 encV.len _ _ _ hjl]
          exact own_putG (voC y) (j * 3) O4.out
        have hlen : (c.vs.set j y).length = c.vs.length := by rw [List.length_set]
        rw [← hlen] at ho
        have HP := hide1 (show VaC lo ((putG w4 q (j * 3) (voC y)).setCell ⟨B, 0, none⟩ (.slice (some ⟨q, 0, none⟩) c.vs.length c4)) B { A with va := some ⟨q, 0, none⟩, vc := c4 } { c with vs := c.vs.set j y } by
          have := VaC.putV (l := c.vs.set j y) V3.out hw ho lB3 V3.out.lw
          rw [hlen] at this
          exact this)
        have HG9 := hide1 (gtrans G3.out (put_grown (B := B) hw 0 (.slice (some ⟨q, 0, none⟩) c.vs.length c4)))
        have HP2 := hide1 (gblk (put_grown (B := B) hw 0 (.slice (some ⟨q, 0, none⟩) c.vs.length c4)) P2.out (by intro e; injection e with e; exact hb2 e.symm))
        clear hlen hw ho
        go_upto_region 12 with fail
        change Hid (VaC lo ((((w4.setCell ⟨q, j * 3, none⟩ (.int .i64 y.p)).setCell ⟨q, j * 3 + 1, none⟩ (.int .i64 y.t)).setCell ⟨q, j * 3 + 2, none⟩ (.string y.v)).setCell ⟨B, 0, none⟩ (.slice (some ⟨q, 0, none⟩) c.vs.length c4)) _ _ _) at HP
        change Hid (w.grownBy ((((w4.setCell ⟨q, j * 3, none⟩ (.int .i64 y.p)).setCell ⟨q, j * 3 + 1, none⟩ (.int .i64 y.t)).setCell ⟨q, j * 3 + 2, none⟩ (.string y.v)).setCell ⟨B, 0, none⟩ (.slice (some ⟨q, 0, none⟩) c.vs.length c4)) _) at HG9
        change Hid (Blk ((((w4.setCell ⟨q, j * 3, none⟩ (.int .i64 y.p)).setCell ⟨q, j * 3 + 1, none⟩ (.int .i64 y.t)).setCell ⟨q, j * 3 + 2, none⟩ (.string y.v)).setCell ⟨B, 0, none⟩ (.slice (some ⟨q, 0, none⟩) c.vs.length c4)) _ _ _) at HP2
        generalize ((((w4.setCell ⟨q, j * 3, none⟩ (.int .i64 y.p)).setCell ⟨q, j * 3 + 1, none⟩ (.int .i64 y.t)).setCell ⟨q, j * 3 + 2, none⟩ (.string y.v)).setCell ⟨B, 0, none⟩ (.slice (some ⟨q, 0, none⟩) c.vs.length c4)) = w9 at HP HG9 HP2 ⊢
        clear z2 v0 v1 v2 n0 n1 n2 n3 n4 n5 y0 y1 y2 f0 f1 f2 bb0 bf b0
        have n0 : w9.cell? ⟨b2, 0, none⟩ = some (.int .i64 n.k) := HP2.out.cell 0
        have n1 : w9.cell? ⟨b2, 1, none⟩ = some (.int .i64 n.f) := HP2.out.cell 1
        have n2 : w9.cell? ⟨b2, 2, none⟩ = some (.int .i64 n.o) := HP2.out.cell 2
        have n3 : w9.cell? ⟨b2, 3, none⟩ = some (.int .i64 n.b) := HP2.out.cell 3
        have n4 : w9.cell? ⟨b2, 4, none⟩ = some (.int .i64 n.t) := HP2.out.cell 4
        have n5 : w9.cell? ⟨b2, 5, none⟩ = some (.string n.v) := HP2.out.cell 5
        go_wp2_with fail
        refine (specSay_any _ n B _ w9 HP.out (by show c.ns.length ≤ 1000000; omega)).mono ?_
        rintro r u5 ⟨rfl, ⟨na, nc, V6⟩, g6⟩
        have HV6 := hide1 V6
        have G6 := hide1 (gtrans HG9.out g6)
        clear V6 g6 n0 n1 n2 n3 n4 n5
        go_wp2
        go_ret
        exact ⟨by rw [HQ2.out]; rfl, ⟨_, by rw [HQ2.out]; exact HV6.out⟩, G6.out⟩
end Go.Proofs.Ytgehdgmllilmgaa
