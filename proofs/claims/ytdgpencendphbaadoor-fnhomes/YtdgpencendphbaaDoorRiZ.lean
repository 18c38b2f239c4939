/- Rings, by the model: spots in a row; one spot of a node. -/
import Derived.Test.YtdgpencendphbaaDoorRiY
import Derived.Test.YtdgpencendphbaaDoorRiS
import Derived.Test.YtdgpencendphbaaDoorDec
namespace Go.Proofs.YtdgpencendphbaaDoor
open Go.RowKit
set_option linter.unusedVariables false

/-- A number as a text. -/
def decB (n : Int) : ByteArray := ⟨(Lib.itoa n).toArray⟩
theorem decB_size (n : Nat) (h : n < 10) : (decB (n : Int)).size = 1 := by
  have := Lib.itoa_nonneg n
  rw [Lib.decDigits_one h] at this
  unfold decB
  rw [this]
  rfl
/-- The text of which a spot's place is made. -/
def keyT (v : Int) (k : Nat) : ByteArray := decB v ++ ⟨#[45]⟩ ++ decB (k : Int)
def spotF (v : Int) (k : Nat) : Int := (hashN (keyT v k) 0 : Int)
theorem keyT_size {v : Int} {k : Nat} (h1 : 1 ≤ v) (h2 : v ≤ 9) (hk : k < 10) : (keyT v k).size = 3 := by
  obtain ⟨n, rfl⟩ : ∃ n : Nat, v = (n : Int) := ⟨v.toNat, by omega⟩
  unfold keyT
  rw [ByteArray.size_append, ByteArray.size_append, decB_size n (by omega), decB_size k hk]
  rfl
/-- 'out = append(out, s)', s of two cells, out a row of the call's own. -/
theorem wpList_push2 {P : Program} {w : World} {ops : Array Oper} {rest : List Oper} {o : Oper} {a : Act} {Q : Exit → Act → World → Prop} (hgd : o.guard = none) (s x : Operand) (t : TypeId)
    (ho : o.op = .call { callee := .builtin .append, args := #[s, x], argTypes := #[t, t] })
    (base : Nat) (e : TypeId) (i : TypeInfo) (z : Value) (bytes : Nat) (ht : P.underlying t = some (.slice e)) (hi : P.info? e = some i) (hz : i.zero = some z) (hsize : i.size = 2) (hby : i.bytes = bytes) (hzc : z.cells.size = 2) (hb64 : bytes ≤ 64)
    (v : Value) (n : Nat) (xs : List Value) (hs : a.eval s = v) (hown : w.ownsRow base e 2 v n xs) (u1 u2 : Value) (hu1 : u1.oneCell' = true) (hu2 : u2.oneCell' = true)
    (hx : a.eval x = .slice (some ⟨w.heap.size, 0, none⟩) 1 1) (hlen : n ≤ 1048576) (hbase : base ≤ w.heap.size)
    (h : ∀ v' w', w'.ownsRow base e 2 v' (n + 1) (xs ++ [u1, u2]) → Below base w w' → wpList P ops Q rest (a.put o.dst v') w') :
    wpList P ops Q (o :: rest) a (w.alloc (.cells #[u1, u2] e)) := by
  refine wpList_append_own _ hgd s x t ho base e i z 2 bytes ht hi hz hsize hby hzc (by decide) v n xs hs (hown.alloc _) ⟨w.heap.size, 0, none⟩ 1 1 [u1, u2] hx rfl ?_ ?_ ?_ ?_ ?_ ?_
  · intro j u hj
    have hB := Blk.new w e #[u1, u2]
    rw [Addr.add_lit, Nat.zero_add]
    match j, hj with
    | 0, hj => exact (hB.cell 0).trans hj
    | 1, hj => exact (hB.cell 1).trans hj
    | j + 2, hj => simp at hj
  · intro u' hu'
    simp at hu'
    rcases hu' with rfl | rfl
    · exact hu1
    · exact hu2
  · unfold maxLen; omega
  · have : (n + 1) * bytes ≤ (n + 1) * 64 := Nat.mul_le_mul_left _ hb64
    omega
  · rw [World.size_alloc]; omega
  · intro v' w' h1 h2 _
    refine h v' w' h1 ?_
    refine Below.grown ((Below.refl _ _).alloc hbase _) h2 (by rw [World.size_alloc]; omega) ?_
    intro k hk
    exact (hown.lt k hk).1
theorem owns_empty2R (w : World) (e : TypeId) : (w.alloc (.cells #[] e)).ownsRow w.heap.size e 2 (.slice (some ⟨w.heap.size, 0, none⟩) 0 0) 0 [] :=
  ⟨rfl, .inr ⟨w.heap.size, 0, #[], rfl, Nat.le_refl _, heap_alloc_new w _, Nat.le_refl _, Nat.zero_le _, rfl, rfl⟩⟩
theorem own_slice2 {w : World} {base n : Nat} {e : TypeId} {v : Value} {xs : List Value} (h : w.ownsRow base e 2 v n xs) : ∃ ao cap, v = .slice ao n cap := by
  rcases h.2 with ⟨hv, h0⟩ | ⟨g, cap, cur, hv, _⟩
  · exact ⟨none, 0, by rw [h0]; exact hv⟩
  · exact ⟨_, cap, hv⟩
theorem Tryd.infoSpotR : (Tryd.prog.info? 57).map (fun i => (i.zero, i.size, i.bytes)) = some (some (spV (0, 0)), 2, 16) := by kernel_rfl
theorem zbS {u w7 : World} (hb : Below (u.alloc (.cells #[.int .i64 0, .int .i64 0] 57)).heap.size (u.alloc (.cells #[.int .i64 0, .int .i64 0] 57)) w7) : Blk w7 u.heap.size 57 [.int .i64 0, .int .i64 0] :=
  Blk.below (Blk.new u 57 #[.int .i64 0, .int .i64 0]) hb (by rw [World.size_alloc]; omega)
theorem zbSD {u w7 : World} (hb : Below (u.alloc (.cells #[.int .i64 0, .int .i64 0] 57)).drew.heap.size (u.alloc (.cells #[.int .i64 0, .int .i64 0] 57)).drew w7) : Blk w7 u.heap.size 57 [.int .i64 0, .int .i64 0] :=
  Blk.below (w := (u.alloc (.cells #[.int .i64 0, .int .i64 0] 57)).drew) (Blk.new u 57 #[.int .i64 0, .int .i64 0]) hb (show u.heap.size < (u.alloc (.cells #[.int .i64 0, .int .i64 0] 57)).heap.size by rw [World.size_alloc]; omega)
theorem zbSE {u w7 : World} (hb : Below (u.drew.alloc (.cells #[.int .i64 0, .int .i64 0] 57)).heap.size (u.drew.alloc (.cells #[.int .i64 0, .int .i64 0] 57)) w7) : Blk w7 u.heap.size 57 [.int .i64 0, .int .i64 0] :=
  Blk.below (Blk.new u.drew 57 #[.int .i64 0, .int .i64 0]) hb (show u.drew.heap.size < _ by rw [World.size_alloc]; omega)
/-- A region of a text, by its number. -/
def pickR (n : Nat) : Go.Code → Option Go.Code
  | .region m o d => if m = n then some (.region m o d) else none
  | .seq a b => match pickR n a with
    | some c => some c
    | none => pickR n b
  | .cond _ a b => match pickR n a with
    | some c => some c
    | none => pickR n b
  | .block _ a => pickR n a
  | .loop a => pickR n a
  | _ => none

set_option maxRecDepth 100000 in
set_option maxHeartbeats 4000000 in
theorem regSpot {c : Go.Code} {Q : Exit → Act → World → Prop} {u : World} {b o i m ca k : Nat} {v h : Int} {s1 s2 : ByteArray} {y1 y2 y3 y4 y7 y8 y9 ya yb yc yd ye yf yg yh yi yj yk yl ym yn yo yp yq yr ys yt yu yv yw yx yy yz yA yB yC yD yE yF yG yH yI yJ yK yL yM yN yO yP yQ yR yS yT yU yV yW yX yY yZ Y0 Y1 Y2 Y3 Y4 Y5 Y6 Y7 Y8 Y9 Ya Yb Yc Yd Ye Yf Yg Yh Yi Yj Yk Yl Ym Yn Yo Yp : Value} (hc : pickR 10 (Tryd.f22.body.getD .skip) = some c) (hg : b < u.heap.size) (n0 : u.cell? ⟨b, o + i, none⟩ = some (.int .i64 v)) (hlt : (i : Int) < (m : Int)) (hz1 : s1.size = 1) (hz2 : s2.size = 1)
    (C1 : ∀ w', Calls Tryd.prog 49 #[.int .i64 v] w' fun e w'' => e = .returned (.string s1) ∧ Below w'.heap.size w' w'')
    (C2 : ∀ w', Calls Tryd.prog 49 #[.int .i64 (k : Int)] w' fun e w'' => e = .returned (.string s2) ∧ Below w'.heap.size w' w'')
    (C3 : ∀ w', Calls Tryd.prog 48 #[.string (s1 ++ ⟨#[45]⟩ ++ s2), .int .i64 0] w' fun e w'' => e = .returned (.int .i64 h) ∧ w' = w'')
    (hQ : ∀ bx w', u.heap.size ≤ bx → Blk w' bx 57 [.int .i64 h, .int .i64 v] → Below u.heap.size u w' → Q .normal { tmps := #[.slice (some ⟨b, o, none⟩) m ca, y1, y2, y3, y4, .int .i64 (i : Int), .int .i64 (k : Int), .pointer (some ⟨bx, 0, none⟩), y8, y9, ya, yb, yc, yd, ye, yf, yg, yh, yi, yj, yk, yl, ym, yn, yo, yp, .slice (some ⟨b, o, none⟩) m ca, .int .i64 (i : Int), .pointer (some ⟨b, o + i, none⟩), .int .i64 v, .string s1, .string (s1 ++ ⟨#[45]⟩), .int .i64 (k : Int), .string s2, .string (s1 ++ ⟨#[45]⟩ ++ s2), .int .i64 h, .slice (some ⟨b, o, none⟩) m ca, .int .i64 (i : Int), .pointer (some ⟨b, o + i, none⟩), .int .i64 v, .agg #[.int .i64 h, .int .i64 v], yF, yG, yH, yI, yJ, yK, yL, yM, yN, yO, yP, yQ, yR, yS, yT, yU, yV, yW, yX, yY, yZ, Y0, Y1, Y2, Y3, Y4, Y5, Y6, Y7, Y8, Y9, Ya, Yb, Yc, Yd, Ye, Yf, Yg, Yh, Yi, Yj, Yk, Yl, Ym, Yn, Yo, Yp], defers := [] } w') :
    Go.Code.wp Tryd.prog c Q { tmps := #[.slice (some ⟨b, o, none⟩) m ca, y1, y2, y3, y4, .int .i64 (i : Int), .int .i64 (k : Int), y7, y8, y9, ya, yb, yc, yd, ye, yf, yg, yh, yi, yj, yk, yl, ym, yn, yo, yp, yq, yr, ys, yt, yu, yv, yw, yx, yy, yz, yA, yB, yC, yD, yE, yF, yG, yH, yI, yJ, yK, yL, yM, yN, yO, yP, yQ, yR, yS, yT, yU, yV, yW, yX, yY, yZ, Y0, Y1, Y2, Y3, Y4, Y5, Y6, Y7, Y8, Y9, Ya, Yb, Yc, Yd, Ye, Yf, Yg, Yh, Yi, Yj, Yk, Yl, Ym, Yn, Yo, Yp], defers := [] } u := by
  have ec : some c = some _ := hc.symm.trans (show pickR 10 (Tryd.f22.body.getD .skip) = some _ from rfl)
  injection ec with ec
  subst ec
  have D1 := hide1 C1
  have D2 := hide1 C2
  have D3 := hide1 C3
  have HQ := hide1 hQ
  have HG := hide1 n0
  clear C1 C2 C3 hQ hc
  have hz3 : s1.size ≤ 9 := by omega
  have hz4 : s2.size ≤ 9 := by omega
  have q1 : ¬ 9223372036854775807 < s1.size + 1 := by omega
  have q2 : ¬ 9223372036854775807 < s1.size + 1 + s2.size := by omega
  clear hz1 hz2
  go_region_held3 (fun w' => w'.cell? ⟨b, o + i, none⟩ = some (.int .i64 v)) (first | go_keep | exact n0 | exact ((Bb.out.trans (show Below u.heap.size wb _ by have := Bb.out.size; have := Ba.out.size; go_grown)).cell (p := ⟨b, o + i, none⟩) hg).trans HG.out | exact ((Ba.out.trans (show Below u.heap.size wa _ by have := Ba.out.size; go_grown)).cell (p := ⟨b, o + i, none⟩) hg).trans HG.out | exact ((show Below u.heap.size u _ by go_grown).cell (p := ⟨b, o + i, none⟩) hg).trans HG.out) ((first
    | (go_at_call 48; refine (D3.out _).mono ?_; rintro e w3 ⟨rfl, rfl⟩)
    | (have := Ba.out; go_at_call 49; refine (D2.out _).mono ?_; rintro e wb ⟨rfl, hb2⟩; have Bab : Hid (Below wa.heap.size wa wb) := (show Below wa.heap.size wa _ by go_grown).trans (hb2.mono (by go_size)); have Bb : Hid (Below u.heap.size u wb) := Ba.out.trans (Bab.out.mono Ba.out.size); (first | (have ZB := hide1 (ZA.out.below Bab.out ZA.out.lt)) | (have ZB : Hid (Blk wb wa.heap.size 57 [.int .i64 0, .int .i64 0]) := (by first | exact zbS hb2 | exact zbSD hb2 | exact zbSE hb2)) | skip); (try (have z0 : wb.cell? ⟨_, 0, none⟩ = some (.int .i64 0) := ZB.out.cell 0; have z1 : wb.cell? ⟨_, 1, none⟩ = some (.int .i64 0) := ZB.out.cell 1; have zf : ∀ j, wb.frozen? ⟨_, j, none⟩ = false := fun j => ZB.out.froz j)); clear hb2)
    | (go_at_call 49; refine (D1.out _).mono ?_; rintro e wa ⟨rfl, hb1⟩; have Ba : Hid (Below u.heap.size u wa) := (show Below u.heap.size u _ by go_grown).trans (hb1.mono (by go_size)); (try (have ZA : Hid (Blk wa u.heap.size 57 [.int .i64 0, .int .i64 0]) := (by first | exact zbS hb1 | exact zbSD hb1 | exact zbSE hb1))); clear hb1)))
  all_goals
    have sa := Ba.out.size
    have sb := Bb.out.size
    first
      | (have := ZB.out; exact HQ.out _ _ (by omega) (Blk.set (Blk.set ZB.out 0 _) 1 _) (Bb.out.trans (show Below u.heap.size wb _ by go_grown)))
      | exact HQ.out _ _ sb (Blk.new wb _ _) (Bb.out.trans (show Below u.heap.size wb _ by go_grown))
      | exact HQ.out _ _ sb (Blk.new wb.drew _ _) (Bb.out.trans (show Below u.heap.size wb _ by go_grown))
end Go.Proofs.YtdgpencendphbaaDoor
