/- The draw of a right queue: whatever bytes are drawn from. -/
import Derived.Test.YtaafofgfeaodhaaQuW
import Derived.Test.YtaafofgfeaodhaaDrawA
import Derived.Deep.Cut
namespace Go.Proofs.Ytaafofgfeaodhaa
open Go.RowKit

theorem big7_no (a : Option Addr) (len cap : Nat) (w : World) (h : len ≤ 1048576) : Calls Try.prog 10 #[.slice a len cap] w fun e w' => e = .returned (.bool false) ∧ w = w' := by
  have q : decide ((1048576 : Int) < (len : Int)) = false := by simp; omega
  go_enter Try.func10, Try.ntmps10
  go_wp2
  go_ret
  exact ⟨rfl, rfl⟩
theorem big7_yes (a : Option Addr) (len cap : Nat) (w : World) (h : ¬ len ≤ 1048576) : Calls Try.prog 10 #[.slice a len cap] w fun e w' => e = .returned (.bool true) ∧ w = w' := by
  have q : decide ((1048576 : Int) < (len : Int)) = true := by simp; omega
  go_enter Try.func10, Try.ntmps10
  go_wp2
  go_ret
  exact ⟨rfl, rfl⟩

/-- What the draw of a queue holds. -/
structure StQ (w wr : World) (a : Option Addr) (len cap g A : Nat) (l : List ByteArray) (m : Int) (ao : Option Addr) (ca : Nat) : Prop where
  ok : OkQ l m
  pos : 1 ≤ m
  var : Blk wr A 26 [.int .i64 m, .slice ao l.length ca]
  own : OwnQ wr (w.heap.size + 1) ao ca l
  ne : ∀ k, (Value.slice ao l.length ca).ownBlock = some k → k ≠ A ∧ k ≠ g
  res : Blk wr w.heap.size 26 [.int .i64 0, .slice none 0 0]
  drw : Drw (w.heap.size + 1) wr a len cap g
  bel : Below w.heap.size w wr
  gA : g < A
theorem StQ.gB {w wr : World} {a : Option Addr} {len cap g A : Nat} {l : List ByteArray} {m : Int} {ao : Option Addr} {ca : Nat} (h : StQ w wr a len cap g A l m ao ca) : w.heap.size < g := by have := h.drw.cur.1; omega
theorem StQ.Ane {w wr : World} {a : Option Addr} {len cap g A : Nat} {l : List ByteArray} {m : Int} {ao : Option Addr} {ca : Nat} (h : StQ w wr a len cap g A l m ao ca) : A ≠ w.heap.size := by have := h.gB; have := h.gA; omega
theorem StQ.v0 {w wr : World} {a : Option Addr} {len cap g A : Nat} {l : List ByteArray} {m : Int} {ao : Option Addr} {ca : Nat} (h : StQ w wr a len cap g A l m ao ca) : wr.cell? ⟨A, 0, none⟩ = some (.int .i64 m) := h.var.cell 0
theorem StQ.v1 {w wr : World} {a : Option Addr} {len cap g A : Nat} {l : List ByteArray} {m : Int} {ao : Option Addr} {ca : Nat} (h : StQ w wr a len cap g A l m ao ca) : wr.cell? ⟨A, 1, none⟩ = some (.slice ao l.length ca) := h.var.cell 1
theorem StQ.draw {w wr : World} {a : Option Addr} {len cap g A : Nat} {l : List ByteArray} {m : Int} {ao : Option Addr} {ca : Nat} {w2 : World} (h : StQ w wr a len cap g A l m ao ca) (hd : Drw (w.heap.size + 1) w2 a len cap g) (hg : wr.grownBy w2 (some g)) : StQ w w2 a len cap g A l m ao ca := by
  have h1 := h.gB
  have h2 := h.gA
  exact ⟨h.ok, h.pos, gblk hg h.var (fun e => by injection e with e; omega), gown hg h.own (fun k hk e => by injection e with e; exact (h.ne k hk).2 e.symm), h.ne, gblk hg h.res (fun e => by injection e with e; omega), hd, h.bel.trans (gbelow hg (fun g' e => by injection e with e; omega) h.bel.size), h.gA⟩
theorem StQ.later {w wr : World} {a : Option Addr} {len cap g A : Nat} {l : List ByteArray} {m : Int} {ao : Option Addr} {ca : Nat} {w2 : World} (h : StQ w wr a len cap g A l m ao ca) (hb : Below wr.heap.size wr w2) : StQ w w2 a len cap g A l m ao ca :=
  ⟨h.ok, h.pos, h.var.below hb h.var.lt, h.own.later hb, h.ne, h.res.below hb h.res.lt, h.drw.later hb, h.bel.trans (hb.mono h.bel.size), h.gA⟩
theorem StQ.drewS {w wr : World} {a : Option Addr} {len cap g A : Nat} {l : List ByteArray} {m : Int} {ao : Option Addr} {ca : Nat} (h : StQ w wr a len cap g A l m ao ca) : StQ w wr.drew a len cap g A l m ao ca := h.later (Below.refl _ _).drew
theorem StQ.new {w wr : World} {a : Option Addr} {len cap g A : Nat} {l : List ByteArray} {m : Int} {ao : Option Addr} {ca : Nat} (h : StQ w wr a len cap g A l m ao ca) (o : Obj) : StQ w (wr.alloc o) a len cap g A l m ao ca := h.later ((Below.refl _ _).alloc (Nat.le_refl _) o)
theorem farQ_drw {B g : Nat} {w : World} {a : Option Addr} {len cap : Nat} (h : Drw B w a len cap g) (A j : Nat) (v : Value) (hA : g < A) : Drw B (w.setCell ⟨A, j, none⟩ v) a len cap g :=
  h.keep (B' := g + 1) ((Below.refl _ _).setCell (p := ⟨A, j, none⟩) (by dsimp only; omega) v) (by have := h.cur.1; omega) (by omega)
/-- A new variable beside it. -/
structure XtQ (wr : World) (A X : Nat) (u : Value) : Prop where
  blk : Blk wr X 26 [.int .i64 0, .slice none 0 0]
  hA : A < X
  hu : ∀ k, u.ownBlock = some k → k < X
theorem XtQ.new {w wr : World} {a : Option Addr} {len cap g A : Nat} {l : List ByteArray} {m : Int} {ao : Option Addr} {ca : Nat} (h : StQ w wr a len cap g A l m ao ca) : XtQ (wr.alloc (.cells #[.int .i64 0, .slice none 0 0] 26)) A wr.heap.size (.slice ao l.length ca) := ⟨Blk.new wr 26 #[.int .i64 0, .slice none 0 0], h.var.lt, fun k hk => (h.own.lt k hk).2⟩
theorem XtQ.later {wr w2 : World} {A X : Nat} {u : Value} (h : XtQ wr A X u) (hb : Below wr.heap.size wr w2) : XtQ w2 A X u := ⟨h.blk.below hb h.blk.lt, h.hA, h.hu⟩
theorem XtQ.grow {wr w2 : World} {A X g : Nat} {u : Value} (h : XtQ wr A X u) (hg : wr.grownBy w2 (some g)) (hgA : g < A) : XtQ w2 A X u := ⟨gblk hg h.blk (fun e => by injection e with e; have := h.hA; omega), h.hA, h.hu⟩
theorem XtQ.c0 {wr : World} {A X : Nat} {u : Value} (h : XtQ wr A X u) : wr.cell? ⟨X, 0, none⟩ = some (.int .i64 0) := h.blk.cell 0
theorem XtQ.c1 {wr : World} {A X : Nat} {u : Value} (h : XtQ wr A X u) : wr.cell? ⟨X, 1, none⟩ = some (.slice none 0 0) := h.blk.cell 1
theorem XtQ.fr {wr : World} {A X : Nat} {u : Value} (h : XtQ wr A X u) (j : Nat) : wr.frozen? ⟨X, j, none⟩ = false := h.blk.froz j
theorem put2q {w : World} {r : Nat} {t : TypeId} {x y : Value} (h : Blk w r t [x, y]) (a b : Value) : Blk ((w.setCell ⟨r, 0, none⟩ a).setCell ⟨r, 1, none⟩ b) r t [a, b] := Blk.set (Blk.set h 0 a) 1 b
theorem own_fill2 {w : World} {base X c : Nat} {b : Option Addr} {L : List ByteArray} (h : OwnQ w base b c L) (hX : X < base) (u v : Value) : OwnQ ((w.setCell ⟨X, 0, none⟩ u).setCell ⟨X, 1, none⟩ v) base b c L :=
  own_far (own_far h _ _ (fun k hk => by have := (h.lt k hk).1; dsimp only; omega)) _ _ (fun k hk => by have := (h.lt k hk).1; dsimp only; omega)
theorem StQ.fillX {w wr : World} {a : Option Addr} {len cap g A : Nat} {l : List ByteArray} {m : Int} {ao : Option Addr} {ca : Nat} (h : StQ w wr a len cap g A l m ao ca) {X : Nat} (x : XtQ wr A X (.slice ao l.length ca)) (u v : Value) : StQ w ((wr.setCell ⟨X, 0, none⟩ u).setCell ⟨X, 1, none⟩ v) a len cap g A l m ao ca := by
  have h1 := h.gB
  have h2 := h.gA
  have h3 := x.hA
  have n1 : ∀ k, (Value.slice ao l.length ca).ownBlock = some k → k ≠ X := fun k hk => by have := x.hu k hk; omega
  exact ⟨h.ok, h.pos, (h.var.far _ _ (by dsimp only; omega)).far _ _ (by dsimp only; omega), own_far (own_far h.own _ _ n1) _ _ n1, h.ne, (h.res.far _ _ (by dsimp only; omega)).far _ _ (by dsimp only; omega), farQ_drw (farQ_drw h.drw _ _ _ (by omega)) _ _ _ (by omega), (h.bel.setCell (p := ⟨X, 0, none⟩) (by dsimp only; omega) _).setCell (p := ⟨X, 1, none⟩) (by dsimp only; omega) _, h.gA⟩
/-- The variable is set anew. -/
theorem StQ.put {w wr : World} {a : Option Addr} {len cap g A : Nat} {l : List ByteArray} {m : Int} {ao : Option Addr} {ca : Nat} {L : List ByteArray} {M : Int} {p : Option Addr} {c base : Nat} (h : StQ w wr a len cap g A l m ao ca) (ho : OkQ L M) (hp : 1 ≤ M) (o1 : OwnQ wr base p c L) (hb : A < base) :
    StQ w ((wr.setCell ⟨A, 0, none⟩ (.int .i64 M)).setCell ⟨A, 1, none⟩ (.slice p L.length c)) a len cap g A L M p c := by
  have h1 := h.gB
  have h2 := h.gA
  have n1 : ∀ k, (Value.slice p L.length c).ownBlock = some k → k ≠ A := fun k hk => by have := (o1.lt k hk).1; omega
  exact ⟨ho, hp, Blk.set (Blk.set h.var 0 _) 1 _, own_base (own_far (own_far o1 _ _ n1) _ _ n1) (by omega), (fun k hk => by have := (o1.lt k hk).1; omega), (h.res.far _ _ (by dsimp only; omega)).far _ _ (by dsimp only; omega), farQ_drw (farQ_drw h.drw _ _ _ (by omega)) _ _ _ (by omega), (h.bel.setCell (p := ⟨A, 0, none⟩) (by dsimp only; omega) _).setCell (p := ⟨A, 1, none⟩) (by dsimp only; omega) _, h.gA⟩
theorem StQ.pushC {w wr : World} {a : Option Addr} {len cap g A : Nat} {l : List ByteArray} {m : Int} {ao : Option Addr} {ca : Nat} (h : StQ w wr a len cap g A l m ao ca) {k : ByteArray} (hk : keyQ k) :
    Calls Try.prog 27 #[.agg #[.int .i64 m, .slice ao l.length ca], .string k] wr fun e w' => ∃ (po : Option Addr) (pn pc : Nat) (F : Int) (lf : ByteArray) (t : Bool), e = .returned (.tuple #[.agg #[.int .i64 F, .slice po pn pc], .string lf, .bool t]) ∧ (t = true → ∃ L : List ByteArray, pn = L.length ∧ OkQ L F ∧ 1 ≤ F ∧ OwnQ w' wr.heap.size po pc L) ∧ Below wr.heap.size wr w' := by
  have hs := h.ok.small
  by_cases hin : k ∈ l
  · refine (specPush_own ao l ca m k wr (by omega) h.own.rd (pshR_no (fun hp => hp.2.2.1 hin))).mono ?_
    rintro e w' ⟨po, cp, rfl, ho, hb⟩
    exact ⟨po, _, cp, _, _, _, rfl, (fun e => by cases e), hb⟩
  · have hP : PshQ l m k := ⟨h.ok, hk, hin, by have := h.pos; omega⟩
    refine (specPush_own ao l ca m k wr (by omega) h.own.rd (pshR_yes hP)).mono ?_
    rintro e w' ⟨po, cp, rfl, ho, hb⟩
    exact ⟨po, _, cp, _, _, _, rfl, (fun _ => ⟨_, rfl, hP.ok, h.pos, ho⟩), hb⟩
theorem codeQ_grow {w : World} {a : Option Addr} {len : Nat} (hc : Code w.heap.size w a len) (o : Obj) : Code (w.alloc o).heap.size (w.alloc o) a len := by
  have h1 := hc.below ((Below.refl w.heap.size w).alloc (Nat.le_refl _) o) (Nat.le_refl _)
  exact ⟨h1.le, fun j hj => by obtain ⟨b, o', v, e1, e2, e3, e4⟩ := h1.cells j hj; exact ⟨b, o', v, e1, by rw [World.size_alloc]; omega, e3, e4⟩⟩

set_option maxRecDepth 100000 in
set_option maxHeartbeats 4000000 in
theorem drawRQ_any (w : World) (a : Option Addr) (len cap : Nat) (hc : Code w.heap.size w a len) :
    Calls Try.prog 11 #[.slice a len cap] w fun e w' => ∃ (l : List ByteArray) (m : Int) (ao : Option Addr) (ca : Nat) (ky : ByteArray), e = .returned (.tuple #[.agg #[.int .i64 m, .slice ao l.length ca], .string ky]) ∧ OkQ l m ∧ 1 ≤ m ∧ keyQ ky ∧ OwnQ w' w.heap.size ao ca l ∧ Below w.heap.size w w' := by
  have F0 : Hid (Blk (w.alloc (.cells #[.int .i64 0, .slice none 0 0] 26)) w.heap.size 26 [.int .i64 0, .slice none 0 0] ∧ Below w.heap.size w (w.alloc (.cells #[.int .i64 0, .slice none 0 0] 26)) ∧ Code (w.alloc (.cells #[.int .i64 0, .slice none 0 0] 26)).heap.size (w.alloc (.cells #[.int .i64 0, .slice none 0 0] 26)) a len ∧ (w.alloc (.cells #[.int .i64 0, .slice none 0 0] 26)).heap.size = w.heap.size + 1) := ⟨Blk.new w _ _, (Below.refl _ _).alloc (Nat.le_refl _) _, codeQ_grow hc _, World.size_alloc _ _⟩
  clear hc
  go_enter Try.func11, Try.ntmps11
  go_wp2_with fail
  generalize (w.alloc (.cells #[.int .i64 0, .slice none 0 0] 26)) = w0 at F0 ⊢
  obtain ⟨R0, B0, C0, z0⟩ := F0.out
  refine (new_any w0 a len cap C0).mono ?_
  rintro e w1 ⟨g, rfl, h1, hb1⟩
  rw [z0] at h1
  have R1 := hide1 (R0.below hb1 R0.lt)
  have B1 := hide1 (B0.trans (hb1.mono B0.size))
  have D1 := hide1 h1
  clear F0 R0 B0 C0 hb1 h1
  go_wp2_with fail
  refine (below_any D1.out 6 (by omega)).mono ?_
  rintro e w2 ⟨x, rfl, hx, _, hD2, hg2⟩
  have hx6 : (x : Int) < 6 := hx (by omega)
  have hgw := hide1 D1.out.lt
  have SK : Hid (StQ w (w2.alloc (.cells #[.int .i64 (1 + (x : Int)), .slice none 0 0] 26)) a len cap g w2.heap.size [] (1 + (x : Int)) none 0) := by
    have s1 := D1.out.cur.1
    have s2 := hg2.size
    have s3 := hD2.lt
    refine ⟨⟨by omega, by omega, by simp; omega, (fun s hs => by cases hs), List.nodup_nil⟩, by omega, Blk.new w2 _ _, World.ownsRow_nil _ _ _ _, (fun k hk => by cases hk), (gblk hg2 R1.out (fun e => by injection e with e; omega)).more _, hD2.later ((Below.refl _ _).alloc (Nat.le_refl _) _), (B1.out.trans (gbelow hg2 (fun g' e => by injection e with e; omega) B1.out.size)).alloc (by have := B1.out.size; omega) _, s3⟩
  have hx0 : (0 : Int) ≤ (x : Int) := by omega
  have hw6 : IntKind.i64.wrap (1 + (x : Int)) = 1 + (x : Int) := IntWalk.i64_in _ ⟨by omega, by omega⟩
  clear hx hD2 hg2 R1 B1 D1
  go_wp2
  generalize w2.alloc (.cells #[.int .i64 (1 + (x : Int)), .slice none 0 0] 26) = w3 at SK ⊢
  generalize w2.heap.size = A at SK ⊢
  go_loopw [6] (fun iv wr => ∃ (i : Nat) (l : List ByteArray) (m : Int) (ao : Option Addr) (ca : Nat), i ≤ 9 ∧ iv = .int .i64 (i : Int) ∧ Hid (StQ w wr a len cap g A l m ao ca)) (fun iv _ => 9 - (intOf iv).toNat)
  case atStart => exact ⟨0, _, _, _, _, by omega, rfl, SK⟩
  case round =>
    clear SK
    obtain ⟨i, l, m, ao, ca, hi, rfl, hS⟩ := hrel
    go_wp2_with fail
    refine (below_any hS.out.drw 9 (by omega)).mono ?_
    rintro e w4 ⟨y, rfl, hy, _, hD4, hg4⟩
    have hy9 : (y : Int) < 9 := hy (by omega)
    have S4 := hide1 (hS.out.draw hD4 hg4)
    clear hy hD4 hg4 hS
    by_cases hlt : i < y
    · have k1 : decide ((i : Int) < (y : Int)) = true := by simp; omega
      have k1' : i < y := hlt
      go_upto_region 6 with fail
      have v0 := S4.out.v0
      have v1 := S4.out.v1
      go_region_held3 (fun w' => w'.cell? ⟨A, 0, none⟩ = some (.int .i64 m) ∧ w'.cell? ⟨A, 1, none⟩ = some (.slice ao l.length ca)) (first | exact ⟨(SX.fillX XB _ _).v0, (SX.fillX XB _ _).v1⟩ | exact ⟨(SX.new _).v0, (SX.new _).v1⟩ | exact ⟨SX.v0, SX.v1⟩ | exact ⟨(S4.out.drewS.new _).v0, (S4.out.drewS.new _).v1⟩ | exact ⟨S4.out.v0, S4.out.v1⟩) ((first | (go_at_call 32; refine (key_any S4.out.drewS.drw).mono ?_; rintro e w6 ⟨ky, rfl, hk1, hk2, hD6, hg6⟩; have SX := S4.out.drewS.draw hD6 hg6) | (go_at_call 32; refine (key_any (S4.out.drewS.new _).drw).mono ?_; rintro e w6 ⟨ky, rfl, hk1, hk2, hD6, hg6⟩; have XB : XtQ w6 A w4.heap.size _ := (XtQ.new S4.out.drewS).grow hg6 S4.out.gA; have SX := (S4.out.drewS.new _).draw hD6 hg6) | (go_at_call 27; refine (SX.pushC ⟨hk1, hk2⟩).mono ?_; rintro e w8 ⟨po, pn, pc, F, lf, t, rfl, ht, hb8⟩; have hbA := SX.var.lt; (try have hbX := XB.blk.lt); (try (have XB := XB.later hb8; have xc0 := XB.c0; have xc1 := XB.c1; have xcf := XB.fr)); have SX := SX.later hb8) | (go_at_call 27; refine ((SX.new _).pushC ⟨hk1, hk2⟩).mono ?_; rintro e w8 ⟨po, pn, pc, F, lf, t, rfl, ht, hb8⟩; have XB := XtQ.new SX; have SX := SX.new (.cells #[.int .i64 0, .slice none 0 0] 26); have hbA := SX.var.lt; have hbX := XB.blk.lt; have XB := XB.later hb8; have xc0 := XB.c0; have xc1 := XB.c1; have xcf := XB.fr; have SX := SX.later hb8)))
      all_goals
        first
        | (have S9 := hide1 (SX.fillX XB (.int .i64 F) (.slice po pn pc)); have XF := hide1 (put2q XB.blk (.int .i64 F) (.slice po pn pc)); have HT9 : Hid (t = true → ∃ (L : List ByteArray), pn = L.length ∧ OkQ L F ∧ 1 ≤ F ∧ ∃ base, A < base ∧ OwnQ ((w8.setCell ⟨_, 0, none⟩ (.int .i64 F)).setCell ⟨_, 1, none⟩ (.slice po pn pc)) base po pc L) := (fun e => by obtain ⟨L, e1, hok, hp, ho1⟩ := ht e; exact ⟨L, e1, hok, hp, _, hbA, own_fill2 ho1 hbX _ _⟩); clear hbX XB xc0 xc1 xcf ht; generalize ((w8.setCell ⟨_, 0, none⟩ (.int .i64 F)).setCell ⟨_, 1, none⟩ (.slice po pn pc)) = w9 at S9 XF HT9 ⊢)
        | (have S9 := hide1 (SX.new (.cells #[.int .i64 F, .slice po pn pc] 26)); have XF := hide1 (Blk.new w8 26 #[.int .i64 F, .slice po pn pc]); have HT9 : Hid (t = true → ∃ (L : List ByteArray), pn = L.length ∧ OkQ L F ∧ 1 ≤ F ∧ ∃ base, A < base ∧ OwnQ (w8.alloc (.cells #[.int .i64 F, .slice po pn pc] 26)) base po pc L) := (fun e => by obtain ⟨L, e1, hok, hp, ho1⟩ := ht e; exact ⟨L, e1, hok, hp, _, hbA, own_kept ho1 ((Below.refl _ _).alloc (Nat.le_refl _) _)⟩); clear ht; generalize (w8.alloc (.cells #[.int .i64 F, .slice po pn pc] 26)) = w9 at S9 XF HT9 ⊢)
        have z0 : w9.cell? _ = some (.int .i64 F) := XF.out.cell 0
        have z1 : w9.cell? _ = some (.slice po pn pc) := XF.out.cell 1
        clear XF
        rcases t with _ | _
        · clear HT9
          go_wp2
          go_roundw
          case rel => exact ⟨i + 1, l, m, ao, ca, by omega, by go_num, S9⟩
          case measure => simp [intOf]; omega
        · obtain ⟨L, rfl, hok', hp', base, hba, ho1⟩ := HT9.out rfl
          have S10 := hide1 (S9.out.put hok' hp' ho1 hba)
          have t0 := S9.out.v0
          have t1 := S9.out.v1
          have ft : ∀ j, w9.frozen? ⟨A, j, none⟩ = false := fun j => S9.out.var.froz j
          clear HT9 hok' hp' ho1 S9
          go_wp2
          go_roundw
          case rel => exact ⟨i + 1, L, F, po, pc, by omega, by go_num, S10⟩
          case measure => simp [intOf]; omega
    · have k1 : decide ((i : Int) < (y : Int)) = false := by simp; omega
      have k1' : ¬ i < y := hlt
      go_upto_region 9 with fail
      have v0 := S4.out.v0
      have v1 := S4.out.v1
      go_region_held3 (fun w' => w'.cell? ⟨A, 0, none⟩ = some (.int .i64 m) ∧ w'.cell? ⟨A, 1, none⟩ = some (.slice ao l.length ca)) (first | exact ⟨((SX.var.far ⟨w.heap.size, 0, none⟩ _ SX.Ane).far ⟨w.heap.size, 1, none⟩ _ SX.Ane).cell 0, ((SX.var.far ⟨w.heap.size, 0, none⟩ _ SX.Ane).far ⟨w.heap.size, 1, none⟩ _ SX.Ane).cell 1⟩ | exact ⟨SX.v0, SX.v1⟩ | exact ⟨S4.out.drewS.v0, S4.out.drewS.v1⟩ | exact ⟨S4.out.v0, S4.out.v1⟩) ((go_at_call 32; refine (key_any S4.out.drewS.drw).mono ?_; rintro e w6 ⟨ky, rfl, hk1, hk2, hD6, hg6⟩; have SX := S4.out.drewS.draw hD6 hg6; have y0 : w6.cell? ⟨w.heap.size, 0, none⟩ = some (.int .i64 0) := SX.res.cell 0; have y1 : w6.cell? ⟨w.heap.size, 1, none⟩ = some (.slice none 0 0) := SX.res.cell 1; have yf : ∀ j, w6.frozen? ⟨w.heap.size, j, none⟩ = false := fun j => SX.res.froz j))
      all_goals
        have HH := hide1 (Blk.set (Blk.set SX.res 0 (.int .i64 m)) 1 (.slice ao l.length ca))
        have HO : Hid (OwnQ ((w6.setCell ⟨w.heap.size, 0, none⟩ (.int .i64 m)).setCell ⟨w.heap.size, 1, none⟩ (.slice ao l.length ca)) w.heap.size ao ca l) := hide1 ((own_fill2 SX.own (by omega) (.int .i64 m) (.slice ao l.length ca)).base (by omega))
        have HB := hide1 ((SX.bel.setCell (p := ⟨w.heap.size, 0, none⟩) (Nat.le_refl _) (.int .i64 m)).setCell (p := ⟨w.heap.size, 1, none⟩) (Nat.le_refl _) (.slice ao l.length ca))
        have HK := hide1 (And.intro SX.ok SX.pos)
        have HKY := hide1 (And.intro hk1 hk2)
        clear SX hD6 hg6 hk1 hk2
        go_wp2
        refine bodyPost_ret (resQ2 Try.results11 _ _ w.heap.size 26 #[.int .i64 m, .slice ao l.length ca] (0, 0) _ rfl HH.out Try.underlying26 rfl (by kernel_rfl)) rfl ?_
        exact ⟨l, m, ao, ca, ky, rfl, HK.out.1, HK.out.2, HKY.out, HO.out, HB.out⟩
end Go.Proofs.Ytaafofgfeaodhaa
