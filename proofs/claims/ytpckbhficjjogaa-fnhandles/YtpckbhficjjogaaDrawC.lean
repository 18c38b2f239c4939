/- The contract of the draw of a right place, walked. -/
import Derived.Test.YtpckbhficjjogaaDrawB
import Derived.Deep.Cut
namespace Go.Proofs.Ytpckbhficjjogaa
open Go.RowKit

theorem StA.rd {B g A : Nat} {w wr : World} {a : Option Addr} {len cap : Nat} {l : List Sl} {f : Int} {b c : Nat} (h : StA B g A w wr a len cap l f b c) : RdA wr (some ⟨b, 0, none⟩) l := rdA_of_own h.own
theorem StA.v0 {B g A : Nat} {w wr : World} {a : Option Addr} {len cap : Nat} {l : List Sl} {f : Int} {b c : Nat} (h : StA B g A w wr a len cap l f b c) : wr.cell? ⟨A, 0, none⟩ = some (.slice (some ⟨b, 0, none⟩) l.length c) := h.var.cell 0
theorem StA.v1 {B g A : Nat} {w wr : World} {a : Option Addr} {len cap : Nat} {l : List Sl} {f : Int} {b c : Nat} (h : StA B g A w wr a len cap l f b c) : wr.cell? ⟨A, 1, none⟩ = some (.int .i64 f) := h.var.cell 1
/-- The handle of a slot that is used, by the model. -/
theorem StA.handle {B g A : Nat} {w wr : World} {a : Option Addr} {len cap : Nat} {l : List Sl} {f : Int} {b c : Nat} (h : StA B g A w wr a len cap l f b c) (k : Nat) (hk : k < l.length) (hu : l[k].used = true) :
    Calls Try.prog 34 #[arV (some ⟨b, 0, none⟩) l.length c f, .int .i64 (k : Int)] wr fun e w' => e = .returned (.int .i64 (24 * l[k].gen + (k : Int))) ∧ Below wr.heap.size wr w' := by
  refine (specHandle_any _ l c f (k : Int) wr (by have := h.ok.most; omega) h.rd).mono ?_
  rintro e w' ⟨⟨r, rfl, hr⟩, hb⟩
  rcases hr with ⟨j, hj, e1, _, _, rfl⟩ | ⟨_, hno⟩
  · obtain rfl : k = j := by omega
    exact ⟨rfl, hb⟩
  · exact absurd ⟨k, hk, rfl, h.ok, hu⟩ hno
theorem StA.lift {B g A : Nat} {w wr : World} {a : Option Addr} {len cap : Nat} {l : List Sl} {f : Int} {b c : Nat} (h : StA B g A w wr a len cap l f b c) (k : Nat) (hk : k < l.length) (hu : l[k].used = true) :
    Calls Try.prog 32 #[arV (some ⟨b, 0, none⟩) l.length c f, .int .i64 (24 * l[k].gen + (k : Int))] wr fun e w' => ∃ b' c', e = .returned (.tuple #[.agg #[.slice (some ⟨b', 0, none⟩) l.length c', .int .i64 (k : Int)], .bool true]) ∧ w'.ownsRow wr.heap.size 40 5 (.slice (some ⟨b', 0, none⟩) l.length c') l.length (sls (l.set k (lifted l[k] f))) ∧ Below wr.heap.size wr w' := by
  have hs := h.ok.slots k hk
  have hm := h.ok.most
  have g1 := hs.1
  have g2 := hs.2.1
  refine (specLift_any _ l c f (24 * l[k].gen + (k : Int)) wr (by omega) (by omega) (by omega) h.rd).mono ?_
  have hat : AtA l f (24 * l[k].gen + (k : Int)) k := ⟨h.ok, by omega, hk, by omega, hu, by omega⟩
  rintro e w' ⟨⟨j, b', c', hj, rfl, hj2, ho⟩ | ⟨rfl, hno⟩, hb⟩
  · obtain rfl : j = k := by
      have h1 := hj2.place
      have h2 := hat.place
      omega
    exact ⟨b', c', rfl, ho, hb⟩
  · exact absurd hat (hno k)
/-- What the model lays, told in one. -/
theorem StA.lay {B g A : Nat} {w wr : World} {a : Option Addr} {len cap : Nat} {l : List Sl} {f : Int} {b c : Nat} (h : StA B g A w wr a len cap l f b c) (ky vl : ByteArray) :
    Calls Try.prog 30 #[arV (some ⟨b, 0, none⟩) l.length c f, .string ky, .string vl] wr fun e w' => ∃ (po : Option Addr) (n c' : Nat) (F H : Int) (t : Bool), e = .returned (.tuple #[.agg #[.slice po n c', .int .i64 F], .int .i64 H, .bool t]) ∧ (t = true → ∃ (l' : List Sl) (b' : Nat), n = l'.length ∧ po = some ⟨b', 0, none⟩ ∧ OkA l' F ∧ w'.ownsRow wr.heap.size 40 5 (.slice (some ⟨b', 0, none⟩) l'.length c') l'.length (sls l')) ∧ Below wr.heap.size wr w' := by
  refine (specLay_any _ l c f ky vl wr (by have := h.ok.most; omega) h.rd).mono ?_
  rintro e w' ⟨⟨k, b', c', hk, rfl, rfl, hok, h1, h2, h3, ho⟩ | ⟨rfl, hno⟩, hb⟩
  · refine ⟨_, _, _, _, _, true, rfl, fun _ => ⟨l.set k ⟨l[k].gen, true, ky, vl, 0⟩, b', by rw [List.length_set], rfl, hok.lay hk ky vl h1 h2 h3, ?_⟩, hb⟩
    rw [List.length_set]
    exact ho
  · exact ⟨_, _, _, _, _, false, rfl, (fun h => by cases h), hb⟩

/-- A new variable beside it, in block X. -/
structure XtB (wr : World) (A b X : Nat) : Prop where
  blk : Blk wr X 26 [.slice none 0 0, .int .i64 0]
  hA : A < X
  hb : b < X
theorem XtB.new {B g A : Nat} {w wr : World} {a : Option Addr} {len cap : Nat} {l : List Sl} {f : Int} {b c : Nat} (h : StA B g A w wr a len cap l f b c) : XtB (wr.alloc (.cells #[.slice none 0 0, .int .i64 0] 26)) A b wr.heap.size :=
  ⟨Blk.new wr 26 #[.slice none 0 0, .int .i64 0], h.var.lt, (h.own.lt b rfl).2⟩
theorem XtB.later {wr w2 : World} {A b X : Nat} (h : XtB wr A b X) (hb : Below wr.heap.size wr w2) : XtB w2 A b X := ⟨h.blk.below hb h.blk.lt, h.hA, h.hb⟩
theorem XtB.grow {wr w2 : World} {A b X g : Nat} (h : XtB wr A b X) (hg : wr.grownBy w2 (some g)) (hgA : g < A) : XtB w2 A b X := ⟨h.blk.grow hg (by have := h.hA; omega), h.hA, h.hb⟩
theorem XtB.c0 {wr : World} {A b X : Nat} (h : XtB wr A b X) : wr.cell? ⟨X, 0, none⟩ = some (.slice none 0 0) := h.blk.cell 0
theorem XtB.c1 {wr : World} {A b X : Nat} (h : XtB wr A b X) : wr.cell? ⟨X, 1, none⟩ = some (.int .i64 0) := h.blk.cell 1
theorem XtB.fr {wr : World} {A b X : Nat} (h : XtB wr A b X) (j : Nat) : wr.frozen? ⟨X, j, none⟩ = false := h.blk.froz j
theorem StA.gA {B g A : Nat} {w wr : World} {a : Option Addr} {len cap : Nat} {l : List Sl} {f : Int} {b c : Nat} (h : StA B g A w wr a len cap l f b c) : g < A := Nat.lt_trans h.hg h.hA
theorem StA.new {B g A : Nat} {w wr : World} {a : Option Addr} {len cap : Nat} {l : List Sl} {f : Int} {b c : Nat} (h : StA B g A w wr a len cap l f b c) (o : Obj) : StA B g A w (wr.alloc o) a len cap l f b c := h.later ((Below.refl _ _).alloc (Nat.le_refl _) o)
theorem StA.drewS {B g A : Nat} {w wr : World} {a : Option Addr} {len cap : Nat} {l : List Sl} {f : Int} {b c : Nat} (h : StA B g A w wr a len cap l f b c) : StA B g A w wr.drew a len cap l f b c := h.later (Below.refl _ _).drew
theorem StA.far {B g A : Nat} {w wr : World} {a : Option Addr} {len cap : Nat} {l : List Sl} {f : Int} {b c : Nat} (h : StA B g A w wr a len cap l f b c) (X j : Nat) (v : Value) (hX : A < X) (hb : b < X) : StA B g A w (wr.setCell ⟨X, j, none⟩ v) a len cap l f b c := by
  have hA := h.hA
  have hg := h.hg
  refine ⟨h.ok, Blk.far h.var _ _ (by dsimp only; omega), own_far h.own _ _ (fun k hk => by simp [Value.ownBlock] at hk; dsimp only; omega), h.ne, Blk.far h.res _ _ (by dsimp only; omega), ?_, ?_, h.hg, h.hA⟩
  · exact h.drw.keep ((Below.refl _ _).setCell (p := ⟨X, j, none⟩) (show A ≤ X by omega) _) (Nat.le_trans h.drw.cur.1 (by omega)) (by omega)
  · have g1 := h.grown
    refine ⟨g1.os, g1.tape, g1.output, by have := g1.size; simpa [World.setCell] using this, fun k hk hne => ?_⟩
    rw [Below.heap_setCell _ _ _ _ (by dsimp only; omega)]
    exact g1.block k hk hne
theorem StA.fill {B g A : Nat} {w wr : World} {a : Option Addr} {len cap : Nat} {l : List Sl} {f : Int} {b c X : Nat} (h : StA B g A w wr a len cap l f b c) (x : XtB wr A b X) (u v : Value) : StA B g A w ((wr.setCell ⟨X, 0, none⟩ u).setCell ⟨X, 1, none⟩ v) a len cap l f b c := (h.far X 0 u x.hA x.hb).far X 1 v x.hA x.hb
theorem XtB.fill {wr : World} {A b X : Nat} (x : XtB wr A b X) (u v : Value) : Blk ((wr.setCell ⟨X, 0, none⟩ u).setCell ⟨X, 1, none⟩ v) X 26 [u, v] := Blk.set (Blk.set x.blk 0 u) 1 v
theorem own_fill {w : World} {base n c b X : Nat} {e : TypeId} {xs : List Value} (h : w.ownsRow base e 5 (.slice (some ⟨b, 0, none⟩) n c) n xs) (hX : X < base) (u v : Value) : ((w.setCell ⟨X, 0, none⟩ u).setCell ⟨X, 1, none⟩ v).ownsRow base e 5 (.slice (some ⟨b, 0, none⟩) n c) n xs := by
  have hne : ∀ k, (Value.slice (some ⟨b, 0, none⟩) n c).ownBlock = some k → k ≠ X := fun k hk => by have := (h.lt k hk).1; omega
  exact own_far (own_far h ⟨X, 0, none⟩ u hne) ⟨X, 1, none⟩ v hne

theorem StA.done {B g A : Nat} {w wr : World} {a : Option Addr} {len cap : Nat} {l : List Sl} {f : Int} {b c : Nat} (h : StA B g A w wr a len cap l f b c) (u v : Value) : ((wr.setCell ⟨w.heap.size, 0, none⟩ u).setCell ⟨w.heap.size, 1, none⟩ v).ownsRow w.heap.size 40 5 (.slice (some ⟨b, 0, none⟩) l.length c) l.length (sls l) ∧ Drw B ((wr.setCell ⟨w.heap.size, 0, none⟩ u).setCell ⟨w.heap.size, 1, none⟩ v) a len cap g ∧ w.grownBy ((wr.setCell ⟨w.heap.size, 0, none⟩ u).setCell ⟨w.heap.size, 1, none⟩ v) (some g) := by
  have hg := h.hg
  have hne : ∀ k, (Value.slice (some ⟨b, 0, none⟩) l.length c).ownBlock = some k → k ≠ w.heap.size := fun k hk => by have := (h.own.lt k hk).1; omega
  refine ⟨own_base (own_far (own_far h.own ⟨w.heap.size, 0, none⟩ u hne) ⟨w.heap.size, 1, none⟩ v hne) (by omega), ?_, ?_⟩
  · exact h.drw.keep (((Below.refl _ _).setCell (p := ⟨w.heap.size, 0, none⟩) (Nat.le_refl w.heap.size) _).setCell (p := ⟨w.heap.size, 1, none⟩) (Nat.le_refl w.heap.size) _) (Nat.le_trans h.drw.cur.1 (by omega)) hg
  · have g1 := h.grown
    refine ⟨g1.os, g1.tape, g1.output, by have := g1.size; simpa [World.setCell] using this, fun k hk hne => ?_⟩
    rw [Below.heap_setCell _ _ _ _ (by dsimp only; omega), Below.heap_setCell _ _ _ _ (by dsimp only; omega)]
    exact g1.block k hk hne

set_option maxRecDepth 100000 in
set_option maxHeartbeats 4000000 in
theorem arenaD_any {B : Nat} {w : World} {a : Option Addr} {len cap g : Nat} (h : Drw B w a len cap g) :
    Calls Try.prog 36 #[.pointer (some ⟨g, 0, none⟩)] w fun e w' => ∃ (b c : Nat) (l : List Sl) (f : Int), e = .returned (arV (some ⟨b, 0, none⟩) l.length c f) ∧ OkA l f ∧ w'.ownsRow w.heap.size 40 5 (.slice (some ⟨b, 0, none⟩) l.length c) l.length (sls l) ∧ Drw B w' a len cap g ∧ w.grownBy w' (some g) := by
  have hgl := h.lt
  have C1 := hide1 (fun o => below_any (h.later ((Below.refl _ _).alloc (Nat.le_refl _) o)) 9 (by omega))
  have HD := hide1 h
  clear h
  unfold arV
  go_enter Try.func36, Try.ntmps36
  go_wp2_with fail
  refine (C1.out _).mono ?_
  rintro e w1 ⟨x, rfl, hx, _, hD1, hg1⟩
  have hx9 : (x : Int) < 9 := hx (by omega)
  have N1 : Hid (Blk w1 w.heap.size 26 [.slice none 0 0, .int .i64 0]) := Blk.grow (Blk.new w 26 #[.slice none 0 0, .int .i64 0]) hg1 (by omega)
  have G1 : Hid (w.grownBy w1 (some g)) := grow_trans (grow_new ((Below.refl _ _).alloc (Nat.le_refl _) _)) hg1
  have D1 := hide1 hD1
  have s1 : Hid (w.heap.size < w1.heap.size) := N1.out.lt
  clear hx hD1 hg1 C1
  have C2 := hide1 (specNew_any (1 + (x : Int)) w1)
  unfold arV at C2
  go_wp2_with fail
  refine C2.out.mono ?_
  rintro e w2 ⟨⟨m, b, c, hm, m1, m2, rfl, hown⟩ | ⟨rfl, hno⟩, hb2⟩
  · have S0 : Hid (StA B g w2.heap.size w (w2.alloc (.cells #[.slice (some ⟨b, 0, none⟩) m c, .int .i64 0] 26)) a len cap (newL m m) 0 b c) := by
      have hs2 := hb2.size
      have hs1 := s1.out
      have hbb : b < w2.heap.size := (hown.lt b rfl).2
      refine ⟨OkA.new m m1 m2, ?_, ?_, by omega, Blk.more (Blk.below N1.out hb2 N1.out.lt) _, D1.out.later (hb2.alloc hs2 _), grow_trans G1.out (grow_new (hb2.alloc hs2 _)), hgl, by omega⟩
      · rw [newL_length]; exact Blk.new w2 26 #[.slice (some ⟨b, 0, none⟩) m c, .int .i64 0]
      · rw [newL_length]
        exact own_base (own_kept hown ((Below.refl _ _).alloc (Nat.le_refl _) _)) (by omega)
    clear hown hb2 D1 G1 N1 s1 hm C2
    go_wp2
    generalize (w2.alloc (.cells #[.slice (some ⟨b, 0, none⟩) m c, .int .i64 0] 26)) = w3 at S0 ⊢
    generalize w2.heap.size = A at S0 ⊢
    go_loopw [5] (fun iv wr => ∃ (i : Nat) (l : List Sl) (f : Int) (b c : Nat), i ≤ 24 ∧ iv = .int .i64 (i : Int) ∧ Hid (StA B g A w wr a len cap l f b c)) (fun iv _ => 24 - (intOf iv).toNat)
    case atStart => exact ⟨0, _, _, _, _, by omega, rfl, S0⟩
    case round =>
      clear S0 m1 m2
      obtain ⟨i, l, f, b, c, hi, rfl, hS⟩ := hrel
      have n24 := hS.out.ok.most
      have n1 := hS.out.ok.least
      have C3 := hide1 (below_any hS.out.drw 24 (by omega))
      go_wp2_with fail
      refine C3.out.mono ?_
      rintro e w4 ⟨y, rfl, hy, _, hD4, hg4⟩
      have hy24 : (y : Int) < 24 := hy (by omega)
      have S4 := hide1 (hS.out.draw hD4 hg4)
      clear hy hD4 hg4 C3 hS
      by_cases c1 : i < y
      · have q1 : (i : Int) < (y : Int) := by omega
        have v0 := S4.out.v0
        have C5 := hide1 (below_any S4.out.drw (l.length : Int) (by omega))
        go_wp2_with fail
        refine C5.out.mono ?_
        rintro e w5 ⟨k, rfl, hk, _, hD5, hg5⟩
        have S5 := hide1 (S4.out.draw hD5 hg5)
        have hkl : k < l.length := by have := hk (by omega); omega
        have k1 : (k : Int) < (l.length : Int) := by omega
        have v0 := S5.out.v0
        obtain ⟨b0, hb0, _, hsl⟩ := S5.out.rd.at k hkl
        obtain rfl : b = b0 := by simpa using hb0
        obtain ⟨_, y1, _, _, _⟩ := hsl
        have C6 := hide1 (once_any S5.out.drw 2 (by omega))
        clear hk hD5 hg5 C5 S4 hb0
        rcases hu : l[k].used with _ | _
        · rw [hu] at y1
          clear hu C6
          have V01 := hide1 (And.intro S5.out.v0 S5.out.v1)
          go_upto_region 8 with fail
          go_region_held3 (fun w' => w'.cell? ⟨A, 0, none⟩ = some (.slice (some ⟨b, 0, none⟩) l.length c) ∧ w'.cell? ⟨A, 1, none⟩ = some (.int .i64 f)) (first | exact ⟨(SX.fill XB _ _).v0, (SX.fill XB _ _).v1⟩ | exact ⟨(SX.new _).v0, (SX.new _).v1⟩ | exact ⟨SX.v0, SX.v1⟩ | exact ⟨(S5.out.drewS.new _).v0, (S5.out.drewS.new _).v1⟩ | exact V01.out) ((first | (go_at_call 37; refine (key_any S5.out.drewS.drw).mono ?_; rintro e w6 ⟨ky, rfl, kz1, kz2, hD6, hg6⟩; have SX := S5.out.drewS.draw hD6 hg6) | (go_at_call 37; refine (key_any (S5.out.drewS.new _).drw).mono ?_; rintro e w6 ⟨ky, rfl, kz1, kz2, hD6, hg6⟩; have XB : XtB w6 A b w5.heap.size := (XtB.new S5.out.drewS).grow hg6 S5.out.gA; have SX := (S5.out.drewS.new _).draw hD6 hg6) | (go_at_call 38; refine (val_any SX.drw).mono ?_; rintro e w7 ⟨vl, rfl, vz, hD7, hg7⟩; (try have XB := XB.grow hg7 SX.gA); have SX := SX.draw hD7 hg7) | (go_at_call 38; refine (val_any (SX.new _).drw).mono ?_; rintro e w7 ⟨vl, rfl, vz, hD7, hg7⟩; have XB := (XtB.new SX).grow hg7 SX.gA; have SX := (SX.new _).draw hD7 hg7) | (go_at_call 30; refine (SX.lay ky vl).mono ?_; rintro e w8 ⟨po, pn, pc, F, H, t, rfl, ht, hb8⟩; have hbA := SX.var.lt; (try have hbX := XB.blk.lt); (try (have XB := XB.later hb8; have xc0 := XB.c0; have xc1 := XB.c1; have xcf := XB.fr)); have SX := SX.later hb8) | (go_at_call 30; refine ((SX.new _).lay ky vl).mono ?_; rintro e w8 ⟨po, pn, pc, F, H, t, rfl, ht, hb8⟩; have XB := XtB.new SX; have SX := SX.new (.cells #[.slice none 0 0, .int .i64 0] 26); have hbA := SX.var.lt; have hbX := XB.blk.lt; have XB := XB.later hb8; have xc0 := XB.c0; have xc1 := XB.c1; have xcf := XB.fr; have SX := SX.later hb8)))
          all_goals
            first
            | (have S9 := hide1 (SX.fill XB (.slice po pn pc) (.int .i64 F)); have XF := hide1 (XB.fill (.slice po pn pc) (.int .i64 F)); have HT9 : Hid (t = true → ∃ (l' : List Sl) (b' : Nat), pn = l'.length ∧ po = some ⟨b', 0, none⟩ ∧ OkA l' F ∧ ∃ base, A < base ∧ ((w8.setCell ⟨_, 0, none⟩ (.slice po pn pc)).setCell ⟨_, 1, none⟩ (.int .i64 F)).ownsRow base 40 5 (.slice (some ⟨b', 0, none⟩) l'.length pc) l'.length (sls l')) := (fun e => by obtain ⟨l', b', e1, e2, hok, ho⟩ := ht e; exact ⟨l', b', e1, e2, hok, _, hbA, own_fill ho hbX _ _⟩); clear hbX XB xc0 xc1 xcf ht; generalize ((w8.setCell ⟨_, 0, none⟩ (.slice po pn pc)).setCell ⟨_, 1, none⟩ (.int .i64 F)) = w9 at S9 XF HT9 ⊢)
            | (have S9 := hide1 (SX.new (.cells #[.slice po pn pc, .int .i64 F] 26)); have XF := hide1 (Blk.new w8 26 #[.slice po pn pc, .int .i64 F]); have HT9 : Hid (t = true → ∃ (l' : List Sl) (b' : Nat), pn = l'.length ∧ po = some ⟨b', 0, none⟩ ∧ OkA l' F ∧ ∃ base, A < base ∧ (w8.alloc (.cells #[.slice po pn pc, .int .i64 F] 26)).ownsRow base 40 5 (.slice (some ⟨b', 0, none⟩) l'.length pc) l'.length (sls l')) := (fun e => by obtain ⟨l', b', e1, e2, hok, ho⟩ := ht e; exact ⟨l', b', e1, e2, hok, _, hbA, own_kept ho ((Below.refl _ _).alloc (Nat.le_refl _) _)⟩); clear ht; generalize (w8.alloc (.cells #[.slice po pn pc, .int .i64 F] 26)) = w9 at S9 XF HT9 ⊢)
            have z0 : w9.cell? _ = some (.slice po pn pc) := XF.out.cell 0
            have z1 : w9.cell? _ = some (.int .i64 F) := XF.out.cell 1
            clear XF
            rcases t with _ | _
            · clear HT9
              go_wp2
              go_roundw
              case rel => exact ⟨i + 1, l, f, b, c, by omega, by go_num, S9⟩
              case measure => simp [intOf]; omega
            · obtain ⟨l', b', rfl, rfl, hok', base, hba, hown'⟩ := HT9.out rfl
              have S10 := hide1 (S9.out.put hok' hown' hba)
              have t0 := S9.out.v0
              have t1 := S9.out.v1
              have ft : ∀ j, w9.frozen? ⟨A, j, none⟩ = false := fun j => S9.out.var.froz j
              clear HT9 hok' hown' S9
              go_wp2
              go_roundw
              case rel => exact ⟨i + 1, l', F, b', pc, by omega, by go_num, S10⟩
              case measure => simp [intOf]; omega
        · rw [hu] at y1
          go_wp2_with fail
          refine C6.out.mono ?_
          rintro e w5b ⟨qb, rfl, hD6, hg6⟩
          have S6 := hide1 (S5.out.draw hD6 hg6)
          clear hD6 hg6 C6 S5 y1
          rcases qb with _ | _
          · clear hu
            have V01 := hide1 (And.intro S6.out.v0 S6.out.v1)
            go_upto_region 8 with fail
            go_region_held3 (fun w' => w'.cell? ⟨A, 0, none⟩ = some (.slice (some ⟨b, 0, none⟩) l.length c) ∧ w'.cell? ⟨A, 1, none⟩ = some (.int .i64 f)) (first | exact ⟨(SX.fill XB _ _).v0, (SX.fill XB _ _).v1⟩ | exact ⟨(SX.new _).v0, (SX.new _).v1⟩ | exact ⟨SX.v0, SX.v1⟩ | exact ⟨(S6.out.drewS.new _).v0, (S6.out.drewS.new _).v1⟩ | exact V01.out) ((first | (go_at_call 37; refine (key_any S6.out.drewS.drw).mono ?_; rintro e w6 ⟨ky, rfl, kz1, kz2, hD6, hg6⟩; have SX := S6.out.drewS.draw hD6 hg6) | (go_at_call 37; refine (key_any (S6.out.drewS.new _).drw).mono ?_; rintro e w6 ⟨ky, rfl, kz1, kz2, hD6, hg6⟩; have XB : XtB w6 A b w5b.heap.size := (XtB.new S6.out.drewS).grow hg6 S6.out.gA; have SX := (S6.out.drewS.new _).draw hD6 hg6) | (go_at_call 38; refine (val_any SX.drw).mono ?_; rintro e w7 ⟨vl, rfl, vz, hD7, hg7⟩; (try have XB := XB.grow hg7 SX.gA); have SX := SX.draw hD7 hg7) | (go_at_call 38; refine (val_any (SX.new _).drw).mono ?_; rintro e w7 ⟨vl, rfl, vz, hD7, hg7⟩; have XB := (XtB.new SX).grow hg7 SX.gA; have SX := (SX.new _).draw hD7 hg7) | (go_at_call 30; refine (SX.lay ky vl).mono ?_; rintro e w8 ⟨po, pn, pc, F, H, t, rfl, ht, hb8⟩; have hbA := SX.var.lt; (try have hbX := XB.blk.lt); (try (have XB := XB.later hb8; have xc0 := XB.c0; have xc1 := XB.c1; have xcf := XB.fr)); have SX := SX.later hb8) | (go_at_call 30; refine ((SX.new _).lay ky vl).mono ?_; rintro e w8 ⟨po, pn, pc, F, H, t, rfl, ht, hb8⟩; have XB := XtB.new SX; have SX := SX.new (.cells #[.slice none 0 0, .int .i64 0] 26); have hbA := SX.var.lt; have hbX := XB.blk.lt; have XB := XB.later hb8; have xc0 := XB.c0; have xc1 := XB.c1; have xcf := XB.fr; have SX := SX.later hb8)))
            all_goals
              first
              | (have S9 := hide1 (SX.fill XB (.slice po pn pc) (.int .i64 F)); have XF := hide1 (XB.fill (.slice po pn pc) (.int .i64 F)); have HT9 : Hid (t = true → ∃ (l' : List Sl) (b' : Nat), pn = l'.length ∧ po = some ⟨b', 0, none⟩ ∧ OkA l' F ∧ ∃ base, A < base ∧ ((w8.setCell ⟨_, 0, none⟩ (.slice po pn pc)).setCell ⟨_, 1, none⟩ (.int .i64 F)).ownsRow base 40 5 (.slice (some ⟨b', 0, none⟩) l'.length pc) l'.length (sls l')) := (fun e => by obtain ⟨l', b', e1, e2, hok, ho⟩ := ht e; exact ⟨l', b', e1, e2, hok, _, hbA, own_fill ho hbX _ _⟩); clear hbX XB xc0 xc1 xcf ht; generalize ((w8.setCell ⟨_, 0, none⟩ (.slice po pn pc)).setCell ⟨_, 1, none⟩ (.int .i64 F)) = w9 at S9 XF HT9 ⊢)
              | (have S9 := hide1 (SX.new (.cells #[.slice po pn pc, .int .i64 F] 26)); have XF := hide1 (Blk.new w8 26 #[.slice po pn pc, .int .i64 F]); have HT9 : Hid (t = true → ∃ (l' : List Sl) (b' : Nat), pn = l'.length ∧ po = some ⟨b', 0, none⟩ ∧ OkA l' F ∧ ∃ base, A < base ∧ (w8.alloc (.cells #[.slice po pn pc, .int .i64 F] 26)).ownsRow base 40 5 (.slice (some ⟨b', 0, none⟩) l'.length pc) l'.length (sls l')) := (fun e => by obtain ⟨l', b', e1, e2, hok, ho⟩ := ht e; exact ⟨l', b', e1, e2, hok, _, hbA, own_kept ho ((Below.refl _ _).alloc (Nat.le_refl _) _)⟩); clear ht; generalize (w8.alloc (.cells #[.slice po pn pc, .int .i64 F] 26)) = w9 at S9 XF HT9 ⊢)
              have z0 : w9.cell? _ = some (.slice po pn pc) := XF.out.cell 0
              have z1 : w9.cell? _ = some (.int .i64 F) := XF.out.cell 1
              clear XF
              rcases t with _ | _
              · clear HT9
                go_wp2
                go_roundw
                case rel => exact ⟨i + 1, l, f, b, c, by omega, by go_num, S9⟩
                case measure => simp [intOf]; omega
              · obtain ⟨l', b', rfl, rfl, hok', base, hba, hown'⟩ := HT9.out rfl
                have S10 := hide1 (S9.out.put hok' hown' hba)
                have t0 := S9.out.v0
                have t1 := S9.out.v1
                have ft : ∀ j, w9.frozen? ⟨A, j, none⟩ = false := fun j => S9.out.var.froz j
                clear HT9 hok' hown' S9
                go_wp2
                go_roundw
                case rel => exact ⟨i + 1, l', F, b', pc, by omega, by go_num, S10⟩
                case measure => simp [intOf]; omega
          · have HU := hide1 hu
            have V01 := hide1 (And.intro S6.out.v0 S6.out.v1)
            have v0 := S6.out.v0
            have v1 := S6.out.v1
            have HOL := hide1 (S6.out.ok.lift hkl hu)
            clear hu
            go_upto_region 7 with fail
            go_region_with (first | (go_at_call 34; refine (S6.out.drewS.handle k hkl HU.out).mono ?_; rintro e w6 ⟨rfl, hb6⟩; have SX := S6.out.drewS.later hb6; have sx0 := SX.v0; have sx1 := SX.v1) | (go_at_call 32; refine (SX.lift k hkl HU.out).mono ?_; rintro e w7 ⟨b', c', rfl, hown', hb7⟩; have hbA := SX.var.lt; have SX := SX.later hb7; have sx0 := SX.v0; have sx1 := SX.v1; have sxf := SX.var.froz))
            all_goals
              have S9 := hide1 (SX.put (l' := l.set k (lifted l[k] f)) (f' := (k : Int)) HOL.out (by rw [List.length_set]; exact hown') hbA)
              rw [List.length_set] at S9
              clear sx0 sx1 sxf SX hown'
              go_wp2
              go_roundw
              case rel => exact ⟨i + 1, _, _, b', c', by omega, by go_num, S9⟩
              case measure => simp [intOf]; omega
      · have q1 : decide ((i : Int) < (y : Int)) = false := decide_eq_false (by omega)
        have C5 := hide1 (once_any S4.out.drw 12 (by omega))
        go_wp2_with fail
        refine C5.out.mono ?_
        rintro e w5 ⟨qb, rfl, hD5, hg5⟩
        have S5 := hide1 (S4.out.draw hD5 hg5)
        clear hD5 hg5 C5 S4
        rcases qb with _ | _
        · have v0 := S5.out.v0
          have v1 := S5.out.v1
          have r0 : w5.cell? ⟨w.heap.size, 0, none⟩ = some (.slice none 0 0) := S5.out.res.cell 0
          have r1 : w5.cell? ⟨w.heap.size, 1, none⟩ = some (.int .i64 0) := S5.out.res.cell 1
          have rf : ∀ j, w5.frozen? ⟨w.heap.size, j, none⟩ = false := fun j => S5.out.res.froz j
          have HRES : Hid (w5.heap[w.heap.size]? = some (.cells #[.slice none 0 0, .int .i64 0] 26 (0, 0))) := S5.out.res
          go_wp2
          refine bodyPost_ret (results_cell_row Try.results36 _ _ w.heap.size 26 #[.slice (some ⟨b, 0, none⟩) l.length c, .int .i64 f] (0, 0) _ rfl (heap2 HRES.out _ _) Try.underlying26 rfl (by kernel_rfl)) rfl ?_
          exact ⟨b, c, l, f, rfl, S5.out.ok, S5.out.done _ _⟩
        · have v0 := S5.out.v0
          have v1 := S5.out.v1
          have C7 := hide1 (specCopy_any (some ⟨b, 0, none⟩) l c f w5 n24 n1 S5.out.rd)
          unfold arV at C7
          go_wp2_with fail
          refine C7.out.mono ?_
          rintro e w6 ⟨b', c', rfl, hown', hb6⟩
          have S6 := hide1 (S5.out.later hb6)
          have t0 := S6.out.v0
          have t1 := S6.out.v1
          have tf := S6.out.var.froz
          have S7 := hide1 (S6.out.put S6.out.ok hown' S5.out.var.lt)
          clear hown' hb6 C7 v0 v1
          go_upto_region 13 with fail
          generalize ((w6.setCell ⟨A, 0, none⟩ (.slice (some ⟨b', 0, none⟩) l.length c')).setCell ⟨A, 1, none⟩ (.int .i64 f)) = w7 at S7 ⊢
          clear t0 t1 tf S6 S5
          have V01 := hide1 S7.out.v0
          have v0 := S7.out.v0
          go_region_held3 (fun w' => w'.cell? ⟨A, 0, none⟩ = some (.slice (some ⟨b', 0, none⟩) l.length c')) (first | exact (Blk.far SX.var ⟨b', k * 5, none⟩ _ (fun e => SX.ne e.symm)).cell 0 | exact SX.v0 | exact V01.out) ((go_at_call 54; refine (below_any S7.out.drewS.drw (l.length : Int) (by omega)).mono ?_; rintro e w8 ⟨k, rfl, hk, _, hD8, hg8⟩; have hkl : k < l.length := (by have := hk (by omega); omega); have k1 : (k : Int) < (l.length : Int) := (by omega); clear hk; have SX := S7.out.drewS.draw hD8 hg8; obtain ⟨u0, hu0⟩ := own_some SX.own (k * 5) (by omega); have fu := SX.own.frozenAt (k * 5)))
          have S9 := hide1 (SX.gen k hkl 41666665 (by omega) (by omega))
          clear SX hD8 hg8 hu0 fu S7 V01
          generalize (w8.setCell ⟨b', k * 5, none⟩ (.int .i64 41666665)) = w9 at S9 ⊢
          have hll : Hid ((l.set k { l[k] with gen := 41666665 }).length = l.length) := by show _ = _; rw [List.length_set]
          generalize l.set k { l[k] with gen := 41666665 } = L at S9 hll
          have v0 := S9.out.v0
          rw [hll.out] at v0
          have v1 := S9.out.v1
          have r0 : w9.cell? ⟨w.heap.size, 0, none⟩ = some (.slice none 0 0) := S9.out.res.cell 0
          have r1 : w9.cell? ⟨w.heap.size, 1, none⟩ = some (.int .i64 0) := S9.out.res.cell 1
          have rf : ∀ j, w9.frozen? ⟨w.heap.size, j, none⟩ = false := fun j => S9.out.res.froz j
          have HRES : Hid (w9.heap[w.heap.size]? = some (.cells #[.slice none 0 0, .int .i64 0] 26 (0, 0))) := S9.out.res
          go_wp2
          refine bodyPost_ret (results_cell_row Try.results36 _ _ w.heap.size 26 #[.slice (some ⟨b', 0, none⟩) l.length c', .int .i64 f] (0, 0) _ rfl (heap2 HRES.out _ _) Try.underlying26 rfl (by kernel_rfl)) rfl ?_
          have hd := S9.out.done (.slice (some ⟨b', 0, none⟩) l.length c') (.int .i64 f)
          exact ⟨b', c', L, f, by rw [hll.out], S9.out.ok, hd⟩
  · exact absurd ⟨by omega, by omega⟩ hno
end Go.Proofs.Ytpckbhficjjogaa
