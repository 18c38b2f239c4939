/- The draw of a right sketch: whatever bytes are drawn from. -/
import Derived.Test.YthigmdocfjhdlaaSkN
import Derived.Test.YthigmdocfjhdlaaDrawA
import Derived.Deep.Cut
namespace Go.Proofs.Ythigmdocfjhdlaa
open Go.RowKit

theorem big5_no (a : Option Addr) (len cap : Nat) (w : World) (h : len ≤ 1048576) : Calls Try.prog 6 #[.slice a len cap] w fun e w' => e = .returned (.bool false) ∧ w = w' := by
  have q : decide ((1048576 : Int) < (len : Int)) = false := by simp; omega
  go_enter Try.func6, Try.ntmps6
  go_wp2
  go_ret
  exact ⟨rfl, rfl⟩
theorem big5_yes (a : Option Addr) (len cap : Nat) (w : World) (h : ¬ len ≤ 1048576) : Calls Try.prog 6 #[.slice a len cap] w fun e w' => e = .returned (.bool true) ∧ w = w' := by
  have q : decide ((1048576 : Int) < (len : Int)) = true := by simp; omega
  go_enter Try.func6, Try.ntmps6
  go_wp2
  go_ret
  exact ⟨rfl, rfl⟩

theorem okK_new : OkK (List.replicate 48 0) 0 := ⟨List.length_replicate .., by omega, by omega, fun i hi => by rw [List.getElem_replicate]; omega⟩
/-- What the draw of a sketch holds. -/
structure StK (B g A : Nat) (w wr : World) (a : Option Addr) (len cap : Nat) (l : List Int) (ad : Int) (ao : Option Addr) (ca : Nat) : Prop where
  ok : OkK l ad
  var : Blk wr A 28 [.slice ao l.length ca, .int .i64 ad]
  own : wr.ownsRow (w.heap.size + 1) 3 1 (.slice ao l.length ca) l.length (iz l)
  ne : ∀ k, (Value.slice ao l.length ca).ownBlock = some k → k ≠ A
  res : Blk wr w.heap.size 28 [.slice none 0 0, .int .i64 0]
  drw : Drw B wr a len cap g
  grown : w.grownBy wr (some g)
  hg : g < w.heap.size
  hA : w.heap.size < A
theorem StK.draw {B g A : Nat} {w wr w2 : World} {a : Option Addr} {len cap : Nat} {l : List Int} {ad : Int} {ao : Option Addr} {ca : Nat} (h : StK B g A w wr a len cap l ad ao ca) (hd : Drw B w2 a len cap g) (hg : wr.grownBy w2 (some g)) : StK B g A w w2 a len cap l ad ao ca := by
  have h1 := h.hg
  have h2 := h.hA
  exact ⟨h.ok, gblk hg h.var (fun e => by injection e with e; omega), gown hg h.own (fun k hk e => by have := (h.own.lt k hk).1; injection e with e; omega), h.ne, gblk hg h.res (fun e => by injection e with e; omega), hd, gtrans h.grown hg, h.hg, h.hA⟩
theorem StK.later {B g A : Nat} {w wr w2 : World} {a : Option Addr} {len cap : Nat} {l : List Int} {ad : Int} {ao : Option Addr} {ca : Nat} (h : StK B g A w wr a len cap l ad ao ca) (hb : Below wr.heap.size wr w2) : StK B g A w w2 a len cap l ad ao ca :=
  ⟨h.ok, h.var.below hb h.var.lt, own_kept h.own hb, h.ne, h.res.below hb h.res.lt, h.drw.later hb, gtrans h.grown (gnew hb), h.hg, h.hA⟩
theorem StK.drewS {B g A : Nat} {w wr : World} {a : Option Addr} {len cap : Nat} {l : List Int} {ad : Int} {ao : Option Addr} {ca : Nat} (h : StK B g A w wr a len cap l ad ao ca) : StK B g A w wr.drew a len cap l ad ao ca := h.later (Below.refl _ _).drew
theorem far_drw {B g : Nat} {w : World} {a : Option Addr} {len cap : Nat} (h : Drw B w a len cap g) (A j : Nat) (v : Value) (hA : g < A) : Drw B (w.setCell ⟨A, j, none⟩ v) a len cap g :=
  h.keep (B' := g + 1) ((Below.refl _ _).setCell (p := ⟨A, j, none⟩) (by dsimp only; omega) v) (by have := h.cur.1; omega) (by omega)
theorem grow_far {w wr : World} {g A j : Nat} (h : w.grownBy wr (some g)) (hA : w.heap.size < A) (v : Value) : w.grownBy (wr.setCell ⟨A, j, none⟩ v) (some g) :=
  ⟨h.os, h.tape, h.output, by have := h.size; simpa using this, fun k hk hne => by rw [Below.heap_setCell _ _ _ _ (by dsimp only; omega)]; exact h.block k hk hne⟩
theorem grow_res {w wr : World} {g : Nat} (h : w.grownBy wr (some g)) (j : Nat) (v : Value) : w.grownBy (wr.setCell ⟨w.heap.size, j, none⟩ v) (some g) :=
  ⟨h.os, h.tape, h.output, by have := h.size; simpa using this, fun k hk hne => by rw [Below.heap_setCell _ _ _ _ (by dsimp only; omega)]; exact h.block k hk hne⟩
theorem resK2 {P : Program} {fn : Func} {p u : Tmp} {ty : TypeId} (h : fn.results = #[.cell p ty, .tmp u]) (tmps : Array Value) (w : World) (g : Nat) (t : TypeId) (cs : Array Value) (fr : Nat × Nat) (d : TypeDesc)
    (hp : tmps.getD p undef = .pointer (some ⟨g, 0, none⟩)) (hg : w.heap[g]? = some (.cells cs t fr))
    (hu : P.underlying ty = some d) (hd : (match d with | .struct _ | .array _ _ => true | _ => false) = true) (hi : (P.info? ty).map (·.size) = some cs.size) :
    (results fn tmps).run P w = .ok (.tuple #[.agg cs, tmps.getD u undef]) w := by
  have hp' : tmps[p]?.getD undef = .pointer (some ⟨g, 0, none⟩) := by simpa using hp
  simp [results, h, hp', asAddr, run_loadVar_row w g t ty cs fr d hg hu hd hi]
/-- The variable is set anew. -/
theorem StK.put {B g A : Nat} {w wr : World} {a : Option Addr} {len cap : Nat} {l L : List Int} {ad M : Int} {ao p : Option Addr} {ca c base : Nat} (h : StK B g A w wr a len cap l ad ao ca) (ho : OkK L M) (o1 : wr.ownsRow base 3 1 (.slice p L.length c) L.length (iz L)) (hb : A < base) :
    StK B g A w ((wr.setCell ⟨A, 0, none⟩ (.slice p L.length c)).setCell ⟨A, 1, none⟩ (.int .i64 M)) a len cap L M p c := by
  have hg := h.hg
  have hA := h.hA
  have n1 : ∀ k, (Value.slice p L.length c).ownBlock = some k → k ≠ A := fun k hk => by have := (o1.lt k hk).1; omega
  exact ⟨ho, Blk.set (Blk.set h.var 0 _) 1 _, own_base (own_far (own_far o1 _ _ n1) _ _ n1) (by omega), n1, (h.res.far _ _ (by dsimp only; omega)).far _ _ (by dsimp only; omega), far_drw (far_drw h.drw _ _ _ (by omega)) _ _ _ (by omega), grow_far (grow_far h.grown hA _) hA _, h.hg, h.hA⟩
theorem StK.putAd {B g A : Nat} {w wr : World} {a : Option Addr} {len cap : Nat} {l : List Int} {ad M : Int} {ao : Option Addr} {ca : Nat} (h : StK B g A w wr a len cap l ad ao ca) (h1 : 0 ≤ M) (h2 : M ≤ 99) : StK B g A w (wr.setCell ⟨A, 1, none⟩ (.int .i64 M)) a len cap l M ao ca := by
  have hg := h.hg
  have hA := h.hA
  exact ⟨⟨h.ok.1, h1, h2, h.ok.2.2.2⟩, Blk.set h.var 1 _, own_far h.own _ _ h.ne, h.ne, h.res.far _ _ (by dsimp only; omega), far_drw h.drw _ _ _ (by omega), grow_far h.grown hA _, h.hg, h.hA⟩
theorem StK.cnt {B g A : Nat} {w wr : World} {a : Option Addr} {len cap : Nat} {l : List Int} {ad : Int} {ao : Option Addr} {ca : Nat} (h : StK B g A w wr a len cap l ad ao ca) (key : ByteArray) (hk : key.size ≤ 12) :
    Calls Try.prog 34 #[.agg #[.slice ao l.length ca, .int .i64 ad], .string key] wr fun e w' => ∃ (p : Option Addr) (c : Nat) (L : List Int) (M : Int), e = .returned (.agg #[.slice p L.length c, .int .i64 M]) ∧ OkK L M ∧ w'.ownsRow wr.heap.size 3 1 (.slice p L.length c) L.length (iz L) ∧ Below wr.heap.size wr w' := by
  refine (specCount_any ao l ca ad key wr (by omega) (by rw [h.ok.1]; omega) (rdZ_of_own h.own)).mono ?_
  rintro e w' ⟨p, c, rfl, ho, hb⟩
  have hok := h.ok.cnt key
  rw [cntR_yes h.ok] at ho ⊢
  exact ⟨p, c, _, _, rfl, hok, ho, hb⟩
def pk3 (j : Nat) : Int := if j = 0 then 0 else if j = 1 then 98 else 99
theorem pk3_in (j : Nat) : 0 ≤ pk3 j ∧ pk3 j ≤ 99 := by unfold pk3; split <;> (try split) <;> omega
theorem pick5_any {B : Nat} {w : World} {a : Option Addr} {len cap g : Nat} (h : Drw B w a len cap g) :
    Calls Try.prog 36 #[.pointer (some ⟨g, 0, none⟩), .slice (some ⟨w.heap.size, 0, none⟩) 3 3] (w.alloc (.cells #[.int .i64 0, .int .i64 98, .int .i64 99] 3)) fun e w' => ∃ z : Int, e = .returned (.int .i64 z) ∧ (0 ≤ z ∧ z ≤ 99) ∧ Drw B w' a len cap g ∧ w.grownBy w' (some g) := by
  refine (pickInt_any (h.later ((Below.refl _ _).alloc (Nat.le_refl _) _)) w.heap.size 3 3 (by omega) (by omega) (by have := h.lt; omega) pk3 (fun j hj => ?_) (by rw [World.size_alloc]; omega)).mono ?_
  · rw [World.cell?_alloc_at _ _ _ _ rfl]
    match j, hj with
    | 0, _ => rfl
    | 1, _ => rfl
    | 2, _ => rfl
  · rintro e w2 ⟨j, rfl, h2, hb2⟩
    exact ⟨_, rfl, pk3_in j, h2, gtrans (gnew ((Below.refl _ _).alloc (Nat.le_refl _) _)) hb2⟩

set_option maxRecDepth 100000 in
set_option maxHeartbeats 4000000 in
theorem sketchD_any {B : Nat} {w : World} {a : Option Addr} {len cap g : Nat} (h : Drw B w a len cap g) :
    Calls Try.prog 27 #[.pointer (some ⟨g, 0, none⟩)] w fun e w' => ∃ (l : List Int) (ad : Int) (ao : Option Addr) (ca : Nat), e = .returned (.agg #[.slice ao l.length ca, .int .i64 ad]) ∧ OkK l ad ∧ w'.ownsRow (w.heap.size + 1) 3 1 (.slice ao l.length ca) l.length (iz l) ∧ Drw B w' a len cap g ∧ w.grownBy w' (some g) := by
  have hgw := h.lt
  have F0 : Hid (Blk (w.alloc (.cells #[.slice none 0 0, .int .i64 0] 28)) w.heap.size 28 [.slice none 0 0, .int .i64 0] ∧ Below w.heap.size w (w.alloc (.cells #[.slice none 0 0, .int .i64 0] 28)) ∧ (w.alloc (.cells #[.slice none 0 0, .int .i64 0] 28)).heap.size = w.heap.size + 1 ∧ Drw B (w.alloc (.cells #[.slice none 0 0, .int .i64 0] 28)) a len cap g) := ⟨Blk.new w _ _, (Below.refl _ _).alloc (Nat.le_refl _) _, World.size_alloc _ _, h.later ((Below.refl _ _).alloc (Nat.le_refl _) _)⟩
  have CN := hide1 (fun w => specSNew_any w)
  clear h
  go_enter Try.func27, Try.ntmps27
  go_wp2_with fail
  generalize (w.alloc (.cells #[.slice none 0 0, .int .i64 0] 28)) = w0 at F0 ⊢
  obtain ⟨R0, B0, S0, D0⟩ := F0.out
  refine (CN.out w0).mono ?_
  rintro e w1 ⟨p0, c0, rfl, ho, hb⟩
  have SK : Hid (StK B g w1.heap.size w (w1.alloc (.cells #[.slice p0 48 c0, .int .i64 0] 28)) a len cap (List.replicate 48 0) 0 p0 c0) := by
    have s1 := hb.size
    have ho' : w1.ownsRow w0.heap.size 3 1 (.slice p0 (List.replicate 48 (0 : Int)).length c0) (List.replicate 48 (0 : Int)).length (iz (List.replicate 48 0)) := ho
    refine ⟨okK_new, Blk.new w1 _ _, own_base (ho'.alloc _) (by omega), fun k hk => ?_, (R0.below hb R0.lt).more _, (D0.later hb).later ((Below.refl _ _).alloc (Nat.le_refl _) _), gnew ((B0.trans (hb.mono B0.size)).alloc (by omega) _), hgw, by omega⟩
    have := ho'.lt k hk
    omega
  clear ho hb R0 B0 S0 D0 F0 CN
  unfold skV newK
  dsimp only
  rw [List.length_replicate]
  go_wp2
  generalize w1.alloc (.cells #[.slice p0 48 c0, .int .i64 0] 28) = w2 at SK ⊢
  generalize w1.heap.size = A at SK ⊢
  go_loopw [4] (fun iv wr => ∃ (i : Nat) (l : List Int) (ad : Int) (ao : Option Addr) (ca : Nat), i ≤ 60 ∧ iv = .int .i64 (i : Int) ∧ Hid (StK B g A w wr a len cap l ad ao ca)) (fun iv _ => 60 - (intOf iv).toNat)
  case atStart => exact ⟨0, _, _, _, _, by omega, rfl, SK⟩
  case round =>
    obtain ⟨i, l, ad, ao, ca, hi, rfl, hS⟩ := hrel
    go_wp2_with fail
    refine (below_any hS.out.drw 60 (by omega)).mono ?_
    rintro e w3 ⟨x, rfl, hx, _, hD3, hg3⟩
    have hx60 : x < 60 := by have := hx (by omega); omega
    have S3 := hide1 (hS.out.draw hD3 hg3)
    clear hx hD3 hg3 hS
    by_cases hlt : i < x
    · have k1 : decide ((i : Int) < (x : Int)) = true := by simp; omega
      have v0 : w3.cell? ⟨A, 0, none⟩ = some (.slice ao l.length ca) := S3.out.var.cell 0
      have v1 : w3.cell? ⟨A, 1, none⟩ = some (.int .i64 ad) := S3.out.var.cell 1
      go_upto_region 5 with fail
      go_region_with (first | (go_at_call 18; refine (key_any S3.out.drewS.drw).mono ?_; rintro e w6 ⟨z, rfl, hz1, hz2, hD6, hg6⟩; have SX := S3.out.drewS.draw hD6 hg6; have sx0 : w6.cell? ⟨A, 0, none⟩ = some (.slice ao l.length ca) := SX.var.cell 0; have sx1 : w6.cell? ⟨A, 1, none⟩ = some (.int .i64 ad) := SX.var.cell 1) | (go_at_call 34; refine (SX.cnt z hz2).mono ?_; rintro e w8 ⟨p, c, L, M, rfl, hok', ho1, hb8⟩; have hbA := SX.var.lt; have SX := SX.later hb8; have sx0 : w8.cell? ⟨A, 0, none⟩ = some (.slice ao l.length ca) := SX.var.cell 0; have sx1 : w8.cell? ⟨A, 1, none⟩ = some (.int .i64 ad) := SX.var.cell 1; have sxf := SX.var.froz))
      all_goals
        have S9 := hide1 (SX.put hok' ho1 hbA)
        clear sx0 sx1 sxf SX hok' ho1
        go_wp2
        go_roundw
        case rel => exact ⟨i + 1, L, M, p, c, by omega, by go_num, S9⟩
        case measure => simp [intOf]; omega
    · have k1 : decide ((i : Int) < (x : Int)) = false := by simp; omega
      go_wp2_with fail
      refine (once_any S3.out.drw 4 (by omega)).mono ?_
      rintro e w4 ⟨t, rfl, hD4, hg4⟩
      have S4 := hide1 (S3.out.draw hD4 hg4)
      clear hD4 hg4 S3
      rcases t with _ | _
      · have hw4 := hide1 hgw
        have u0 : w4.cell? ⟨A, 0, none⟩ = some (.slice ao l.length ca) := S4.out.var.cell 0
        have u1 : w4.cell? ⟨A, 1, none⟩ = some (.int .i64 ad) := S4.out.var.cell 1
        have y0 : w4.cell? ⟨w.heap.size, 0, none⟩ = some (.slice none 0 0) := S4.out.res.cell 0
        have y1 : w4.cell? ⟨w.heap.size, 1, none⟩ = some (.int .i64 0) := S4.out.res.cell 1
        have yf : ∀ j, w4.frozen? ⟨w.heap.size, j, none⟩ = false := fun j => S4.out.res.froz j
        have HH := hide1 (Blk.set (Blk.set S4.out.res 0 (.slice ao l.length ca)) 1 (.int .i64 ad))
        have HO := hide1 (own_far (own_far S4.out.own ⟨w.heap.size, 0, none⟩ (.slice ao l.length ca) (fun k hk => by have := (S4.out.own.lt k hk).1; dsimp only; omega)) ⟨w.heap.size, 1, none⟩ (.int .i64 ad) (fun k hk => by have := (S4.out.own.lt k hk).1; dsimp only; omega))
        have HD := hide1 (far_drw (far_drw S4.out.drw w.heap.size 0 (.slice ao l.length ca) hgw) w.heap.size 1 (.int .i64 ad) hgw)
        have HG := hide1 (grow_res (grow_res S4.out.grown 0 (.slice ao l.length ca)) 1 (.int .i64 ad))
        have HK := hide1 S4.out.ok
        clear S4
        go_wp2
        refine bodyPost_ret (results_cell_row Try.results27 _ _ w.heap.size 28 #[.slice ao l.length ca, .int .i64 ad] (0, 0) _ rfl HH.out Try.underlying28 rfl (by kernel_rfl)) rfl ?_
        exact ⟨l, ad, ao, ca, rfl, HK.out, HO.out, HD.out, HG.out⟩
      · have C5 := hide1 (pick5_any S4.out.drw)
        go_wp2_with fail
        refine C5.out.mono ?_
        rintro e w5 ⟨z, rfl, hz, hD5, hg5⟩
        have S5 := hide1 (S4.out.draw hD5 hg5)
        have t1 : w5.cell? ⟨A, 1, none⟩ = some (.int .i64 ad) := S5.out.var.cell 1
        have tf : ∀ j, w5.frozen? ⟨A, j, none⟩ = false := fun j => S5.out.var.froz j
        have S6 := hide1 (S5.out.putAd hz.1 hz.2)
        clear hD5 hg5 C5 hz
        go_upto_region 8 with fail
        generalize w5.setCell ⟨A, 1, none⟩ (.int .i64 z) = w6 at S6 ⊢
        clear t1 tf S5 S4
        have u0 : w6.cell? ⟨A, 0, none⟩ = some (.slice ao l.length ca) := S6.out.var.cell 0
        have u1 : w6.cell? ⟨A, 1, none⟩ = some (.int .i64 z) := S6.out.var.cell 1
        have y0 : w6.cell? ⟨w.heap.size, 0, none⟩ = some (.slice none 0 0) := S6.out.res.cell 0
        have y1 : w6.cell? ⟨w.heap.size, 1, none⟩ = some (.int .i64 0) := S6.out.res.cell 1
        have yf : ∀ j, w6.frozen? ⟨w.heap.size, j, none⟩ = false := fun j => S6.out.res.froz j
        have HH := hide1 (Blk.set (Blk.set S6.out.res 0 (.slice ao l.length ca)) 1 (.int .i64 z))
        have HO := hide1 (own_far (own_far S6.out.own ⟨w.heap.size, 0, none⟩ (.slice ao l.length ca) (fun k hk => by have := (S6.out.own.lt k hk).1; dsimp only; omega)) ⟨w.heap.size, 1, none⟩ (.int .i64 z) (fun k hk => by have := (S6.out.own.lt k hk).1; dsimp only; omega))
        have HD := hide1 (far_drw (far_drw S6.out.drw w.heap.size 0 (.slice ao l.length ca) hgw) w.heap.size 1 (.int .i64 z) hgw)
        have HG := hide1 (grow_res (grow_res S6.out.grown 0 (.slice ao l.length ca)) 1 (.int .i64 z))
        have HK := hide1 S6.out.ok
        clear S6
        go_wp2
        refine bodyPost_ret (results_cell_row Try.results27 _ _ w.heap.size 28 #[.slice ao l.length ca, .int .i64 z] (0, 0) _ rfl HH.out Try.underlying28 rfl (by kernel_rfl)) rfl ?_
        exact ⟨l, z, ao, ca, rfl, HK.out, HO.out, HD.out, HG.out⟩

theorem code_grow {w : World} {a : Option Addr} {len : Nat} (hc : Code w.heap.size w a len) (o : Obj) : Code (w.alloc o).heap.size (w.alloc o) a len := by
  have h1 := hc.below ((Below.refl w.heap.size w).alloc (Nat.le_refl _) o) (Nat.le_refl _)
  exact ⟨h1.le, fun j hj => by obtain ⟨b, o', v, e1, e2, e3, e4⟩ := h1.cells j hj; exact ⟨b, o', v, e1, by rw [World.size_alloc]; omega, e3, e4⟩⟩

set_option maxRecDepth 100000 in
set_option maxHeartbeats 2000000 in
theorem drawRS_any (w : World) (a : Option Addr) (len cap : Nat) (hc : Code w.heap.size w a len) :
    Calls Try.prog 14 #[.slice a len cap] w fun e w' => ∃ (l : List Int) (ad : Int) (ao : Option Addr) (ca : Nat) (ky : ByteArray), e = .returned (.tuple #[.agg #[.slice ao l.length ca, .int .i64 ad], .string ky]) ∧ OkK l ad ∧ ky.size ≤ 12 ∧ w'.ownsRow w.heap.size 3 1 (.slice ao l.length ca) l.length (iz l) ∧ Below w.heap.size w w' := by
  have F0 : Hid (Blk (w.alloc (.cells #[.slice none 0 0, .int .i64 0] 28)) w.heap.size 28 [.slice none 0 0, .int .i64 0] ∧ Below w.heap.size w (w.alloc (.cells #[.slice none 0 0, .int .i64 0] 28)) ∧ Code (w.alloc (.cells #[.slice none 0 0, .int .i64 0] 28)).heap.size (w.alloc (.cells #[.slice none 0 0, .int .i64 0] 28)) a len) := ⟨Blk.new w _ _, (Below.refl _ _).alloc (Nat.le_refl _) _, code_grow hc _⟩
  clear hc
  go_enter Try.func14, Try.ntmps14
  go_wp2_with fail
  generalize (w.alloc (.cells #[.slice none 0 0, .int .i64 0] 28)) = w0 at F0 ⊢
  obtain ⟨R0, B0, C0⟩ := F0.out
  refine (new_any w0 a len cap C0).mono ?_
  rintro e w1 ⟨g, rfl, h1, hb1⟩
  have hBg := h1.cur.1
  have R1 := hide1 (R0.below hb1 R0.lt)
  have B1 := hide1 (B0.trans (hb1.mono B0.size))
  have hr0 := R0.lt
  have s1 := hb1.size
  have hg1 := h1.lt
  have C2 := hide1 (sketchD_any h1)
  clear F0 R0 B0 C0 hb1 h1
  go_wp2_with fail
  refine C2.out.mono ?_
  rintro e w2 ⟨l, ad, ao, ca, rfl, hok, ho, h2, hg2⟩
  have R2 := hide1 (gblk hg2 R1.out (fun e => by injection e with e; omega))
  have HK := hide1 hok
  have O2 := hide1 ho
  have s2 := hg2.size
  have G2 := hide1 hg2
  clear hok ho C2 hg2
  go_wp2_with fail
  refine (key_any h2).mono ?_
  rintro e w3 ⟨ky, rfl, hk1, hk2, h3, hg3⟩
  have R3 := hide1 (gblk hg3 R2.out (fun e => by injection e with e; omega))
  have O3 := hide1 (gown hg3 O2.out (fun k hk e => by have := (O2.out.lt k hk).1; injection e with e; omega))
  have B3 := hide1 (B1.out.trans (gbelow (gtrans G2.out hg3) (fun g' e => by injection e with e; omega) B1.out.size))
  have y0 : w3.cell? ⟨w.heap.size, 0, none⟩ = some (.slice none 0 0) := R3.out.cell 0
  have y1 : w3.cell? ⟨w.heap.size, 1, none⟩ = some (.int .i64 0) := R3.out.cell 1
  have yf : ∀ j, w3.frozen? ⟨w.heap.size, j, none⟩ = false := fun j => R3.out.froz j
  have HH := hide1 (Blk.set (Blk.set R3.out 0 (.slice ao l.length ca)) 1 (.int .i64 ad))
  have s31 := B1.out.size
  have HKY := hide1 hk2
  clear h3 hg3 h2 hk1 hk2
  go_wp2
  refine bodyPost_ret (resK2 Try.results14 _ _ w.heap.size 28 #[.slice ao l.length ca, .int .i64 ad] (0, 0) _ rfl HH.out Try.underlying28 rfl (by kernel_rfl)) rfl ?_
  refine ⟨l, ad, ao, ca, ky, rfl, HK.out, HKY.out, own_base (own_far (own_far O3.out _ _ ?_) _ _ ?_) (by omega), (B3.out.setCell (p := ⟨w.heap.size, 0, none⟩) (Nat.le_refl _) _).setCell (p := ⟨w.heap.size, 1, none⟩) (Nat.le_refl _) _⟩
  all_goals
    intro k hk
    have := (O3.out.lt k hk).1
    dsimp only
    omega
end Go.Proofs.Ythigmdocfjhdlaa
