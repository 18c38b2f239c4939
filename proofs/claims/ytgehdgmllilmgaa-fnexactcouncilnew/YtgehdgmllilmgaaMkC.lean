/- Councils marked, and looked at for the marks. -/
import Derived.Test.YtgehdgmllilmgaaMkT
namespace Go.Proofs.Ytgehdgmllilmgaa
open Go.RowKit
set_option linter.unusedVariables false

def mkA (k : Nat) (A : CA) (c : Cn) : CA := { A with L := mkL (k + 3 * c.vs.length) A.L A.L.length }
def mkKT (k : Nat) (A : CA) (c : Cn) : Nat := kAt (k + 3 * c.vs.length) A.L A.L.length
/-- A council that is marked from k on. -/
def mkCn (k : Nat) (A : CA) (c : Cn) : Cn := ⟨patG mV 3 k c.vs.length, (mkA k A c).L.map (·.y), patG mN 6 (mkKT k A c) c.ns.length, patQ (mkKT k A c + 6 * c.ns.length) c.ch.length⟩
def mkE (k : Nat) (A : CA) (c : Cn) : Nat := mkKT k A c + 6 * c.ns.length + c.ch.length
/-- Small enough to be marked. -/
structure SmC (A : CA) (c : Cn) : Prop where
  v : c.vs.length ≤ 1000
  t : A.L.length ≤ 4
  s : ∀ t ∈ A.L, tsz t.y ≤ 10000
  n : c.ns.length ≤ 10000
  c : c.ch.length ≤ 10000
theorem SmC.kt {A : CA} {c : Cn} (h : SmC A c) {k : Nat} (hk : k ≤ 900000) : mkKT k A c ≤ 950000 := by
  have h1 := kAt_le (k + 3 * c.vs.length) A.L 10000 h.s A.L.length (Nat.le_refl _)
  have h2 := h.t
  have h3 := h.v
  have h4 : A.L.length * 10000 ≤ 4 * 10000 := Nat.mul_le_mul_right _ h2
  unfold mkKT
  omega
theorem kt_pos {A : CA} {c : Cn} {k : Nat} (hk : 0 < k) : 0 < mkKT k A c := by unfold mkKT kAt; omega
theorem mkCn_lens (k : Nat) (A : CA) (c : Cn) : (mkCn k A c).vs.length = c.vs.length ∧ (mkCn k A c).ts.length = A.L.length ∧ (mkCn k A c).ns.length = c.ns.length ∧ (mkCn k A c).ch.length = c.ch.length := by
  refine ⟨patG_length _ _ _ _, ?_, patG_length _ _ _ _, patQ_length _ _⟩
  show ((mkL (k + 3 * c.vs.length) A.L A.L.length).map (·.y)).length = _
  rw [List.length_map, mkL_length]

set_option maxRecDepth 100000 in
set_option maxHeartbeats 2000000 in
theorem markCouncil_own (A : CA) (c : Cn) (k base : Nat) (w : World) (hs : SmC A c) (hk0 : 0 < k) (hk : k ≤ 900000) (h : OwC base w A c) (hb : base ≤ w.heap.size) :
    Calls Try.prog 25 #[.agg #[.slice A.va c.vs.length A.vc, .slice A.ta c.ts.length A.tc, .slice A.na c.ns.length A.nc, .slice A.ca c.ch.length A.cc], .int .i64 (k : Int)] w fun e w' => e = .returned (.int .i64 ((mkE k A c : Nat) : Int)) ∧ OwC base w' (mkA k A c) (mkCn k A c) ∧ Fr A w A w' := by
  have F0 := hide1 (And.intro (Blk.new w 32 #[.slice A.va c.vs.length A.vc, .slice A.ta c.ts.length A.tc, .slice A.na c.ns.length A.nc, .slice A.ca c.ch.length A.cc]) ((Below.refl w.heap.size w).alloc (Nat.le_refl _) (.cells #[.slice A.va c.vs.length A.vc, .slice A.ta c.ts.length A.tc, .slice A.na c.ns.length A.nc, .slice A.ca c.ch.length A.cc] 32)))
  have HNI := hide1 (show ¬ InA A w.heap.size from fun e => by have := (h.inA e).2; omega)
  have H0 := hide1 (h.kept F0.out.2)
  have HK := hide1 (hs.kt hk)
  have HP := hide1 (kt_pos (A := A) (c := c) hk0)
  have HS := hide1 hs
  have R0 := hide1 ((Fr.refl A w).below F0.out.2)
  have hcl := hide1 h.len
  have nv := hs.v
  have nn := hs.n
  have nc := hs.c
  clear h hs
  go_enter Try.func25, Try.ntmps25
  go_upto_region 1 with fail
  generalize (w.alloc (.cells #[.slice A.va c.vs.length A.vc, .slice A.ta c.ts.length A.tc, .slice A.na c.ns.length A.nc, .slice A.ca c.ch.length A.cc] 32)) = u at F0 H0 R0 ⊢
  have hbu : base ≤ u.heap.size := Nat.le_trans hb F0.out.2.size
  have x0 : u.cell? ⟨w.heap.size, 0, none⟩ = some (.slice A.va c.vs.length A.vc) := F0.out.1.cell 0
  go_wp2_with fail
  refine (markVoiceS_any _ _ k _ base u (by omega) (by omega) hk0 H0.out.v).mono ?_
  rintro e w1 ⟨rfl, ho1, hg1⟩
  have H1 := hide1 (show OwC base w1 A { c with vs := patG mV 3 k c.vs.length } from H0.out.putV (a' := A.va) (c' := A.vc) (vs := patG mV 3 k c.vs.length) hg1 (by rw [patG_length]; exact ho1) (Lies.refl _ _))
  have K1 := hide1 (gblk hg1 F0.out.1 (fun e => HNI.out (inV e)))
  have R1 := hide1 (R0.out.step hg1 (fun q hq => .inl (inV hq)))
  have e1 : (k : Int) + 3 * (c.vs.length : Int) = ((k + 3 * c.vs.length : Nat) : Int) := by omega
  rw [e1]
  have x1 : w1.cell? ⟨w.heap.size, 1, none⟩ = some (.slice A.ta c.ts.length A.tc) := K1.out.cell 1
  have hb1 : base ≤ w1.heap.size := Nat.le_trans hbu hg1.size
  clear ho1 hg1 x0 F0 H0 R0 e1
  go_wp2_with fail
  refine (markTryS_any A { c with vs := patG mV 3 k c.vs.length } (k + 3 * c.vs.length) base w1 HS.out.t HS.out.s (by omega) (by omega) H1.out hb1).mono ?_
  rintro e w2 ⟨rfl, h2, f2⟩
  have H2 := hide1 h2
  have K2 := hide1 (f2.blk K1.out HNI.out)
  have R2 := hide1 (R1.out.trans f2)
  have x2 : w2.cell? ⟨w.heap.size, 2, none⟩ = some (.slice A.na c.ns.length A.nc) := K2.out.cell 2
  have hb2 : base ≤ w2.heap.size := Nat.le_trans hb1 f2.size
  obtain ⟨kt, hkt⟩ : ∃ q, mkKT k A c = q := ⟨_, rfl⟩
  have HKT := hide1 hkt
  have E2 := hide1 (show kAt (k + 3 * c.vs.length) A.L A.L.length = kt from hkt)
  rw [E2.out]
  have hk1 : 0 < kt := by rw [← hkt]; exact HP.out
  have hk2 : kt ≤ 950000 := by rw [← hkt]; exact HK.out
  clear h2 f2 hkt x1 H1 K1 R1
  go_wp2_with fail
  refine (markNoteS_any (.slice A.na c.ns.length A.nc) c.ns.length kt _ base w2 (by omega) (by omega) hk1 H2.out.n).mono ?_
  rintro e w3 ⟨rfl, ho3, hg3⟩
  have H3 := hide1 (H2.out.putN (a' := A.na) (c' := A.nc) (ns := patG mN 6 kt c.ns.length) hg3 (by rw [patG_length]; exact ho3) (Lies.refl _ _))
  have K3 := hide1 (gblk hg3 K2.out (fun e => HNI.out (inN (A := A) e)))
  have R3 := hide1 (R2.out.step hg3 (fun q hq => .inl (inN (A := A) hq)))
  have e3 : (kt : Int) + 6 * (c.ns.length : Int) = ((kt + 6 * c.ns.length : Nat) : Int) := by omega
  rw [e3]
  have x3 : w3.cell? ⟨w.heap.size, 3, none⟩ = some (.slice A.ca c.ch.length A.cc) := K3.out.cell 3
  have HO4 := hide1 (show w3.ownsRow base 9 1 (.slice A.ca c.ch.length A.cc) c.ch.length (sc c.ch) by rw [sc_row]; exact H3.out.c)
  clear ho3 hg3 x2 H2 K2 R2 e3
  go_wp2_with fail
  refine (markTextS_any A.ca A.cc (kt + 6 * c.ns.length) base c.ch w3 (by omega) (by omega) (by omega) HO4.out).mono ?_
  rintro e w4 ⟨rfl, ho4, hg4⟩
  rw [sc_row] at ho4
  have H4 := hide1 (H3.out.putC (a' := A.ca) (c' := A.cc) (ch := patQ (kt + 6 * c.ns.length) c.ch.length) hg4 (by rw [patQ_length]; exact ho4) (Lies.refl _ _))
  have R4 := hide1 (R3.out.step hg4 (fun q hq => .inl (inC (A := A) hq)))
  clear ho4 hg4 x3 H3 R3 HO4
  go_wp2
  go_ret
  refine ⟨?_, ?_, R4.out⟩
  · unfold mkE
    rw [HKT.out]
    show Ending.returned (Value.int .i64 (((kt + 6 * c.ns.length : Nat) : Int) + (c.ch.length : Int))) = _
    rw [show ((kt + 6 * c.ns.length : Nat) : Int) + (c.ch.length : Int) = ((kt + 6 * c.ns.length + c.ch.length : Nat) : Int) by omega]
  · unfold mkCn
    rw [HKT.out]
    exact H4.out

set_option maxRecDepth 100000 in
set_option maxHeartbeats 2000000 in
theorem heldCouncil_own (A : CA) (c : Cn) (k : Nat) (lo : Nat → Prop) (B : Nat) (w : World) (hs : SmC A c) (hl : A.L.length = c.ts.length) (hk0 : 0 < k) (hk : k ≤ 900000) (h : RdC12 lo w B (mkA k A c) (mkCn k A c)) :
    Calls Try.prog 26 #[.agg #[.slice A.va c.vs.length A.vc, .slice A.ta c.ts.length A.tc, .slice A.na c.ns.length A.nc, .slice A.ca c.ch.length A.cc], .int .i64 (k : Int)] w fun e w' => e = .returned (.int .i64 ((mkE k A c : Nat) : Int)) ∧ Below w.heap.size w w' := by
  have F0 := hide1 (And.intro (Blk.new w 32 #[.slice A.va c.vs.length A.vc, .slice A.ta c.ts.length A.tc, .slice A.na c.ns.length A.nc, .slice A.ca c.ch.length A.cc]) ((Below.refl w.heap.size w).alloc (Nat.le_refl _) (.cells #[.slice A.va c.vs.length A.vc, .slice A.ta c.ts.length A.tc, .slice A.na c.ns.length A.nc, .slice A.ca c.ch.length A.cc] 32)))
  have HK := hide1 (hs.kt hk)
  have HP := hide1 (kt_pos (A := A) (c := c) hk0)
  obtain ⟨kt, hkt⟩ : ∃ q, mkKT k A c = q := ⟨_, rfl⟩
  have hk1 : 0 < kt := by rw [← hkt]; exact HP.out
  have hk2 : kt ≤ 950000 := by rw [← hkt]; exact HK.out
  have nv := hs.v
  have nn := hs.n
  have nc := hs.c
  have C0 := hide1 (fun w' (hb : Below w.heap.size w w') => heldVoiceS_any A.va c.vs.length A.vc k w' (by omega) (by omega) hk0 (h.v.later hb))
  have C1 := hide1 (fun w' (hb : Below w.heap.size w w') => (show Calls Try.prog 56 #[.slice A.ta c.ts.length A.tc, .int .i64 ((k + 3 * c.vs.length : Nat) : Int)] w' fun e w'' => e = .returned (.int .i64 (kt : Int)) ∧ Below w'.heap.size w' w'' by
    have := heldTryS_any A.ta c.ts.length A.tc A.L (k + 3 * c.vs.length) w' hs.t hl hs.s (by omega) (by omega) (by rw [← hl]; exact h.t.later hb) (by rw [← hl]; exact fun t ht => ⟨(h.r t ht).1.later hb, (h.r t ht).2.2.1.later hb⟩)
    rw [← hl] at this ⊢
    rw [show kAt (k + 3 * c.vs.length) A.L A.L.length = kt from hkt] at this
    exact this))
  have C2 := hide1 (fun w' (hb : Below w.heap.size w w') => heldNoteS_any A.na c.ns.length A.nc kt w' (by omega) (by omega) hk1 (by have := h.n.later hb; unfold mkCn at this; rw [hkt] at this; exact this))
  have C3 := hide1 (fun w' (hb : Below w.heap.size w w') => heldTextS_any A.ca c.ch.length A.cc (kt + 6 * c.ns.length) w' (by omega) (by omega) (by omega) (rdQ_G (by have := h.c.later hb; unfold mkCn at this; rw [hkt] at this; exact this)))
  have HKT := hide1 hkt
  clear h hs hkt hl
  go_enter Try.func26, Try.ntmps26
  go_upto_region 1 with fail
  generalize (w.alloc (.cells #[.slice A.va c.vs.length A.vc, .slice A.ta c.ts.length A.tc, .slice A.na c.ns.length A.nc, .slice A.ca c.ch.length A.cc] 32)) = u at F0 ⊢
  have x0 : u.cell? ⟨w.heap.size, 0, none⟩ = some (.slice A.va c.vs.length A.vc) := F0.out.1.cell 0
  go_wp2_with fail
  refine (C0.out u F0.out.2).mono ?_
  rintro e w1 ⟨rfl, hb1⟩
  have K1 := hide1 (F0.out.1.below hb1 F0.out.1.lt)
  have B1 := hide1 (F0.out.2.trans (hb1.mono F0.out.2.size))
  have e1 : (k : Int) + 3 * (c.vs.length : Int) = ((k + 3 * c.vs.length : Nat) : Int) := by omega
  rw [e1]
  have x1 : w1.cell? ⟨w.heap.size, 1, none⟩ = some (.slice A.ta c.ts.length A.tc) := K1.out.cell 1
  clear hb1 x0 F0 e1 C0
  go_wp2_with fail
  refine (C1.out w1 B1.out).mono ?_
  rintro e w2 ⟨rfl, hb2⟩
  have K2 := hide1 (K1.out.below hb2 K1.out.lt)
  have B2 := hide1 (B1.out.trans (hb2.mono B1.out.size))
  have x2 : w2.cell? ⟨w.heap.size, 2, none⟩ = some (.slice A.na c.ns.length A.nc) := K2.out.cell 2
  clear hb2 x1 K1 B1 C1
  go_wp2_with fail
  refine (C2.out w2 B2.out).mono ?_
  rintro e w3 ⟨rfl, hb3⟩
  have K3 := hide1 (K2.out.below hb3 K2.out.lt)
  have B3 := hide1 (B2.out.trans (hb3.mono B2.out.size))
  have e3 : (kt : Int) + 6 * (c.ns.length : Int) = ((kt + 6 * c.ns.length : Nat) : Int) := by omega
  rw [e3]
  have x3 : w3.cell? ⟨w.heap.size, 3, none⟩ = some (.slice A.ca c.ch.length A.cc) := K3.out.cell 3
  clear hb3 x2 K2 B2 C2 e3
  go_wp2_with fail
  refine (C3.out w3 B3.out).mono ?_
  rintro e w4 ⟨rfl, hb4⟩
  have B4 := hide1 (B3.out.trans (hb4.mono B3.out.size))
  have e4 : ((kt + 6 * c.ns.length : Nat) : Int) + (c.ch.length : Int) = ((kt + 6 * c.ns.length + c.ch.length : Nat) : Int) := by omega
  rw [e4]
  clear hb4 x3 K3 B3 C3 e4
  go_wp2
  go_ret
  refine ⟨?_, B4.out⟩
  unfold mkE
  rw [HKT.out]
  rfl
end Go.Proofs.Ytgehdgmllilmgaa
