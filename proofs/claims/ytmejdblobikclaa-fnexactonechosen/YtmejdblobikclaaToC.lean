/- Councils in the statements' words: opened, sized, copied. -/
import Derived.Test.YtmejdblobikclaaToU
import Derived.Test.YtmejdblobikclaaMkD
namespace Go.Proofs.Ytmejdblobikclaa
open Go.ChangeShapes Go.WideShapes Go.ChangeAt Go.RowKit Go.Deep Go.Joins
set_option linter.unusedVariables false

/-- A council that is read, wherever it lies. -/
structure RdI (w : World) (A : CA) (c : Cn) : Prop where
  v : RdG voC 3 w A.va c.vs
  e : A.L.map (·.y) = c.ts
  t : RdG tmC 7 w A.ta A.L
  r : ∀ t ∈ A.L, TmR0 w t
  n : RdG ntC 6 w A.na c.ns
  c : RdG txE 1 w A.ca c.ch
theorem RdI.len {w : World} {A : CA} {c : Cn} (h : RdI w A c) : A.L.length = c.ts.length := by rw [← h.e, List.length_map]
theorem RdI.later {w w' : World} {A : CA} {c : Cn} (h : RdI w A c) (hb : Below w.heap.size w w') : RdI w' A c := ⟨h.v.later hb, h.e, h.t.later hb, fun t ht => (h.r t ht).later hb, h.n.later hb, h.c.later hb⟩
/-- What every council that came in is. -/
structure Wf12 (A : CA) (c : Cn) : Prop where
  v : c.vs.length ≤ maxLen ∧ ∀ x ∈ c.vs, wfVoice x
  t : A.L.length ≤ maxLen ∧ ∀ t ∈ A.L, wfT t
  n : c.ns.length ≤ maxLen ∧ ∀ x ∈ c.ns, wfNote x
  c : c.ch.length ≤ maxLen ∧ ∀ i (h : i < c.ch.length), c.ch[i].size ≤ maxLen
set_option maxRecDepth 100000 in
/-- A council that came in. -/
theorem open_council {H : Type} {enc : TypeId × Value → H} {w : World} {r : Reach} {b0 base : Nat} {sp : Nat → Bool} {held : Bool} {v : Value} {d : DataW H} {p : List MemPlace} (hv : Value.okWide Try.prog w r b0 66 v) (h : DataW.Trod enc Try.prog w base sp held 66 v d p) :
    ∃ (A : CA) (c : Cn), v = .agg #[.slice A.va c.vs.length A.vc, .slice A.ta c.ts.length A.tc, .slice A.na c.ns.length A.nc, .slice A.ca c.ch.length A.cc] ∧ RdI w A c ∧ Wf12 A c := by
  obtain ⟨cs, rfl, hsz⟩ := okWide_struct Try.underlying66 hv
  have hc : Try.prog.cellsOf 66 = 4 := by kernel_rfl
  rw [hc] at hsz
  obtain ⟨fuel, hf0⟩ := h
  obtain ⟨xs, n, _, _, hlen, hxl, hf⟩ := DataW.trod_struct Try.underlying66 hf0
  obtain ⟨cl⟩ := cs
  match xs, hxl, cl, hsz with
  | [q0, q1, q2, q3], _, [u0, u1, u2, u3], _ =>
    have g0 := hf 0 _ rfl
    have g1 := hf 1 _ rfl
    have g2 := hf 2 _ rfl
    have g3 := hf 3 _ rfl
    have c0 : Try.prog.cellsOf 62 = 1 := by kernel_rfl
    have c1 : Try.prog.cellsOf 63 = 1 := by kernel_rfl
    have c2 : Try.prog.cellsOf 64 = 1 := by kernel_rfl
    have c3 : Try.prog.cellsOf 30 = 1 := by kernel_rfl
    simp [c0, c1, c2, c3, Value.cells] at g0 g1 g2 g3
    obtain ⟨a0, l0, k0, e0, r0, m0, f0⟩ := open_voicesE g0
    obtain ⟨a1, l1, k1, e1, r1, m1, f1⟩ := open_trysE g1
    obtain ⟨a2, l2, k2, e2, r2, m2, f2⟩ := open_notesE g2
    obtain ⟨a3, l3, k3, e3, r3, m3, f3⟩ := open_texts g3
    simp at e0 e1 e2 e3
    subst e0 e1 e2 e3
    exact ⟨⟨a0, k0, a1, k1, a2, k2, a3, k3, l1⟩, ⟨l0, l1.map (·.y), l2, l3⟩, by rw [List.length_map], ⟨r0, rfl, r1, fun t ht => (f1 t ht).1, r2, rdG_Q r3⟩, ⟨⟨m0, f0⟩, ⟨m1, fun t ht => (f1 t ht).2⟩, ⟨m2, f2⟩, ⟨m3, f3⟩⟩⟩

set_option maxRecDepth 100000 in
set_option maxHeartbeats 1000000 in
theorem szCouncil_any (A : CA) (c : Cn) (w : World) (hR : RdI w A c) (hW : Wf12 A c) :
    Calls Try.prog 34 #[.agg #[.slice A.va c.vs.length A.vc, .slice A.ta c.ts.length A.tc, .slice A.na c.ns.length A.nc, .slice A.ca c.ch.length A.cc], .int .i64 1048576] w fun e w' => (e = .returned (.int .i64 (-1)) ∨ ∃ r : Nat, e = .returned (.int .i64 (r : Int)) ∧ Sm12 c) ∧ Below w.heap.size w w' := by
  have m1 : maxLen = 9223372036854775807 := rfl
  have hl := hR.len
  have F0 := hide1 (And.intro (Blk.new w 66 #[.slice A.va c.vs.length A.vc, .slice A.ta c.ts.length A.tc, .slice A.na c.ns.length A.nc, .slice A.ca c.ch.length A.cc]) ((Below.refl w.heap.size w).alloc (Nat.le_refl _) (.cells #[.slice A.va c.vs.length A.vc, .slice A.ta c.ts.length A.tc, .slice A.na c.ns.length A.nc, .slice A.ca c.ch.length A.cc] 66)))
  have C0 := hide1 (fun w1 (h : Below w.heap.size w w1) => szVoiceS_any A.va c.vs A.vc 1048576 w1 (Nat.le_refl _) (by have := hW.v.1; omega) (hR.v.later h) (fun i hi => by have := (hW.v.2 _ (List.getElem_mem hi)).2.2; omega))
  have C1 := hide1 (fun w1 (r : Nat) (h : Below w.heap.size w w1) (hr : r ≤ 1048576) => (show Calls Try.prog 64 #[.slice A.ta c.ts.length A.tc, .int .i64 (r : Int)] w1 fun e w' => (e = .returned (.int .i64 (-1)) ∨ ∃ q : Nat, e = .returned (.int .i64 (q : Int)) ∧ q ≤ r ∧ A.L.length ≤ r ∧ ∀ t ∈ A.L, t.y.ps.length ≤ 1048576 ∧ t.y.tk.length ≤ 1048576) ∧ Below w1.heap.size w1 w' by
    rw [← hl]
    exact szTryS_any A.ta A.L A.tc r w1 hr (by have := hW.t.1; omega) (hR.t.later h) (fun t ht => ⟨(hR.r t ht).later h, hW.t.2 t ht⟩)))
  have C2 := hide1 (fun w1 (r : Nat) (h : Below w.heap.size w w1) (hr : r ≤ 1048576) => szNoteS_any A.na c.ns A.nc r w1 hr (by have := hW.n.1; omega) (rdN6_of_rdG (hR.n.later h)) (fun i hi => by have := (hW.n.2 _ (List.getElem_mem hi)).2.2.2.2.2; omega))
  have C3 := hide1 (fun w1 (r : Nat) (h : Below w.heap.size w w1) (hr : r ≤ 1048576) => szTextS_any A.ca c.ch A.cc r w1 (by have := hW.c.1; omega) (fun i hi => by have := hW.c.2 i hi; omega) hr (rdQ_G (hR.c.later h)))
  have HL := hide1 hl
  have HE := hide1 hR.e
  clear hR hW hl
  go_enter Try.func34, Try.ntmps34
  go_upto_region 1 with fail
  generalize (w.alloc (.cells #[.slice A.va c.vs.length A.vc, .slice A.ta c.ts.length A.tc, .slice A.na c.ns.length A.nc, .slice A.ca c.ch.length A.cc] 66)) = u at F0 ⊢
  have x0 : u.cell? ⟨w.heap.size, 0, none⟩ = some (.slice A.va c.vs.length A.vc) := F0.out.1.cell 0
  go_wp2_with fail
  refine (C0.out u F0.out.2).mono ?_
  rintro e w1 ⟨hr, hb1⟩
  have K1 := hide1 (F0.out.1.below hb1 F0.out.1.lt)
  have B1 := hide1 (F0.out.2.trans (hb1.mono F0.out.2.size))
  have x1 : w1.cell? ⟨w.heap.size, 1, none⟩ = some (.slice A.ta c.ts.length A.tc) := K1.out.cell 1
  clear hb1 x0 F0 C0
  rcases hr with rfl | ⟨r0, rfl, h00, h01, _⟩
  · go_wp2
    go_ret
    exact ⟨.inl rfl, B1.out⟩
  have q0 : decide ((r0 : Int) < 0) = false := by simp
  go_wp2_with fail
  refine (C1.out w1 r0 B1.out (by omega)).mono ?_
  rintro e w2 ⟨hr, hb2⟩
  have K2 := hide1 (K1.out.below hb2 K1.out.lt)
  have B2 := hide1 (B1.out.trans (hb2.mono B1.out.size))
  have x2 : w2.cell? ⟨w.heap.size, 2, none⟩ = some (.slice A.na c.ns.length A.nc) := K2.out.cell 2
  clear hb2 x1 K1 B1 C1
  rcases hr with rfl | ⟨r1, rfl, h10, h11, h12⟩
  · go_wp2
    go_ret
    exact ⟨.inl rfl, B2.out⟩
  have q1 : decide ((r1 : Int) < 0) = false := by simp
  have H12 := hide1 h12
  clear h12
  go_wp2_with fail
  refine (C2.out w2 r1 B2.out (by omega)).mono ?_
  rintro e w3 ⟨hr, hb3⟩
  have K3 := hide1 (K2.out.below hb3 K2.out.lt)
  have B3 := hide1 (B2.out.trans (hb3.mono B2.out.size))
  have x3 : w3.cell? ⟨w.heap.size, 3, none⟩ = some (.slice A.ca c.ch.length A.cc) := K3.out.cell 3
  clear hb3 x2 K2 B2 C2
  rcases hr with rfl | ⟨r2, rfl, h20, h21, _⟩
  · go_wp2
    go_ret
    exact ⟨.inl rfl, B3.out⟩
  have q2 : decide ((r2 : Int) < 0) = false := by simp
  go_wp2_with fail
  refine (C3.out w3 r2 B3.out (by omega)).mono ?_
  rintro e w4 ⟨hr, rfl⟩
  rcases hr with rfl | ⟨r3, rfl, h30, h31, _⟩
  · go_wp2
    go_ret
    exact ⟨.inl rfl, B3.out⟩
  have q3 : decide ((r3 : Int) < 0) = false := by simp
  have HF := hide1 (show Sm12 c from ⟨by omega, by have := HL.out; omega, h21, by omega, fun y hy => by
    rw [← HE.out] at hy
    obtain ⟨t, ht, rfl⟩ := List.mem_map.1 hy
    exact H12.out t ht⟩)
  go_wp2
  go_ret
  exact ⟨.inr ⟨r3, rfl, HF.out⟩, B3.out⟩

set_option maxRecDepth 100000 in
set_option maxHeartbeats 1000000 in
theorem toCouncil_any (A : CA) (c : Cn) (w : World) (hs : Sm12 c) (hR : RdI w A c) :
    Calls Try.prog 35 #[.agg #[.slice A.va c.vs.length A.vc, .slice A.ta c.ts.length A.tc, .slice A.na c.ns.length A.nc, .slice A.ca c.ch.length A.cc]] w fun e w' => (∃ M : CA, e = .returned (.agg #[.slice M.va c.vs.length M.vc, .slice M.ta c.ts.length M.tc, .slice M.na c.ns.length M.nc, .slice M.ca c.ch.length M.cc]) ∧ ∀ B, B < w.heap.size ∨ w'.heap.size ≤ B → RdC12 0 w' B M c) ∧ Below w.heap.size w w' := by
  have hl := hR.len
  have C0 := hide1 (fun w1 (h : Below w.heap.size w w1) => toVoiceS_any A.va c.vs A.vc w1 hs.v (hR.v.later h))
  have C1 := hide1 (fun w1 (h : Below w.heap.size w w1) => (show Calls Try.prog 68 #[.slice A.ta c.ts.length A.tc] w1 fun e w' => (∃ b q, e = .returned (.slice b c.ts.length q) ∧ ∃ L' : List Tm, L'.map (·.y) = c.ts ∧ w'.ownsRow w1.heap.size 47 7 (.slice b c.ts.length q) c.ts.length (rowG tmC L') ∧ ∀ t ∈ L', TmO w1.heap.size w' t) ∧ Below w1.heap.size w1 w' by
    rw [← hl, ← hR.e]
    exact toTryS_any A.ta A.L A.tc w1 (by rw [hl]; exact hs.t) (hR.t.later h) (fun t ht => ⟨(hR.r t ht).later h, hs.r t.y (by rw [← hR.e]; exact List.mem_map.2 ⟨t, ht, rfl⟩)⟩)))
  have C2 := hide1 (fun w1 (h : Below w.heap.size w w1) => toNoteS_any A.na c.ns A.nc w1 hs.n (rdN6_of_rdG (hR.n.later h)))
  have C3 := hide1 (fun w1 (h : Below w.heap.size w w1) => toTextS_any A.ca c.ch A.cc w1 hs.h (rdQ_G (hR.c.later h)))
  clear hR hs hl
  have F0 := hide1 (blkN3 w #[.slice A.va c.vs.length A.vc, .slice A.ta c.ts.length A.tc, .slice A.na c.ns.length A.nc, .slice A.ca c.ch.length A.cc] #[.slice none 0 0, .slice none 0 0, .slice none 0 0, .slice none 0 0] #[.slice none 0 0, .slice none 0 0, .slice none 0 0, .slice none 0 0] 66 32 32)
  go_enter Try.func35, Try.ntmps35
  go_upto_region 2 with fail
  generalize (((w.alloc (.cells #[.slice A.va c.vs.length A.vc, .slice A.ta c.ts.length A.tc, .slice A.na c.ns.length A.nc, .slice A.ca c.ch.length A.cc] 66)).alloc (.cells #[.slice none 0 0, .slice none 0 0, .slice none 0 0, .slice none 0 0] 32)).alloc (.cells #[.slice none 0 0, .slice none 0 0, .slice none 0 0, .slice none 0 0] 32)) = w0 at F0 ⊢
  obtain ⟨s0, hs0⟩ : ∃ s, s = w.heap.size := ⟨_, rfl⟩
  obtain ⟨s1, hs1⟩ : ∃ s, s = w.heap.size + 1 := ⟨_, rfl⟩
  obtain ⟨s2, hs2⟩ : ∃ s, s = w.heap.size + 1 + 1 := ⟨_, rfl⟩
  have K0 := hide1 F0.out.1
  have K1 := hide1 F0.out.2.1
  have K2 := hide1 F0.out.2.2.1
  have B0 := hide1 F0.out.2.2.2
  rw [← hs0] at K0
  rw [← hs1] at K1
  rw [← hs2] at K2 ⊢
  rw [← hs1]
  have hge : Hid (w.heap.size ≤ s0 ∧ w.heap.size ≤ s1 ∧ w.heap.size ≤ s2) := hide1 (by omega)
  have n01 : s0 ≠ s1 := by omega
  have n02 : s0 ≠ s2 := by omega
  have n12 : s1 ≠ s2 := by omega
  rw [show ({block := w.heap.size, off := 0} : Addr) = ⟨s0, 0, none⟩ by rw [hs0]]
  clear hs0 hs1 hs2 F0
  have x0 : w0.cell? ⟨s0, 0, none⟩ = some (.slice A.va c.vs.length A.vc) := K0.out.cell 0
  go_wp2_with fail
  refine (C0.out w0 B0.out).mono ?_
  rintro e w1 ⟨b0, q0, rfl, ho0, hb0⟩
  have J0 := hide1 (K0.out.below hb0 K0.out.lt)
  have J1 := hide1 (K1.out.below hb0 K1.out.lt)
  have J2 := hide1 (K2.out.below hb0 K2.out.lt)
  have D := hide1 (B0.out.trans (hb0.mono B0.out.size))
  have l02 : s2 < w0.heap.size := K2.out.lt
  have l01 : s1 < w0.heap.size := K1.out.lt
  have g0 : w.heap.size ≤ w0.heap.size := B0.out.size
  have hf : ∀ q, w1.frozen? ⟨s2, q, none⟩ = false := fun q => J2.out.froz q
  have y0 : w1.cell? ⟨s2, 0, none⟩ = some (.slice none 0 0) := J2.out.cell 0
  have S := hide1 (gset (World.grownBy.refl w1 (some s2)) 0 (.slice b0 c.vs.length q0))
  have O0 := hide1 (own_far1 S.out ho0 l02)
  have T2 := hide1 (J2.out.set 0 (.slice b0 c.vs.length q0))
  have T0 := hide1 (J0.out.far ⟨s2, 0, none⟩ (.slice b0 c.vs.length q0) n02)
  have T1 := hide1 (J1.out.far ⟨s2, 0, none⟩ (.slice b0 c.vs.length q0) n12)
  have E := hide1 (D.out.setCell (p := ⟨s2, 0, none⟩) hge.out.2.2 (.slice b0 c.vs.length q0))
  clear J0 J1 J2 D S ho0 hb0 C0 x0 K0 K1 K2 B0
  have K0 := hide1 T0.out
  have K1 := hide1 T1.out
  have K2 := hide1 T2.out
  have B0 := hide1 E.out
  clear T0 T1 T2 E
  have x1 : (w1.setCell ⟨s2, 0, none⟩ (.slice b0 c.vs.length q0)).cell? ⟨s0, 1, none⟩ = some (.slice A.ta c.ts.length A.tc) := K0.out.cell 1
  have xx1 : w1.cell? ⟨s0, 1, none⟩ = some (.slice A.ta c.ts.length A.tc) := by rw [← x1]; exact (World.cell?_of_block (Below.heap_setCell _ _ _ _ n02)).symm
  clear x1
  go_wp2_with fail
  clear xx1 y0 hf
  generalize (w1.setCell ⟨s2, 0, none⟩ (.slice b0 c.vs.length q0)) = w2 at *
  refine (C1.out w2 B0.out).mono ?_
  rintro e w3 ⟨⟨b1, q1, rfl, L', hy, ho1, hT⟩, hb1⟩
  have J0 := hide1 (K0.out.below hb1 K0.out.lt)
  have J1 := hide1 (K1.out.below hb1 K1.out.lt)
  have J2 := hide1 (K2.out.below hb1 K2.out.lt)
  have D := hide1 (B0.out.trans (hb1.mono B0.out.size))
  have l12 : s2 < w2.heap.size := K2.out.lt
  have l11 : s1 < w2.heap.size := K1.out.lt
  have g1 : w.heap.size ≤ w2.heap.size := B0.out.size
  have hf : ∀ q, w3.frozen? ⟨s2, q, none⟩ = false := fun q => J2.out.froz q
  have y1 : w3.cell? ⟨s2, 1, none⟩ = some (.slice none 0 0) := J2.out.cell 1
  have S := hide1 (gset (World.grownBy.refl w3 (some s2)) 1 (.slice b1 c.ts.length q1))
  have P0 := hide1 (own_far1 S.out (own_kept O0.out hb1) l02)
  clear O0
  have O0 := hide1 P0.out
  clear P0
  have O1 := hide1 (own_far1 S.out ho1 l12)
  have OT := hide1 (fun t ht => (hT t ht).far1 S.out l12)
  have HY := hide1 hy
  clear hT hy
  have T2 := hide1 (J2.out.set 1 (.slice b1 c.ts.length q1))
  have T0 := hide1 (J0.out.far ⟨s2, 1, none⟩ (.slice b1 c.ts.length q1) n02)
  have T1 := hide1 (J1.out.far ⟨s2, 1, none⟩ (.slice b1 c.ts.length q1) n12)
  have E := hide1 (D.out.setCell (p := ⟨s2, 1, none⟩) hge.out.2.2 (.slice b1 c.ts.length q1))
  clear J0 J1 J2 D S ho1 hb1 C1 K0 K1 K2 B0
  have K0 := hide1 T0.out
  have K1 := hide1 T1.out
  have K2 := hide1 T2.out
  have B0 := hide1 E.out
  clear T0 T1 T2 E
  have x2 : (w3.setCell ⟨s2, 1, none⟩ (.slice b1 c.ts.length q1)).cell? ⟨s0, 2, none⟩ = some (.slice A.na c.ns.length A.nc) := K0.out.cell 2
  have xx2 : w3.cell? ⟨s0, 2, none⟩ = some (.slice A.na c.ns.length A.nc) := by rw [← x2]; exact (World.cell?_of_block (Below.heap_setCell _ _ _ _ n02)).symm
  clear x2
  go_wp2_with fail
  clear xx2 y1 hf
  generalize (w3.setCell ⟨s2, 1, none⟩ (.slice b1 c.ts.length q1)) = w4 at *
  refine (C2.out w4 B0.out).mono ?_
  rintro e w5 ⟨b2, q2, rfl, ho2, hb2⟩
  have J0 := hide1 (K0.out.below hb2 K0.out.lt)
  have J1 := hide1 (K1.out.below hb2 K1.out.lt)
  have J2 := hide1 (K2.out.below hb2 K2.out.lt)
  have D := hide1 (B0.out.trans (hb2.mono B0.out.size))
  have l22 : s2 < w4.heap.size := K2.out.lt
  have l21 : s1 < w4.heap.size := K1.out.lt
  have g2 : w.heap.size ≤ w4.heap.size := B0.out.size
  have hf : ∀ q, w5.frozen? ⟨s2, q, none⟩ = false := fun q => J2.out.froz q
  have y2 : w5.cell? ⟨s2, 2, none⟩ = some (.slice none 0 0) := J2.out.cell 2
  have S := hide1 (gset (World.grownBy.refl w5 (some s2)) 2 (.slice b2 c.ns.length q2))
  have P0 := hide1 (own_far1 S.out (own_kept O0.out hb2) l02)
  clear O0
  have O0 := hide1 P0.out
  clear P0
  have P1 := hide1 (own_far1 S.out (own_kept O1.out hb2) l12)
  clear O1
  have O1 := hide1 P1.out
  clear P1
  have PT := hide1 (fun t ht => ((OT.out t ht).kept hb2).far1 S.out l12)
  clear OT
  have OT := hide1 PT.out
  clear PT
  have O2 := hide1 (own_far1 S.out ho2 l22)
  have T2 := hide1 (J2.out.set 2 (.slice b2 c.ns.length q2))
  have T0 := hide1 (J0.out.far ⟨s2, 2, none⟩ (.slice b2 c.ns.length q2) n02)
  have T1 := hide1 (J1.out.far ⟨s2, 2, none⟩ (.slice b2 c.ns.length q2) n12)
  have E := hide1 (D.out.setCell (p := ⟨s2, 2, none⟩) hge.out.2.2 (.slice b2 c.ns.length q2))
  clear J0 J1 J2 D S ho2 hb2 C2 K0 K1 K2 B0
  have K0 := hide1 T0.out
  have K1 := hide1 T1.out
  have K2 := hide1 T2.out
  have B0 := hide1 E.out
  clear T0 T1 T2 E
  have x3 : (w5.setCell ⟨s2, 2, none⟩ (.slice b2 c.ns.length q2)).cell? ⟨s0, 3, none⟩ = some (.slice A.ca c.ch.length A.cc) := K0.out.cell 3
  have xx3 : w5.cell? ⟨s0, 3, none⟩ = some (.slice A.ca c.ch.length A.cc) := by rw [← x3]; exact (World.cell?_of_block (Below.heap_setCell _ _ _ _ n02)).symm
  clear x3
  go_wp2_with fail
  clear xx3 y2 hf
  generalize (w5.setCell ⟨s2, 2, none⟩ (.slice b2 c.ns.length q2)) = w6 at *
  refine (C3.out w6 B0.out).mono ?_
  rintro e w7 ⟨b3, q3, rfl, ho3, hb3⟩
  rw [sc_row] at ho3
  have J0 := hide1 (K0.out.below hb3 K0.out.lt)
  have J1 := hide1 (K1.out.below hb3 K1.out.lt)
  have J2 := hide1 (K2.out.below hb3 K2.out.lt)
  have D := hide1 (B0.out.trans (hb3.mono B0.out.size))
  have l32 : s2 < w6.heap.size := K2.out.lt
  have l31 : s1 < w6.heap.size := K1.out.lt
  have g3 : w.heap.size ≤ w6.heap.size := B0.out.size
  have hf : ∀ q, w7.frozen? ⟨s2, q, none⟩ = false := fun q => J2.out.froz q
  have y3 : w7.cell? ⟨s2, 3, none⟩ = some (.slice none 0 0) := J2.out.cell 3
  have P0 := hide1 (own_kept O0.out hb3)
  have P1 := hide1 (own_kept O1.out hb3)
  have P2 := hide1 (own_kept O2.out hb3)
  have PT := hide1 (fun t ht => (OT.out t ht).kept hb3)
  have P3 := hide1 ho3
  clear ho3 hb3 C3 K0 K1 K2 B0 O0 O1 O2 OT
  have y0 : w7.cell? ⟨s2, 0, none⟩ = some (.slice b0 c.vs.length q0) := J2.out.cell 0
  have y1 : w7.cell? ⟨s2, 1, none⟩ = some (.slice b1 c.ts.length q1) := J2.out.cell 1
  have y2 : w7.cell? ⟨s2, 2, none⟩ = some (.slice b2 c.ns.length q2) := J2.out.cell 2
  have z0 : w7.cell? ⟨s1, 0, none⟩ = some (.slice none 0 0) := J1.out.cell 0
  have z1 : w7.cell? ⟨s1, 1, none⟩ = some (.slice none 0 0) := J1.out.cell 1
  have z2 : w7.cell? ⟨s1, 2, none⟩ = some (.slice none 0 0) := J1.out.cell 2
  have z3 : w7.cell? ⟨s1, 3, none⟩ = some (.slice none 0 0) := J1.out.cell 3
  have zf : ∀ q, w7.frozen? ⟨s1, q, none⟩ = false := fun q => J1.out.froz q
  go_wp2
  refine bodyPost_ret (results_cell_row Try.results35 _ _ s1 32 #[.slice b0 c.vs.length q0, .slice b1 c.ts.length q1, .slice b2 c.ns.length q2, .slice b3 c.ch.length q3] (0, 0) _ rfl (Blk.set (Blk.set (Blk.set (Blk.set (Blk.far J1.out ⟨s2, 3, none⟩ _ n12) 0 _) 1 _) 2 _) 3 _) Try.underlying32 rfl (by kernel_rfl)) rfl ?_
  have G2 : ∀ a : Value, w7.grownBy (w7.setCell ⟨s2, 3, none⟩ a) (some s2) := fun a => gset (World.grownBy.refl _ _) 3 a
  have G1 : ∀ (v : World) (a b c d : Value), v.grownBy ((((v.setCell ⟨s1, 0, none⟩ a).setCell ⟨s1, 1, none⟩ b).setCell ⟨s1, 2, none⟩ c).setCell ⟨s1, 3, none⟩ d) (some s1) := fun v a b c d => gset (gset (gset (gset (World.grownBy.refl _ _) 0 a) 1 b) 2 c) 3 d
  have Q0 := own_base (own_far1 (G1 _ (.slice b0 c.vs.length q0) (.slice b1 c.ts.length q1) (.slice b2 c.ns.length q2) (.slice b3 c.ch.length q3)) (own_far1 (G2 (.slice b3 c.ch.length q3)) P0.out l02) l01) g0
  have Q1 := own_base (own_far1 (G1 _ (.slice b0 c.vs.length q0) (.slice b1 c.ts.length q1) (.slice b2 c.ns.length q2) (.slice b3 c.ch.length q3)) (own_far1 (G2 (.slice b3 c.ch.length q3)) P1.out l12) l11) g1
  have Q2 := own_base (own_far1 (G1 _ (.slice b0 c.vs.length q0) (.slice b1 c.ts.length q1) (.slice b2 c.ns.length q2) (.slice b3 c.ch.length q3)) (own_far1 (G2 (.slice b3 c.ch.length q3)) P2.out l22) l21) g2
  have Q3 := own_base (own_far1 (G1 _ (.slice b0 c.vs.length q0) (.slice b1 c.ts.length q1) (.slice b2 c.ns.length q2) (.slice b3 c.ch.length q3)) (own_far1 (G2 (.slice b3 c.ch.length q3)) P3.out l32) l31) g3
  have QT := fun t ht => (((PT.out t ht).far1 (G2 (.slice b3 c.ch.length q3)) l12).far1 (G1 _ (.slice b0 c.vs.length q0) (.slice b1 c.ts.length q1) (.slice b2 c.ns.length q2) (.slice b3 c.ch.length q3)) l11).base g1
  have hyl : L'.length = c.ts.length := by rw [← HY.out, List.length_map]
  refine ⟨⟨⟨b0, q0, b1, q1, b2, q2, b3, q3, L'⟩, rfl, fun B hB => ?_⟩, ?_⟩
  · exact ⟨rdG_of_own encV.len Q0 rfl, own_neE Q0 hB (Nat.zero_le _), HY.out, rdG_of_own encT.len Q1 hyl, own_neE Q1 hB (Nat.zero_le _), fun t ht => ⟨rdG_of_own encN.len (QT t ht).p rfl, own_neE (QT t ht).p hB (Nat.zero_le _), rdG_of_own encZ.len (QT t ht).k rfl, own_neE (QT t ht).k hB (Nat.zero_le _)⟩, rdG_of_own encN.len Q2 rfl, own_neE Q2 hB (Nat.zero_le _), own_le Q2, rdG_of_own encX.len Q3 rfl, own_neE Q3 hB (Nat.zero_le _)⟩
  · exact (D.out.grown (G2 _) D.out.size (fun k hk => by injection hk with hk; have := hge.out; omega)).grown (G1 _ _ _ _ _) (by rw [World.size_setCell]; exact D.out.size) (fun k hk => by injection hk with hk; have := hge.out; omega)
end Go.Proofs.Ytmejdblobikclaa
