/- MoveSome at a right table, by the program. -/
import Derived.Test.YtinjohpeanlalaaTabMN
import Derived.Test.YtinjohpeanlalaaXI
namespace Go.Proofs.Ytinjohpeanlalaa
open Go.RowKit

/-- So many steps of moving, by the program's way. -/
def moveI (l o : List Ce) (m : Nat) : Nat → List Ce × List Ce × Nat
  | 0 => (l, o, m)
  | s + 1 => match o[m]? with
    | none => (l, o, m)
    | some x => match stepM l x with
      | none => (l, o, m)
      | some l' => moveI l' (o.set m gC) (m + 1) s
def endI (l o : List Ce) (m s : Nat) : List Ce × List Ce × Nat := if (moveI l o m s).2.2 = o.length then ((moveI l o m s).1, [], 0) else moveI l o m s
theorem next2_any {B b g mv : Nat} {w : World} {l o : List Ce} (h : Brd B w b g l o mv) (hB : B ≤ w.heap.size) (hm : mv < o.length) (hl : l.length ≤ 1048576) (hl0 : 0 < l.length) (ho : o.length ≤ 1048576) (hk : o[mv].key.size ≤ 1048576) :
    Calls Try.prog 49 #[.pointer (some ⟨b, 0, none⟩)] w fun e w' => ∃ t : Bool, e = .returned (.bool t) ∧ ((t = true ∧ ∃ l', stepM l o[mv] = some l' ∧ Brd B w' b g l' (o.set mv gC) (mv + 1)) ∨ (t = false ∧ stepM l o[mv] = none ∧ Brd B w' b g l o mv)) ∧ Below B w w' := by
  refine (next_any h hB hm hl hl0 ho hk).mono ?_
  rintro e w' ⟨⟨l', h1, h2, h3⟩ | ⟨h1, h2, h3⟩, hb⟩
  · exact ⟨true, h2, .inl ⟨rfl, l', h1, h3⟩, hb⟩
  · exact ⟨false, h2, .inr ⟨rfl, h1, h3⟩, hb⟩
theorem MadeV.put {w w3 w4 : World} {r : Nat} {v : Value} {L O : List Ce} {M : Int} (h : MadeV w3 w4 v L O M) (hB : Below w.heap.size w w3) (hr : w.heap.size ≤ r) (hr3 : r < w3.heap.size) (x y z : Value) : MadeV w (put3 w4 r x y z) v L O M := by
  obtain ⟨b, c, b', c', e, o1, o2, hne, hb⟩ := h
  refine ⟨b, c, b', c', e, own_base (own_put3 o1 (fun k hk => ?_) x y z) hB.size, own_base (own_put3 o2 (fun k hk => ?_) x y z) hB.size, hne, put3_below (hB.trans (hb.mono hB.size)) hr x y z⟩
  · have := (o1.lt k hk).1
    omega
  · have := (o2.lt k hk).1
    omega
/-- What the walk of MoveSome holds. -/
structure MvI (w wr : World) (B b g : Nat) (l o L O : List Ce) (M : Nat) : Prop where
  brd : Brd B wr b g L O M
  r : Blk wr (w.heap.size + 1) 29 [.slice none 0 0, .slice none 0 0, .int .i64 0]
  bw : Below w.heap.size w wr
  hB : B ≤ wr.heap.size
  l1 : L.length = l.length
  o1 : O.length = o.length
  ks : ∀ c ∈ O, c.key.size ≤ 1048576
  rB : w.heap.size + 1 < B
theorem MvI.later {w wr w' : World} {B b g : Nat} {l o L O : List Ce} {M : Nat} (h : MvI w wr B b g l o L O M) (hb : Below wr.heap.size wr w') : MvI w w' B b g l o L O M :=
  ⟨h.brd.later hb, h.r.below hb h.r.lt, h.bw.trans (hb.mono h.bw.size), Nat.le_trans h.hB hb.size, h.l1, h.o1, h.ks, h.rB⟩
theorem MvI.step {w wr w' : World} {B b g : Nat} {l o L O L' O' : List Ce} {M M' : Nat} (h : MvI w wr B b g l o L O M) (hb : Below B wr w') (hbr : Brd B w' b g L' O' M') (h1 : L'.length = L.length) (h2 : O'.length = O.length) (h3 : ∀ c ∈ O', c.key.size ≤ 1048576) : MvI w w' B b g l o L' O' M' :=
  ⟨hbr, h.r.below hb h.rB, h.bw.trans (hb.mono (by have := h.rB; omega)), Nat.le_trans h.hB hb.size, h1.trans h.l1, h2.trans h.o1, h3, h.rB⟩
theorem ks_set {O : List Ce} {M : Nat} (h : ∀ c ∈ O, c.key.size ≤ 1048576) : ∀ c ∈ O.set M gC, c.key.size ≤ 1048576 := by
  intro c hc
  rcases List.mem_or_eq_of_mem_set hc with h1 | h1
  · exact h c h1
  · rw [h1]; decide

set_option maxRecDepth 100000 in
set_option maxHeartbeats 4000000 in
theorem implMove_any (ao a' : Option Addr) (l o : List Ce) (ca ca' m s : Nat) (w : World) (hs1 : 1 ≤ s) (hs : s ≤ 1000) (hok : OkT l o (m : Int)) (hks : ∀ c ∈ o, c.key.size ≤ 1048576) (hA : RdJ w ao l) (hA' : RdJ w a' o) :
    Calls Try.prog 20 #[tbV ao l.length ca a' o.length ca' (m : Int), .int .i64 (s : Int)] w fun e w' => ∃ v, e = .returned v ∧ MadeV w w' v (endI l o m s).1 (endI l o m s).2.1 ((endI l o m s).2.2 : Int) := by
  have hll := hok.len
  have hsz := hok.size
  have CB := hide1 (fun w' (hb : Below w.heap.size w w') => boardOf_any ao a' l o ca ca' (m : Int) w' (by omega) (by omega) (hA.later hb) (hA'.later hb))
  have F0 := hide1 (boxes w #[.slice ao l.length ca, .slice a' o.length ca', .int .i64 (m : Int)] #[.slice none 0 0, .slice none 0 0, .int .i64 0] 29)
  have HOK := hide1 hok
  have HKS := hide1 hks
  clear hA hA' hok hks
  unfold tbV at CB ⊢
  go_enter Try.func20, Try.ntmps20
  go_wp2_with fail
  generalize ((w.alloc (.cells #[.slice ao l.length ca, .slice a' o.length ca', .int .i64 (m : Int)] 29)).alloc (.cells #[.slice none 0 0, .slice none 0 0, .int .i64 0] 29)) = w0 at F0 ⊢
  obtain ⟨K0, R0, B0⟩ := F0.out
  have R0 := hide1 R0
  have B0 := hide1 B0
  clear F0 K0
  refine (CB.out w0 B0.out).mono ?_
  rintro e w1 ⟨hr, hb1⟩
  rcases hr with ⟨b, g, m', rfl, hm, hok, hbr⟩ | ⟨v, rfl, hn⟩
  · obtain rfl : m' = m := by omega
    have I1 : Hid (MvI w w1 w0.heap.size b g l o l o m') := ⟨hbr, R0.out.below hb1 R0.out.lt, B0.out.trans (hb1.mono B0.out.size), hb1.size, rfl, rfl, HKS.out, R0.out.lt⟩
    have qs : decide ((s : Int) < 1) = false := decide_eq_false (by omega)
    generalize w0.heap.size = B at *
    clear hm hok hbr hb1 CB R0 B0
    go_wp2
    go_loopw [1] (fun sv wr => ∃ (k : Nat) (L O : List Ce) (M : Nat), k ≤ s ∧ sv = .int .i64 (k : Int) ∧ Hid (MvI w wr B b g l o L O M) ∧ Hid (moveI l o m' s = moveI L O M k)) (fun sv _ => (intOf sv).toNat)
    case atStart => exact ⟨s, l, o, m', Nat.le_refl _, rfl, I1, rfl⟩
    case round =>
      obtain ⟨k, L, O, M, hk, rfl, HI, HS⟩ := hrel
      obtain ⟨W, hWW⟩ : ∃ W, W = wr := ⟨_, rfl⟩
      subst hWW
      by_cases hM : M < O.length
      · have qM : decide ((M : Int) < (O.length : Int)) = true := decide_eq_true (by omega)
        have hO64 : O.length ≤ 64 := by rw [HI.out.o1]; omega
        by_cases hk0 : 0 < k
        · have qk : decide ((0 : Int) < (k : Int)) = true := decide_eq_true (by omega)
          have hL0 : 0 < L.length := by rw [HI.out.l1]; omega
          have hL64 : L.length ≤ 64 := by rw [HI.out.l1]; omega
          have hkz : O[M].key.size ≤ 1048576 := HI.out.ks _ (List.getElem_mem hM)
          have CN := hide1 (fun w' (hb : Below W.heap.size W w') => next2_any (HI.out.brd.later hb) (Nat.le_trans HI.out.hB hb.size) hM (by omega) hL0 (by omega) hkz)
          have HST : Hid (moveI L O M k = match stepM L O[M] with | none => (L, O, M) | some l' => moveI l' (O.set M gC) (M + 1) (k - 1)) := by
            show moveI L O M k = _
            obtain ⟨j, rfl⟩ : ∃ j, k = j + 1 := ⟨k - 1, by omega⟩
            rw [moveI, List.getElem?_eq_getElem hM]
            rfl
          have c1 : W.cell? ⟨b, 1, none⟩ = some (.slice (oldP g L.length O.length) O.length O.length) := HI.out.brd.hd.cell 1
          have c2 : W.cell? ⟨b, 2, none⟩ = some (.int .i64 (M : Int)) := HI.out.brd.hd.cell 2
          generalize O[M] = x at *
          go_upto_region 4 with fail
          go_region_with ((go_at_call 49; refine (CN.out _ (by go_grown)).mono ?_; rintro e w5 ⟨t, rfl, hr5, hb5⟩; have HR5 := hide1 hr5; have HB5 : Hid (Below B W w5) := ((show Below W.heap.size W _ by go_grown).mono HI.out.hB).trans hb5; clear hr5 hb5))
          all_goals
            rcases t with _ | _
            · have HR6 : Hid (stepM L x = none ∧ Brd B w5 b g L O M) := by
                rcases HR5.out with ⟨h, _⟩ | ⟨_, h⟩
                · cases h
                · exact h
              have HE : Hid (moveI l o m' s = (L, O, M)) := by show moveI l o m' s = _; rw [HS.out, HST.out, HR6.out.1]
              have HI5 : Hid (MvI w w5 B b g l o L O M) := HI.out.step HB5.out HR6.out.2 rfl rfl HI.out.ks
              clear HI HR5 HR6 HB5 HST HS CN c1 c2 qM hM
              have HI := HI5
              clear HI5
              have c1 : w5.cell? ⟨b, 1, none⟩ = some (.slice (oldP g L.length O.length) O.length O.length) := HI.out.brd.hd.cell 1
              have c2 : w5.cell? ⟨b, 2, none⟩ = some (.int .i64 (M : Int)) := HI.out.brd.hd.cell 2
              have hle1 : L.length ≤ 64 := by rw [HI.out.l1]; omega
              have hle2 : O.length ≤ 64 := by rw [HI.out.o1]; omega
              by_cases e : M = O.length
              · have q6 : ((M : Int) == (O.length : Int)) = true := by simp [e]
                have HF : Hid (endI l o m' s = (L, [], 0)) := by show endI l o m' s = _; unfold endI; rw [HE.out]; simp only; rw [← HI.out.o1, if_pos e]
                have f1 := HI.out.brd.hd.froz 1
                have f2 := HI.out.brd.hd.froz 2
                clear e
                go_wp2
                go_quiet (fail)
                go_wp2_with fail
                have I7 : Hid (MvI w (w5.drewN nq) B b g l o L O M) := HI.out.later (below_drewN (Below.refl _ _) nq)
                have K7 := hide1 (Blk.set (Blk.set I7.out.brd.hd 1 (.slice none 0 0)) 2 (.int .i64 0))
                have T7 := hide1 ((I7.out.brd.tl.far ⟨b, 1, none⟩ (.slice none 0 0) (Ne.symm I7.out.brd.ne)).far ⟨b, 2, none⟩ (.int .i64 0) (Ne.symm I7.out.brd.ne))
                have hbw : w.heap.size ≤ b := by have h1 := I7.out.brd.lb; have h2 := I7.out.rB; omega
                have hrb : w.heap.size + 1 ≠ b := by have h1 := I7.out.brd.lb; have h2 := I7.out.rB; omega
                have R7 := hide1 ((I7.out.r.far ⟨b, 1, none⟩ (.slice none 0 0) hrb).far ⟨b, 2, none⟩ (.int .i64 0) hrb)
                have B7 := hide1 ((I7.out.bw.setCell (p := ⟨b, 1, none⟩) hbw (.slice none 0 0)).setCell (p := ⟨b, 2, none⟩) hbw (.int .i64 0))
                generalize (((w5.drewN nq).setCell ⟨b, 1, none⟩ (.slice none 0 0)).setCell ⟨b, 2, none⟩ (.int .i64 0)) = w7 at K7 T7 R7 B7 ⊢
                have CT := hide1 (table_any (some ⟨g, 0, none⟩) none L [] L.length 0 0 K7.out (by omega) (Nat.zero_le _) (Blk.segrd (A := []) (L := L) (C := O) (of := 0) T7.out rfl (fun _ => rfl)) (fun i hi => by simp at hi))
                have l7 := R7.out.lt
                refine CT.out.mono ?_
                rintro e w9 ⟨v, rfl, hv⟩
                have HN := hide1 (hv.put (r := w.heap.size + 1) B7.out (by omega) l7)
                obtain ⟨b3, c3, b4, c4, rfl, _, _, _, hb9⟩ := hv
                have R9 := hide1 (R7.out.below hb9 l7)
                have HH := hide1 (put3_blk R9.out (.slice (some ⟨b3, 0, none⟩) (L).length c3) (.slice (some ⟨b4, 0, none⟩) (([] : List Ce)).length c4) (.int .i64 0))
                have HN := hide1 (HN.out (.slice (some ⟨b3, 0, none⟩) (L).length c3) (.slice (some ⟨b4, 0, none⟩) (([] : List Ce)).length c4) (.int .i64 0))
                have y0 : w9.cell? ⟨w.heap.size + 1, 0, none⟩ = some (.slice none 0 0) := R9.out.cell 0
                have y1 : w9.cell? ⟨w.heap.size + 1, 1, none⟩ = some (.slice none 0 0) := R9.out.cell 1
                have y2 : w9.cell? ⟨w.heap.size + 1, 2, none⟩ = some (.int .i64 0) := R9.out.cell 2
                have yf : ∀ j, w9.frozen? ⟨w.heap.size + 1, j, none⟩ = false := fun j => R9.out.froz j
                unfold put3 at HN HH
                unfold tbV at HN ⊢
                clear hb9
                generalize (L).length = nL at *
                generalize (([] : List Ce)).length = nO at *
                go_wp2
                refine bodyPost_ret (results_cell_row Try.results20 _ _ (w.heap.size + 1) 29 #[.slice (some ⟨b3, 0, none⟩) nL c3, .slice (some ⟨b4, 0, none⟩) nO c4, .int .i64 0] (0, 0) _ rfl HH.out Try.underlying29 rfl (by kernel_rfl)) rfl ?_
                rw [HF.out]
                exact ⟨_, rfl, HN.out⟩
              · have q6 : ((M : Int) == (O.length : Int)) = false := by simp; omega
                have HF : Hid (endI l o m' s = (L, O, M)) := by show endI l o m' s = _; unfold endI; rw [HE.out]; simp only; rw [← HI.out.o1, if_neg e]
                clear e
                go_wp2
                go_quiet (fail)
                go_wp2_with fail
                have I7 : Hid (MvI w (w5.drewN nq) B b g l o L O M) := HI.out.later (below_drewN (Below.refl _ _) nq)
                generalize w5.drewN nq = w7 at I7 ⊢
                have CT := hide1 (table_any (some ⟨g, 0, none⟩) (oldP g L.length O.length) L O L.length O.length (M : Int) I7.out.brd.hd (by omega) (by omega) I7.out.brd.cells I7.out.brd.olds)
                have l7 := I7.out.r.lt
                refine CT.out.mono ?_
                rintro e w9 ⟨v, rfl, hv⟩
                have HN := hide1 (hv.put (r := w.heap.size + 1) I7.out.bw (by omega) l7)
                obtain ⟨b3, c3, b4, c4, rfl, _, _, _, hb9⟩ := hv
                have R9 := hide1 (I7.out.r.below hb9 l7)
                have HH := hide1 (put3_blk R9.out (.slice (some ⟨b3, 0, none⟩) (L).length c3) (.slice (some ⟨b4, 0, none⟩) (O).length c4) (.int .i64 (M : Int)))
                have HN := hide1 (HN.out (.slice (some ⟨b3, 0, none⟩) (L).length c3) (.slice (some ⟨b4, 0, none⟩) (O).length c4) (.int .i64 (M : Int)))
                have y0 : w9.cell? ⟨w.heap.size + 1, 0, none⟩ = some (.slice none 0 0) := R9.out.cell 0
                have y1 : w9.cell? ⟨w.heap.size + 1, 1, none⟩ = some (.slice none 0 0) := R9.out.cell 1
                have y2 : w9.cell? ⟨w.heap.size + 1, 2, none⟩ = some (.int .i64 0) := R9.out.cell 2
                have yf : ∀ j, w9.frozen? ⟨w.heap.size + 1, j, none⟩ = false := fun j => R9.out.froz j
                unfold put3 at HN HH
                unfold tbV at HN ⊢
                clear hb9
                generalize (L).length = nL at *
                generalize (O).length = nO at *
                go_wp2
                refine bodyPost_ret (results_cell_row Try.results20 _ _ (w.heap.size + 1) 29 #[.slice (some ⟨b3, 0, none⟩) nL c3, .slice (some ⟨b4, 0, none⟩) nO c4, .int .i64 (M : Int)] (0, 0) _ rfl HH.out Try.underlying29 rfl (by kernel_rfl)) rfl ?_
                rw [HF.out]
                exact ⟨_, rfl, HN.out⟩
            · have HR6 : Hid (∃ l', stepM L x = some l' ∧ Brd B w5 b g l' (O.set M gC) (M + 1)) := by
                rcases HR5.out with ⟨_, h⟩ | ⟨h, _⟩
                · exact h
                · cases h
              obtain ⟨l', hl', hbr'⟩ := HR6.out
              have HS2 : Hid (moveI l o m' s = moveI l' (O.set M gC) (M + 1) (k - 1)) := by show moveI l o m' s = _; rw [HS.out, HST.out, hl']
              have HI5 : Hid (MvI w w5 B b g l o l' (O.set M gC) (M + 1)) := HI.out.step HB5.out hbr' (stepM_len hl') (List.length_set ..) (ks_set HI.out.ks)
              clear hl' hbr' HR6 HR5
              go_wp2
              go_roundw
              case rel => exact ⟨k - 1, l', O.set M gC, M + 1, by omega, by go_num, HI5, HS2⟩
              case measure => simp [intOf]; omega
        · have hk00 : k = 0 := by omega
          have qk : decide ((0 : Int) < (k : Int)) = false := decide_eq_false (by omega)
          have HE : Hid (moveI l o m' s = (L, O, M)) := by show moveI l o m' s = _; rw [HS.out, hk00]; rfl
          have c1 : W.cell? ⟨b, 1, none⟩ = some (.slice (oldP g L.length O.length) O.length O.length) := HI.out.brd.hd.cell 1
          have c2 : W.cell? ⟨b, 2, none⟩ = some (.int .i64 (M : Int)) := HI.out.brd.hd.cell 2
          clear hk00 HS
          go_upto_region 4 with fail
          go_quiet (fail)
          have HI5 : Hid (MvI w (W.drewN nq) B b g l o L O M) := HI.out.later (below_drewN (Below.refl _ _) nq)
          generalize W.drewN nq = w5 at HI5 ⊢
          clear HI qM hM c1 c2
          have HI := HI5
          clear HI5
          have c1 : w5.cell? ⟨b, 1, none⟩ = some (.slice (oldP g L.length O.length) O.length O.length) := HI.out.brd.hd.cell 1
          have c2 : w5.cell? ⟨b, 2, none⟩ = some (.int .i64 (M : Int)) := HI.out.brd.hd.cell 2
          have hle1 : L.length ≤ 64 := by rw [HI.out.l1]; omega
          have hle2 : O.length ≤ 64 := by rw [HI.out.o1]; omega
          by_cases e : M = O.length
          · have q6 : ((M : Int) == (O.length : Int)) = true := by simp [e]
            have HF : Hid (endI l o m' s = (L, [], 0)) := by show endI l o m' s = _; unfold endI; rw [HE.out]; simp only; rw [← HI.out.o1, if_pos e]
            have f1 := HI.out.brd.hd.froz 1
            have f2 := HI.out.brd.hd.froz 2
            clear e
            go_wp2
            go_quiet (fail)
            go_wp2_with fail
            have I7 : Hid (MvI w (w5.drewN nq) B b g l o L O M) := HI.out.later (below_drewN (Below.refl _ _) nq)
            have K7 := hide1 (Blk.set (Blk.set I7.out.brd.hd 1 (.slice none 0 0)) 2 (.int .i64 0))
            have T7 := hide1 ((I7.out.brd.tl.far ⟨b, 1, none⟩ (.slice none 0 0) (Ne.symm I7.out.brd.ne)).far ⟨b, 2, none⟩ (.int .i64 0) (Ne.symm I7.out.brd.ne))
            have hbw : w.heap.size ≤ b := by have h1 := I7.out.brd.lb; have h2 := I7.out.rB; omega
            have hrb : w.heap.size + 1 ≠ b := by have h1 := I7.out.brd.lb; have h2 := I7.out.rB; omega
            have R7 := hide1 ((I7.out.r.far ⟨b, 1, none⟩ (.slice none 0 0) hrb).far ⟨b, 2, none⟩ (.int .i64 0) hrb)
            have B7 := hide1 ((I7.out.bw.setCell (p := ⟨b, 1, none⟩) hbw (.slice none 0 0)).setCell (p := ⟨b, 2, none⟩) hbw (.int .i64 0))
            generalize (((w5.drewN nq).setCell ⟨b, 1, none⟩ (.slice none 0 0)).setCell ⟨b, 2, none⟩ (.int .i64 0)) = w7 at K7 T7 R7 B7 ⊢
            have CT := hide1 (table_any (some ⟨g, 0, none⟩) none L [] L.length 0 0 K7.out (by omega) (Nat.zero_le _) (Blk.segrd (A := []) (L := L) (C := O) (of := 0) T7.out rfl (fun _ => rfl)) (fun i hi => by simp at hi))
            have l7 := R7.out.lt
            refine CT.out.mono ?_
            rintro e w9 ⟨v, rfl, hv⟩
            have HN := hide1 (hv.put (r := w.heap.size + 1) B7.out (by omega) l7)
            obtain ⟨b3, c3, b4, c4, rfl, _, _, _, hb9⟩ := hv
            have R9 := hide1 (R7.out.below hb9 l7)
            have HH := hide1 (put3_blk R9.out (.slice (some ⟨b3, 0, none⟩) (L).length c3) (.slice (some ⟨b4, 0, none⟩) (([] : List Ce)).length c4) (.int .i64 0))
            have HN := hide1 (HN.out (.slice (some ⟨b3, 0, none⟩) (L).length c3) (.slice (some ⟨b4, 0, none⟩) (([] : List Ce)).length c4) (.int .i64 0))
            have y0 : w9.cell? ⟨w.heap.size + 1, 0, none⟩ = some (.slice none 0 0) := R9.out.cell 0
            have y1 : w9.cell? ⟨w.heap.size + 1, 1, none⟩ = some (.slice none 0 0) := R9.out.cell 1
            have y2 : w9.cell? ⟨w.heap.size + 1, 2, none⟩ = some (.int .i64 0) := R9.out.cell 2
            have yf : ∀ j, w9.frozen? ⟨w.heap.size + 1, j, none⟩ = false := fun j => R9.out.froz j
            unfold put3 at HN HH
            unfold tbV at HN ⊢
            clear hb9
            generalize (L).length = nL at *
            generalize (([] : List Ce)).length = nO at *
            go_wp2
            refine bodyPost_ret (results_cell_row Try.results20 _ _ (w.heap.size + 1) 29 #[.slice (some ⟨b3, 0, none⟩) nL c3, .slice (some ⟨b4, 0, none⟩) nO c4, .int .i64 0] (0, 0) _ rfl HH.out Try.underlying29 rfl (by kernel_rfl)) rfl ?_
            rw [HF.out]
            exact ⟨_, rfl, HN.out⟩
          · have q6 : ((M : Int) == (O.length : Int)) = false := by simp; omega
            have HF : Hid (endI l o m' s = (L, O, M)) := by show endI l o m' s = _; unfold endI; rw [HE.out]; simp only; rw [← HI.out.o1, if_neg e]
            clear e
            go_wp2
            go_quiet (fail)
            go_wp2_with fail
            have I7 : Hid (MvI w (w5.drewN nq) B b g l o L O M) := HI.out.later (below_drewN (Below.refl _ _) nq)
            generalize w5.drewN nq = w7 at I7 ⊢
            have CT := hide1 (table_any (some ⟨g, 0, none⟩) (oldP g L.length O.length) L O L.length O.length (M : Int) I7.out.brd.hd (by omega) (by omega) I7.out.brd.cells I7.out.brd.olds)
            have l7 := I7.out.r.lt
            refine CT.out.mono ?_
            rintro e w9 ⟨v, rfl, hv⟩
            have HN := hide1 (hv.put (r := w.heap.size + 1) I7.out.bw (by omega) l7)
            obtain ⟨b3, c3, b4, c4, rfl, _, _, _, hb9⟩ := hv
            have R9 := hide1 (I7.out.r.below hb9 l7)
            have HH := hide1 (put3_blk R9.out (.slice (some ⟨b3, 0, none⟩) (L).length c3) (.slice (some ⟨b4, 0, none⟩) (O).length c4) (.int .i64 (M : Int)))
            have HN := hide1 (HN.out (.slice (some ⟨b3, 0, none⟩) (L).length c3) (.slice (some ⟨b4, 0, none⟩) (O).length c4) (.int .i64 (M : Int)))
            have y0 : w9.cell? ⟨w.heap.size + 1, 0, none⟩ = some (.slice none 0 0) := R9.out.cell 0
            have y1 : w9.cell? ⟨w.heap.size + 1, 1, none⟩ = some (.slice none 0 0) := R9.out.cell 1
            have y2 : w9.cell? ⟨w.heap.size + 1, 2, none⟩ = some (.int .i64 0) := R9.out.cell 2
            have yf : ∀ j, w9.frozen? ⟨w.heap.size + 1, j, none⟩ = false := fun j => R9.out.froz j
            unfold put3 at HN HH
            unfold tbV at HN ⊢
            clear hb9
            generalize (L).length = nL at *
            generalize (O).length = nO at *
            go_wp2
            refine bodyPost_ret (results_cell_row Try.results20 _ _ (w.heap.size + 1) 29 #[.slice (some ⟨b3, 0, none⟩) nL c3, .slice (some ⟨b4, 0, none⟩) nO c4, .int .i64 (M : Int)] (0, 0) _ rfl HH.out Try.underlying29 rfl (by kernel_rfl)) rfl ?_
            rw [HF.out]
            exact ⟨_, rfl, HN.out⟩
      · have qM : decide ((M : Int) < (O.length : Int)) = false := decide_eq_false (by omega)
        have hO64 : O.length ≤ 64 := by rw [HI.out.o1]; omega
        have HE : Hid (moveI l o m' s = (L, O, M)) := by
          show moveI l o m' s = _
          rw [HS.out]
          cases k with
          | zero => rfl
          | succ k => rw [moveI, List.getElem?_eq_none_iff.2 (by omega)]
        have c1 : W.cell? ⟨b, 1, none⟩ = some (.slice (oldP g L.length O.length) O.length O.length) := HI.out.brd.hd.cell 1
        have c2 : W.cell? ⟨b, 2, none⟩ = some (.int .i64 (M : Int)) := HI.out.brd.hd.cell 2
        clear HS
        go_upto_region 4 with fail
        go_quiet (fail)
        have HI5 : Hid (MvI w (W.drewN nq) B b g l o L O M) := HI.out.later (below_drewN (Below.refl _ _) nq)
        generalize W.drewN nq = w5 at HI5 ⊢
        clear HI qM hM c1 c2
        have HI := HI5
        clear HI5
        have c1 : w5.cell? ⟨b, 1, none⟩ = some (.slice (oldP g L.length O.length) O.length O.length) := HI.out.brd.hd.cell 1
        have c2 : w5.cell? ⟨b, 2, none⟩ = some (.int .i64 (M : Int)) := HI.out.brd.hd.cell 2
        have hle1 : L.length ≤ 64 := by rw [HI.out.l1]; omega
        have hle2 : O.length ≤ 64 := by rw [HI.out.o1]; omega
        by_cases e : M = O.length
        · have q6 : ((M : Int) == (O.length : Int)) = true := by simp [e]
          have HF : Hid (endI l o m' s = (L, [], 0)) := by show endI l o m' s = _; unfold endI; rw [HE.out]; simp only; rw [← HI.out.o1, if_pos e]
          have f1 := HI.out.brd.hd.froz 1
          have f2 := HI.out.brd.hd.froz 2
          clear e
          go_wp2
          go_quiet (fail)
          go_wp2_with fail
          have I7 : Hid (MvI w (w5.drewN nq) B b g l o L O M) := HI.out.later (below_drewN (Below.refl _ _) nq)
          have K7 := hide1 (Blk.set (Blk.set I7.out.brd.hd 1 (.slice none 0 0)) 2 (.int .i64 0))
          have T7 := hide1 ((I7.out.brd.tl.far ⟨b, 1, none⟩ (.slice none 0 0) (Ne.symm I7.out.brd.ne)).far ⟨b, 2, none⟩ (.int .i64 0) (Ne.symm I7.out.brd.ne))
          have hbw : w.heap.size ≤ b := by have h1 := I7.out.brd.lb; have h2 := I7.out.rB; omega
          have hrb : w.heap.size + 1 ≠ b := by have h1 := I7.out.brd.lb; have h2 := I7.out.rB; omega
          have R7 := hide1 ((I7.out.r.far ⟨b, 1, none⟩ (.slice none 0 0) hrb).far ⟨b, 2, none⟩ (.int .i64 0) hrb)
          have B7 := hide1 ((I7.out.bw.setCell (p := ⟨b, 1, none⟩) hbw (.slice none 0 0)).setCell (p := ⟨b, 2, none⟩) hbw (.int .i64 0))
          generalize (((w5.drewN nq).setCell ⟨b, 1, none⟩ (.slice none 0 0)).setCell ⟨b, 2, none⟩ (.int .i64 0)) = w7 at K7 T7 R7 B7 ⊢
          have CT := hide1 (table_any (some ⟨g, 0, none⟩) none L [] L.length 0 0 K7.out (by omega) (Nat.zero_le _) (Blk.segrd (A := []) (L := L) (C := O) (of := 0) T7.out rfl (fun _ => rfl)) (fun i hi => by simp at hi))
          have l7 := R7.out.lt
          refine CT.out.mono ?_
          rintro e w9 ⟨v, rfl, hv⟩
          have HN := hide1 (hv.put (r := w.heap.size + 1) B7.out (by omega) l7)
          obtain ⟨b3, c3, b4, c4, rfl, _, _, _, hb9⟩ := hv
          have R9 := hide1 (R7.out.below hb9 l7)
          have HH := hide1 (put3_blk R9.out (.slice (some ⟨b3, 0, none⟩) (L).length c3) (.slice (some ⟨b4, 0, none⟩) (([] : List Ce)).length c4) (.int .i64 0))
          have HN := hide1 (HN.out (.slice (some ⟨b3, 0, none⟩) (L).length c3) (.slice (some ⟨b4, 0, none⟩) (([] : List Ce)).length c4) (.int .i64 0))
          have y0 : w9.cell? ⟨w.heap.size + 1, 0, none⟩ = some (.slice none 0 0) := R9.out.cell 0
          have y1 : w9.cell? ⟨w.heap.size + 1, 1, none⟩ = some (.slice none 0 0) := R9.out.cell 1
          have y2 : w9.cell? ⟨w.heap.size + 1, 2, none⟩ = some (.int .i64 0) := R9.out.cell 2
          have yf : ∀ j, w9.frozen? ⟨w.heap.size + 1, j, none⟩ = false := fun j => R9.out.froz j
          unfold put3 at HN HH
          unfold tbV at HN ⊢
          clear hb9
          generalize (L).length = nL at *
          generalize (([] : List Ce)).length = nO at *
          go_wp2
          refine bodyPost_ret (results_cell_row Try.results20 _ _ (w.heap.size + 1) 29 #[.slice (some ⟨b3, 0, none⟩) nL c3, .slice (some ⟨b4, 0, none⟩) nO c4, .int .i64 0] (0, 0) _ rfl HH.out Try.underlying29 rfl (by kernel_rfl)) rfl ?_
          rw [HF.out]
          exact ⟨_, rfl, HN.out⟩
        · have q6 : ((M : Int) == (O.length : Int)) = false := by simp; omega
          have HF : Hid (endI l o m' s = (L, O, M)) := by show endI l o m' s = _; unfold endI; rw [HE.out]; simp only; rw [← HI.out.o1, if_neg e]
          clear e
          go_wp2
          go_quiet (fail)
          go_wp2_with fail
          have I7 : Hid (MvI w (w5.drewN nq) B b g l o L O M) := HI.out.later (below_drewN (Below.refl _ _) nq)
          generalize w5.drewN nq = w7 at I7 ⊢
          have CT := hide1 (table_any (some ⟨g, 0, none⟩) (oldP g L.length O.length) L O L.length O.length (M : Int) I7.out.brd.hd (by omega) (by omega) I7.out.brd.cells I7.out.brd.olds)
          have l7 := I7.out.r.lt
          refine CT.out.mono ?_
          rintro e w9 ⟨v, rfl, hv⟩
          have HN := hide1 (hv.put (r := w.heap.size + 1) I7.out.bw (by omega) l7)
          obtain ⟨b3, c3, b4, c4, rfl, _, _, _, hb9⟩ := hv
          have R9 := hide1 (I7.out.r.below hb9 l7)
          have HH := hide1 (put3_blk R9.out (.slice (some ⟨b3, 0, none⟩) (L).length c3) (.slice (some ⟨b4, 0, none⟩) (O).length c4) (.int .i64 (M : Int)))
          have HN := hide1 (HN.out (.slice (some ⟨b3, 0, none⟩) (L).length c3) (.slice (some ⟨b4, 0, none⟩) (O).length c4) (.int .i64 (M : Int)))
          have y0 : w9.cell? ⟨w.heap.size + 1, 0, none⟩ = some (.slice none 0 0) := R9.out.cell 0
          have y1 : w9.cell? ⟨w.heap.size + 1, 1, none⟩ = some (.slice none 0 0) := R9.out.cell 1
          have y2 : w9.cell? ⟨w.heap.size + 1, 2, none⟩ = some (.int .i64 0) := R9.out.cell 2
          have yf : ∀ j, w9.frozen? ⟨w.heap.size + 1, j, none⟩ = false := fun j => R9.out.froz j
          unfold put3 at HN HH
          unfold tbV at HN ⊢
          clear hb9
          generalize (L).length = nL at *
          generalize (O).length = nO at *
          go_wp2
          refine bodyPost_ret (results_cell_row Try.results20 _ _ (w.heap.size + 1) 29 #[.slice (some ⟨b3, 0, none⟩) nL c3, .slice (some ⟨b4, 0, none⟩) nO c4, .int .i64 (M : Int)] (0, 0) _ rfl HH.out Try.underlying29 rfl (by kernel_rfl)) rfl ?_
          rw [HF.out]
          exact ⟨_, rfl, HN.out⟩
  · exact absurd HOK.out hn
end Go.Proofs.Ytinjohpeanlalaa
