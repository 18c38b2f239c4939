/- The program's reader: a whole message. -/
import Derived.Test.YtbkhhkknhbddeaaDoorRdK
namespace Go.Proofs.YtbkhhkknhbddeaaDoor
open Go.RowKit
set_option linter.unusedVariables false

theorem oneByte_any (R : Nat) (s : ByteArray) (p : Nat) (w : World) (hs : s.size ≤ 1048576) (hp : p ≤ s.size) (hB : Rdr w R s p) :
    Calls Tryd.prog 74 #[.pointer (some ⟨R, 0, none⟩)] w fun e w' => ((∃ n q, pOne s p = some (n, q) ∧ e = .returned (.int .i64 (n : Int)) ∧ Rdr w' R s q ∧ q ≤ s.size) ∨ (pOne s p = none ∧ e = .panicked stopC)) ∧ w.grownBy w' (some R) := by
  by_cases c : p < s.size
  · refine (oneByte_yes R s p w hs hB c).mono ?_
    rintro e w' ⟨rfl, hr, hg⟩
    exact ⟨.inl ⟨byt s p, p + 1, by unfold pOne; rw [if_pos c], rfl, hr, by omega⟩, hg⟩
  · refine (oneByte_no R s p w hs (by omega) hB c).mono ?_
    rintro e w' ⟨rfl, hg⟩
    exact ⟨.inr ⟨by unfold pOne; rw [if_neg c], rfl⟩, hg⟩
theorem number_any (R : Nat) (s : ByteArray) (p : Nat) (w : World) (hs : s.size ≤ 1048576) (hp : p ≤ s.size) (hB : Rdr w R s p) :
    Calls Tryd.prog 75 #[.pointer (some ⟨R, 0, none⟩)] w fun e w' => ((∃ n q, pVar s p = some (n, q) ∧ e = .returned (.int .i64 (n : Int)) ∧ Rdr w' R s q ∧ q ≤ s.size) ∨ (pVar s p = none ∧ e = .panicked stopC)) ∧ w.grownBy w' (some R) := by
  cases c : pVar s p with
  | some r =>
    obtain ⟨n, q⟩ := r
    refine (number_yes R s p n q w hs hp hB c).mono ?_
    rintro e w' ⟨rfl, hr, hg⟩
    exact ⟨.inl ⟨n, q, rfl, rfl, hr, pVar_le c⟩, hg⟩
  | none =>
    refine (number_no R s p w hs hp hB c).mono ?_
    rintro e w' ⟨rfl, hg⟩
    exact ⟨.inr ⟨rfl, rfl⟩, hg⟩
theorem imsB_mem {x : Im} : ∀ {l : List Im}, x ∈ l → (imB x).length ≤ (imsB l).length
  | y :: l, h => by
    show _ ≤ (imB y ++ imsB l).length
    rw [List.length_append]
    rcases List.mem_cons.1 h with rfl | h
    · omega
    · have := imsB_mem h
      omega
theorem pList_size {s : ByteArray} {p q : Nat} {l : List Im} (h : pList s p = some (l, q)) : l.length ≤ 12 ∧ ∀ x ∈ l, x.k.size ≤ s.size ∧ x.v.size ≤ s.size := by
  unfold pList at h
  rw [Option.bind_eq_some_iff] at h
  obtain ⟨⟨c, p1⟩, h1, h2⟩ := h
  by_cases c12 : 12 < c
  · simp only [if_pos c12] at h2; cases h2
  · simp only [if_neg c12] at h2
    obtain ⟨b1, b2, b3⟩ := pItems_back c p1 l q (pVar_le h1) h2
    refine ⟨by omega, fun x hx => ?_⟩
    have := imsB_mem hx
    have h3 := b2.2
    unfold imB at this
    have e1 : x.k.data.toList.length = x.k.size := by simp
    have e2 : x.v.data.toList.length = x.v.size := by simp
    simp only [List.length_append, e1, e2] at this
    omega
set_option maxRecDepth 100000 in
set_option maxHeartbeats 8000000 in
theorem message_any (R : Nat) (s : ByteArray) (w : World) (hs : s.size ≤ 1048576) (hB : Rdr w R s 0) :
    Calls Tryd.prog 58 #[.pointer (some ⟨R, 0, none⟩)] w fun e w' => ((∃ m a, readP s = some m ∧ e = .returned (.agg #[.int .i64 m.k, .int .i64 m.f, .int .i64 m.o, .int .i64 m.e, .int .i64 m.n, .slice a m.is.length m.is.length]) ∧ w'.ownsRow w.heap.size 51 3 (.slice a m.is.length m.is.length) m.is.length (rowG imC m.is)) ∨ (readP s = none ∧ e = .panicked stopC)) ∧ w.grownBy w' (some R) := by
  have lR : R < w.heap.size := hB.lt
  have F0 := hide1 (And.intro (Blk.new w 26 #[.int .i64 0, .int .i64 0, .int .i64 0, .int .i64 0, .int .i64 0, .slice none 0 0]) ((Below.refl w.heap.size w).alloc (Nat.le_refl _) (.cells #[.int .i64 0, .int .i64 0, .int .i64 0, .int .i64 0, .int .i64 0, .slice none 0 0] 26)))
  have R0 := hide1 hB
  clear hB
  go_enter Tryd.func58, Tryd.ntmps58
  go_upto_region 1 with fail
  generalize (w.alloc (.cells #[.int .i64 0, .int .i64 0, .int .i64 0, .int .i64 0, .int .i64 0, .slice none 0 0] 26)) = u at F0 ⊢
  obtain ⟨RB, hRB⟩ : ∃ X, X = w.heap.size := ⟨_, rfl⟩
  have K0 := hide1 F0.out.1
  rw [← hRB] at K0 ⊢
  have G0 := hide1 (show w.grownBy u (some R) from gnew F0.out.2)
  have D0 := hide1 (show Rdr u R s 0 from R0.out.below F0.out.2 lR)
  have hne : R ≠ RB := by omega
  have lRB : w.heap.size ≤ RB := by omega
  have hl0 : 0 ≤ s.size := Nat.zero_le _
  clear F0 R0 hRB
  go_wp2_with fail
  refine (oneByte_any R s 0 u hs hl0 D0.out).mono ?_
  rintro e w1 ⟨hcase, hg⟩
  have G1 := hide1 (gtrans G0.out hg)
  have K1 := hide1 (gblk hg K0.out (fun e => hne (by injection e)))
  clear hg G0 K0
  rcases hcase with ⟨k, q1, h1, rfl, hr, hq1⟩ | ⟨h1, rfl⟩
  rotate_left
  · exact ⟨rfl, .inr ⟨by unfold readP pHead; simp [h1], rfl⟩, G1.out⟩
  have D1 := hide1 hr
  clear hr D0
  go_wp2_with fail
  refine (oneByte_any R s q1 w1 hs hq1 D1.out).mono ?_
  rintro e w2 ⟨hcase, hg⟩
  have G2 := hide1 (gtrans G1.out hg)
  have K2 := hide1 (gblk hg K1.out (fun e => hne (by injection e)))
  clear hg G1 K1
  rcases hcase with ⟨f, q2, h2, rfl, hr, hq2⟩ | ⟨h2, rfl⟩
  rotate_left
  · exact ⟨rfl, .inr ⟨by unfold readP pHead; simp [h1, h2], rfl⟩, G2.out⟩
  have D2 := hide1 hr
  clear hr D1
  go_wp2_with fail
  refine (oneByte_any R s q2 w2 hs hq2 D2.out).mono ?_
  rintro e w3 ⟨hcase, hg⟩
  have G3 := hide1 (gtrans G2.out hg)
  have K3 := hide1 (gblk hg K2.out (fun e => hne (by injection e)))
  clear hg G2 K2
  rcases hcase with ⟨o, q3, h3, rfl, hr, hq3⟩ | ⟨h3, rfl⟩
  rotate_left
  · exact ⟨rfl, .inr ⟨by unfold readP pHead; simp [h1, h2, h3], rfl⟩, G3.out⟩
  have D3 := hide1 hr
  clear hr D2
  go_wp2_with fail
  refine (oneByte_any R s q3 w3 hs hq3 D3.out).mono ?_
  rintro e w4 ⟨hcase, hg⟩
  have G4 := hide1 (gtrans G3.out hg)
  have K4 := hide1 (gblk hg K3.out (fun e => hne (by injection e)))
  clear hg G3 K3
  rcases hcase with ⟨e9, q4, h4, rfl, hr, hq4⟩ | ⟨h4, rfl⟩
  rotate_left
  · exact ⟨rfl, .inr ⟨by unfold readP pHead; simp [h1, h2, h3, h4], rfl⟩, G4.out⟩
  have D4 := hide1 hr
  clear hr D3
  go_wp2_with fail
  refine (number_any R s q4 w4 hs hq4 D4.out).mono ?_
  rintro e w5 ⟨hcase, hg⟩
  have G5 := hide1 (gtrans G4.out hg)
  have K5 := hide1 (gblk hg K4.out (fun e => hne (by injection e)))
  clear hg G4 K4
  rcases hcase with ⟨n, q5, h5, rfl, hr, hq5⟩ | ⟨h5, rfl⟩
  rotate_left
  · exact ⟨rfl, .inr ⟨by unfold readP pHead; simp [h1, h2, h3, h4, h5], rfl⟩, G5.out⟩
  have D5 := hide1 hr
  clear hr D4
  go_wp2_with fail
  refine (items_any R s q5 w5 hs hq5 D5.out).mono ?_
  rintro e w6 ⟨hcase, hg⟩
  have G6 := hide1 (gtrans G5.out hg)
  have K6 := hide1 (gblk hg K5.out (fun e => hne (by injection e)))
  have l56 : w.heap.size ≤ w5.heap.size := G5.out.size
  have lRB5 : RB < w5.heap.size := K5.out.lt
  clear hg G5 K5
  rcases hcase with ⟨l, q6, al, h6, rfl, ho, hr, hq6⟩ | ⟨h6, rfl⟩
  rotate_left
  · exact ⟨rfl, .inr ⟨by unfold readP pHead; simp [h1, h2, h3, h4, h5, h6], rfl⟩, G6.out⟩
  have O6 := hide1 (own_base ho l56)
  have NE := hide1 (show ∀ g, (Value.slice al l.length l.length).ownBlock = some g → g ≠ RB from fun g hg => by have := (ho.lt g hg).1; omega)
  have D6 := hide1 hr
  have HEAD := hide1 (show pHead s = some (⟨(k : Int), (f : Int), (o : Int), (e9 : Int), (n : Int), l⟩, q6) by unfold pHead; simp [h1, h2, h3, h4, h5, h6])
  obtain ⟨hl12, hsz⟩ := pList_size h6
  clear h1 h2 h3 h4 h5 h6 ho hr D5
  have FM := hide1 (And.intro (Blk.new w6 26 #[.int .i64 (k : Int), .int .i64 (f : Int), .int .i64 (o : Int), .int .i64 (e9 : Int), .int .i64 (n : Int), .slice al l.length l.length]) ((Below.refl w6.heap.size w6).alloc (Nat.le_refl _) (.cells #[.int .i64 (k : Int), .int .i64 (f : Int), .int .i64 (o : Int), .int .i64 (e9 : Int), .int .i64 (n : Int), .slice al l.length l.length] 26)))
  go_upto_region 2 with fail
  generalize (w6.alloc (.cells #[.int .i64 (k : Int), .int .i64 (f : Int), .int .i64 (o : Int), .int .i64 (e9 : Int), .int .i64 (n : Int), .slice al l.length l.length] 26)) = v at FM ⊢
  obtain ⟨MB, hMB⟩ : ∃ X, X = w6.heap.size := ⟨_, rfl⟩
  have KM := hide1 FM.out.1
  rw [← hMB] at KM ⊢
  have EV := hide1 FM.out.2
  have GV := hide1 (gtrans G6.out (gnew EV.out))
  have KV := hide1 (K6.out.below EV.out K6.out.lt)
  have DV := hide1 (show Rdr v R s q6 from D6.out.below EV.out D6.out.lt)
  have OV := hide1 (own_kept O6.out EV.out)
  clear FM hMB G6 K6 D6 O6
  obtain ⟨M, hM⟩ : ∃ M : Ms, M = ⟨(k : Int), (f : Int), (o : Int), (e9 : Int), (n : Int), l⟩ := ⟨_, rfl⟩
  have CM := hide1 (fun v' (hb : Below v.heap.size v v') => implMsgOk_any (k : Int) (f : Int) (o : Int) (e9 : Int) (n : Int) l al l.length v' (by omega) (fun x hx => by have := hsz x hx; omega) ((rdG_of_own encIm.len OV.out rfl).later hb))
  rw [← hM] at HEAD CM
  have d0 : v.cell? ⟨R, 0, none⟩ = some (.string s) := DV.out.cell 0
  have d1 : v.cell? ⟨R, 1, none⟩ = some (.int .i64 (q6 : Int)) := DV.out.cell 1
  have c0 : v.cell? ⟨MB, 0, none⟩ = some (.int .i64 (k : Int)) := KM.out.cell 0
  have c1 : v.cell? ⟨MB, 1, none⟩ = some (.int .i64 (f : Int)) := KM.out.cell 1
  have c2 : v.cell? ⟨MB, 2, none⟩ = some (.int .i64 (o : Int)) := KM.out.cell 2
  have c3 : v.cell? ⟨MB, 3, none⟩ = some (.int .i64 (e9 : Int)) := KM.out.cell 3
  have c4 : v.cell? ⟨MB, 4, none⟩ = some (.int .i64 (n : Int)) := KM.out.cell 4
  have c5 : v.cell? ⟨MB, 5, none⟩ = some (.slice al l.length l.length) := KM.out.cell 5
  by_cases cq : q6 = s.size
  · have q1 : ((q6 : Int) == (s.size : Int)) = true := by rw [cq]; simp
    by_cases ok : okMs M
    · rw [decide_eq_true ok] at CM
      have RES := hide1 (show readP s = some M by unfold readP; rw [HEAD.out]; show (if q6 = s.size ∧ okMs M then some M else none) = _; rw [if_pos ⟨cq, ok⟩])
      clear ok cq
      have gd0 : ∀ n : Gr v, n.w.cell? ⟨R, 0, none⟩ = some (.string s) := fun n => n.cell d0
      have gd1 : ∀ n : Gr v, n.w.cell? ⟨R, 1, none⟩ = some (.int .i64 (q6 : Int)) := fun n => n.cell d1
      have gc0 : ∀ n : Gr v, n.w.cell? ⟨MB, 0, none⟩ = some (.int .i64 (k : Int)) := fun n => n.cell c0
      have gc1 : ∀ n : Gr v, n.w.cell? ⟨MB, 1, none⟩ = some (.int .i64 (f : Int)) := fun n => n.cell c1
      have gc2 : ∀ n : Gr v, n.w.cell? ⟨MB, 2, none⟩ = some (.int .i64 (o : Int)) := fun n => n.cell c2
      have gc3 : ∀ n : Gr v, n.w.cell? ⟨MB, 3, none⟩ = some (.int .i64 (e9 : Int)) := fun n => n.cell c3
      have gc4 : ∀ n' : Gr v, n'.w.cell? ⟨MB, 4, none⟩ = some (.int .i64 (n : Int)) := fun n' => n'.cell c4
      have gc5 : ∀ n : Gr v, n.w.cell? ⟨MB, 5, none⟩ = some (.slice al l.length l.length) := fun n => n.cell c5
      refine wp_region_grown (by kernel_rfl) (by kernel_rfl) ?_
      (repeat (first | go_big_quiet_skip | (go_big_quiet_want; go_big_quiet_op; first | go_big_quiet_on | go_big_quiet_call ((first | (go_at_call 11; exact quiet_grown (CM.out _ (Gr.b _))) | (go_at_call 77; exact quiet_grownS (want_yes _ _)))))))
      refine wpQuiet_nil ?_
      rintro w7 ⟨n7, rfl⟩
      have B7 := hide1 n7.b
      clear gd0 gd1 gc0 gc1 gc2 gc3 gc4 gc5 c0 c1 c2 c3 c4 c5 d0 d1
      generalize n7.w = w7 at B7 ⊢
      have K7 := hide1 (KM.out.below B7.out KM.out.lt)
      have Z7 := hide1 (KV.out.below B7.out KV.out.lt)
      have O7 := hide1 (own_kept OV.out B7.out)
      have G7 := hide1 (gtrans GV.out (gnew B7.out))
      have c0 : w7.cell? ⟨MB, 0, none⟩ = some (.int .i64 (k : Int)) := K7.out.cell 0
      have c1 : w7.cell? ⟨MB, 1, none⟩ = some (.int .i64 (f : Int)) := K7.out.cell 1
      have c2 : w7.cell? ⟨MB, 2, none⟩ = some (.int .i64 (o : Int)) := K7.out.cell 2
      have c3 : w7.cell? ⟨MB, 3, none⟩ = some (.int .i64 (e9 : Int)) := K7.out.cell 3
      have c4 : w7.cell? ⟨MB, 4, none⟩ = some (.int .i64 (n : Int)) := K7.out.cell 4
      have c5 : w7.cell? ⟨MB, 5, none⟩ = some (.slice al l.length l.length) := K7.out.cell 5
      have z0 : w7.cell? ⟨RB, 0, none⟩ = some (.int .i64 0) := Z7.out.cell 0
      have z1 : w7.cell? ⟨RB, 1, none⟩ = some (.int .i64 0) := Z7.out.cell 1
      have z2 : w7.cell? ⟨RB, 2, none⟩ = some (.int .i64 0) := Z7.out.cell 2
      have z3 : w7.cell? ⟨RB, 3, none⟩ = some (.int .i64 0) := Z7.out.cell 3
      have z4 : w7.cell? ⟨RB, 4, none⟩ = some (.int .i64 0) := Z7.out.cell 4
      have z5 : w7.cell? ⟨RB, 5, none⟩ = some (.slice none 0 0) := Z7.out.cell 5
      have zf : ∀ j, w7.frozen? ⟨RB, j, none⟩ = false := fun j => Z7.out.froz j
      go_wp2
      refine bodyPost_ret (results_cell_row Tryd.results58 _ _ RB 26 #[.int .i64 (k : Int), .int .i64 (f : Int), .int .i64 (o : Int), .int .i64 (e9 : Int), .int .i64 (n : Int), .slice al l.length l.length] (0, 0) _ rfl (Blk.set (Blk.set (Blk.set (Blk.set (Blk.set (Blk.set Z7.out 0 _) 1 _) 2 _) 3 _) 4 _) 5 _) Tryd.underlying26 rfl (by kernel_rfl)) rfl ?_
      subst hM
      refine ⟨.inl ⟨_, al, RES.out, rfl, ?_⟩, ?_⟩
      · exact own_far (own_far (own_far (own_far (own_far (own_far O7.out _ _ NE.out) _ _ NE.out) _ _ NE.out) _ _ NE.out) _ _ NE.out) _ _ NE.out
      · exact gfar (gfar (gfar (gfar (gfar (gfar G7.out lRB _ _) lRB _ _) lRB _ _) lRB _ _) lRB _ _) lRB _ _
    · rw [decide_eq_false ok] at CM
      have RES := hide1 (show readP s = none by unfold readP; rw [HEAD.out]; show (if q6 = s.size ∧ okMs M then some M else none) = _; rw [if_neg (fun h => ok h.2)])
      clear ok cq
      have G8 := hide1 (show w.grownBy v.drew (some R) from gtrans GV.out (gnew (Below.refl _ _).drew))
      have BD := hide1 (show Below v.heap.size v v.drew from (Below.refl _ _).drew)
      go_region_dies
      all_goals
        refine (CM.out _ BD.out).mono ?_
        rintro e w8 ⟨rfl, hb8⟩
        rename_i K8 hK8
        refine hK8 _ _ ?_
        clear hK8 K8
        refine wpAny_ready (rs := [14]) (by kernel_rfl) (by simp) ?_
        refine AllReady.cons rfl (fun K hK => ?_) AllReady.nil
        go_simp
        refine hK _ _ ?_
        clear hK K
        refine wpAny_ready (rs := [15]) (by kernel_rfl) (by simp) ?_
        refine AllReady.cons rfl (fun K hK => ?_) AllReady.nil
        go_simp
        refine (want_no _ _).mono ?_
        rintro e w9 ⟨rfl, rfl⟩
        exact ⟨rfl, .inr ⟨RES.out, rfl⟩, gtrans G8.out (gnew hb8)⟩
  · have q1 : ((q6 : Int) == (s.size : Int)) = false := by rw [beq_eq_false_iff_ne]; omega
    have RES := hide1 (show readP s = none by unfold readP; rw [HEAD.out]; show (if q6 = s.size ∧ okMs M then some M else none) = _; rw [if_neg (fun h => cq h.1)])
    clear cq
    have G8 := hide1 (show w.grownBy v.drew (some R) from gtrans GV.out (gnew (Below.refl _ _).drew))
    go_region_dies
    all_goals
      refine (want_no _ _).mono ?_
      rintro e w8 ⟨rfl, rfl⟩
      exact ⟨rfl, .inr ⟨RES.out, rfl⟩, G8.out⟩
end Go.Proofs.YtbkhhkknhbddeaaDoor
