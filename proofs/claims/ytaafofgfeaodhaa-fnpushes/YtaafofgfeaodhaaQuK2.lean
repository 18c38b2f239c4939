/- The program's Drop and Push. -/
import Derived.Test.YtaafofgfeaodhaaQuK
namespace Go.Proofs.Ytaafofgfeaodhaa
open Go.RowKit

set_option maxRecDepth 100000 in
set_option maxHeartbeats 2000000 in
theorem implDrop_any (ao : Option Addr) (l : List ByteArray) (ca : Nat) (m : Int) (k : ByteArray) (w : World) (hl : l.length ≤ 1048576) (hc : l.length ≤ ca) (hcm : ca ≤ maxLen) (hA : RdQ w ao l) :
    Calls Try.prog 13 #[.agg #[.int .i64 m, .slice ao l.length ca], .string k] w fun e w' => ∃ v, e = .returned (.tuple #[v, .bool (drpR l m k).2]) ∧ MadeQ w w' v (drpR l m k).1 := by
  have CO := hide1 (fun w' (hb : Below w.heap.size w w') => implQOk_any ao l ca m w' hl hc hcm (hA.later hb))
  have CH := hide1 (fun w' (hb : Below w.heap.size w w') => implHas_any ao l ca m k w' hl (hA.later hb))
  have CR := hide1 (fun w' => recentKeys_any ao l.length ca m w')
  have F0 := hide1 (blkN2 w #[.int .i64 m, .slice ao l.length ca] #[.int .i64 0, .slice none 0 0] 26 26)
  have HA := hide1 hA
  clear hA hc hcm
  go_enter Try.func13, Try.ntmps13
  go_wp2_with fail
  generalize ((w.alloc (.cells #[.int .i64 m, .slice ao l.length ca] 26)).alloc (.cells #[.int .i64 0, .slice none 0 0] 26)) = w0 at F0 ⊢
  obtain ⟨K0, R0, B0⟩ := F0.out
  have K0 := hide1 K0
  have R0 := hide1 R0
  have B0 := hide1 B0
  clear F0
  refine (CO.out w0 B0.out).mono ?_
  rintro e w1 ⟨x, rfl, hx, hb1⟩
  have K1 := hide1 (K0.out.below hb1 K0.out.lt)
  have R1 := hide1 (R0.out.below hb1 R0.out.lt)
  have B1 := hide1 (B0.out.trans (hb1.mono B0.out.size))
  clear hb1 CO K0 R0 B0
  rcases x with _ | _
  · have HN := hide1 (drpR_no (k := k) (fun h => by have := hx.2 h.1; cases this))
    have y0 : w1.cell? ⟨w.heap.size + 1, 0, none⟩ = some (.int .i64 0) := R1.out.cell 0
    have y1 : w1.cell? ⟨w.heap.size + 1, 1, none⟩ = some (.slice none 0 0) := R1.out.cell 1
    have yf : ∀ j, w1.frozen? ⟨w.heap.size + 1, j, none⟩ = false := fun j => R1.out.froz j
    have HH := hide1 (Blk.set (Blk.set R1.out 0 (.int .i64 0)) 1 (.slice none 0 0))
    clear hx
    go_wp2
    refine bodyPost_ret (resQ2 Try.results13 _ _ (w.heap.size + 1) 26 #[.int .i64 0, .slice none 0 0] (0, 0) _ rfl HH.out Try.underlying26 rfl (by kernel_rfl)) rfl ?_
    rw [HN.out]
    exact ⟨_, rfl, MadeQ.no B1.out (by omega) _ _⟩
  have HOK := hide1 (hx.1 rfl)
  clear hx
  have x0 : w1.cell? ⟨w.heap.size, 0, none⟩ = some (.int .i64 m) := K1.out.cell 0
  have x1 : w1.cell? ⟨w.heap.size, 1, none⟩ = some (.slice ao l.length ca) := K1.out.cell 1
  go_wp2_with fail
  refine (CH.out w1 B1.out).mono ?_
  rintro e w2 ⟨rfl, hb2⟩
  have K2 := hide1 (K1.out.below hb2 K1.out.lt)
  have R2 := hide1 (R1.out.below hb2 R1.out.lt)
  have B2 := hide1 (B1.out.trans (hb2.mono B1.out.size))
  clear hb2 CH K1 R1 B1 x0 x1
  rcases hq : hasQ l k with _ | _
  · have HN := hide1 (drpR_no (l := l) (m := m) (k := k) (fun h => by rw [(hasQ_iff l k).2 h.2] at hq; cases hq))
    have y0 : w2.cell? ⟨w.heap.size + 1, 0, none⟩ = some (.int .i64 0) := R2.out.cell 0
    have y1 : w2.cell? ⟨w.heap.size + 1, 1, none⟩ = some (.slice none 0 0) := R2.out.cell 1
    have yf : ∀ j, w2.frozen? ⟨w.heap.size + 1, j, none⟩ = false := fun j => R2.out.froz j
    have HH := hide1 (Blk.set (Blk.set R2.out 0 (.int .i64 0)) 1 (.slice none 0 0))
    clear hq
    go_wp2
    refine bodyPost_ret (resQ2 Try.results13 _ _ (w.heap.size + 1) 26 #[.int .i64 0, .slice none 0 0] (0, 0) _ rfl HH.out Try.underlying26 rfl (by kernel_rfl)) rfl ?_
    rw [HN.out]
    exact ⟨_, rfl, MadeQ.no B2.out (by omega) _ _⟩
  have HY := hide1 (drpR_yes HOK.out ((hasQ_iff l k).1 hq))
  have hsm := HOK.out.small
  have hwl := wthQ_length l k
  have hlen : (wthQ l k).length ≤ 25 := by omega
  clear hq
  have x0 : w2.cell? ⟨w.heap.size, 0, none⟩ = some (.int .i64 m) := K2.out.cell 0
  have x1 : w2.cell? ⟨w.heap.size, 1, none⟩ = some (.slice ao l.length ca) := K2.out.cell 1
  have X := hide1 (And.intro x0 x1)
  have hs0 : w.heap.size < w2.heap.size := K2.out.lt
  have hs1 : w.heap.size + 1 < w2.heap.size := R2.out.lt
  have CA := hide1 (fun w' (hb : Below w2.heap.size w2 w') => withoutR_any ao l ca k w' (by omega) (HA.out.later (B2.out.trans (hb.mono B2.out.size))))
  go_wp2_with fail
  go_region_held3 (fun w' => w'.cell? ⟨w.heap.size, 0, none⟩ = some (.int .i64 m) ∧ w'.cell? ⟨w.heap.size, 1, none⟩ = some (.slice ao l.length ca)) (first | go_keep | exact ⟨(D5.out.cell hs0).trans X.out.1, (D5.out.cell hs0).trans X.out.2⟩ | exact ⟨(D4.out.cell hs0).trans X.out.1, (D4.out.cell hs0).trans X.out.2⟩ | exact ⟨(D3.out.cell hs0).trans X.out.1, (D3.out.cell hs0).trans X.out.2⟩) ((first | (go_at_call 33; refine (CQ.out _ (by go_grown)).mono ?_; rintro e w5 ⟨b5, c5, rfl, ho5, hb5⟩; have D5 : Hid (Below w2.heap.size w2 w5) := (D4.out.trans (show Below w2.heap.size w4 _ by go_grown)).trans (hb5.mono (by have := D4.out.size; go_size)); have O5 : Hid (OwnQ w5 w2.heap.size b5 c5 (wthQ l k)) := hide1 (ho5.base (by have := D4.out.size; go_size)); clear ho5 hb5; have r5 := R2.out.below D5.out hs1; have y0 : w5.cell? ⟨w.heap.size + 1, 0, none⟩ = some (.int .i64 0) := r5.cell 0; have y1 : w5.cell? ⟨w.heap.size + 1, 1, none⟩ = some (.slice none 0 0) := r5.cell 1; have yf : ∀ j, w5.frozen? ⟨w.heap.size + 1, j, none⟩ = false := fun j => r5.froz j; have R5 := hide1 r5; clear r5) | (go_at_call 36; refine (CA.out _ (D3.out.trans (show Below w2.heap.size w3 _ by go_grown))).mono ?_; rintro e w4 ⟨b4, c4, rfl, ho4, hb4⟩; have D4 : Hid (Below w2.heap.size w2 w4) := (D3.out.trans (show Below w2.heap.size w3 _ by go_grown)).trans (hb4.mono (by have := D3.out.size; go_size)); have CQ := hide1 (fun w' (hb : Below w4.heap.size w4 w') => queueOf_any b4 (wthQ l k) (wthQ l k).length c4 m w' rfl (by omega) (ho4.rd.later hb)); clear ho4 hb4) | (go_at_call 34; refine (CR.out _).mono ?_; rintro e w3 ⟨rfl, hb3⟩; have D3 : Hid (Below w2.heap.size w2 w3) := (show Below w2.heap.size w2 _ by go_grown).trans (hb3.mono (by go_size)); clear hb3)))
  all_goals go_wp2
  all_goals
    have HH := hide1 (Blk.set (Blk.set R5.out 0 (.int .i64 m)) 1 (.slice b5 (wthQ l k).length c5))
    refine bodyPost_ret (resQ2 Try.results13 _ _ (w.heap.size + 1) 26 #[.int .i64 m, .slice b5 (wthQ l k).length c5] (0, 0) _ rfl HH.out Try.underlying26 rfl (by kernel_rfl)) rfl ?_
    rw [HY.out]
    exact ⟨_, rfl, MadeQ.yes (r := w.heap.size + 1) B2.out (by omega) hs1 O5.out D5.out _ _⟩
theorem psh_keys {l : List ByteArray} {m : Int} {k : ByteArray} (h : PshQ l m k) : k :: wthQ l k = k :: l := by rw [wthQ_none h.2.2.1]

set_option maxRecDepth 100000 in
set_option maxHeartbeats 2000000 in
theorem implPush_any (ao : Option Addr) (l : List ByteArray) (ca : Nat) (m : Int) (k : ByteArray) (w : World) (hl : l.length ≤ 1048576) (hc : l.length ≤ ca) (hcm : ca ≤ maxLen) (hA : RdQ w ao l) :
    Calls Try.prog 19 #[.agg #[.int .i64 m, .slice ao l.length ca], .string k] w fun e w' => ∃ v, e = .returned (.tuple #[v, .string (pshR l m k).2.1, .bool (pshR l m k).2.2]) ∧ MadeQ w w' v (pshR l m k).1 := by
  have CO := hide1 (fun w' (hb : Below w.heap.size w w') => implQOk_any ao l ca m w' hl hc hcm (hA.later hb))
  have CF := hide1 (fun w' => keyFitsQ_any k w')
  have CH := hide1 (fun w' (hb : Below w.heap.size w w') => implHas_any ao l ca m k w' hl (hA.later hb))
  have CR := hide1 (fun w' => recentKeys_any ao l.length ca m w')
  have F0 := hide1 (blkN2 w #[.int .i64 m, .slice ao l.length ca] #[.int .i64 0, .slice none 0 0] 26 26)
  have HA := hide1 hA
  clear hA hc hcm
  go_enter Try.func19, Try.ntmps19
  go_wp2_with fail
  generalize ((w.alloc (.cells #[.int .i64 m, .slice ao l.length ca] 26)).alloc (.cells #[.int .i64 0, .slice none 0 0] 26)) = w0 at F0 ⊢
  obtain ⟨K0, R0, B0⟩ := F0.out
  have K0 := hide1 K0
  have R0 := hide1 R0
  have B0 := hide1 B0
  clear F0
  refine (CO.out w0 B0.out).mono ?_
  rintro e w1 ⟨x, rfl, hx, hb1⟩
  have K1 := hide1 (K0.out.below hb1 K0.out.lt)
  have R1 := hide1 (R0.out.below hb1 R0.out.lt)
  have B1 := hide1 (B0.out.trans (hb1.mono B0.out.size))
  clear hb1 CO K0 R0 B0
  rcases x with _ | _
  · have HN := hide1 (pshR_no (l := l) (m := m) (k := k) (fun h => by have := hx.2 h.1; cases this))
    have y0 : w1.cell? ⟨w.heap.size + 1, 0, none⟩ = some (.int .i64 0) := R1.out.cell 0
    have y1 : w1.cell? ⟨w.heap.size + 1, 1, none⟩ = some (.slice none 0 0) := R1.out.cell 1
    have yf : ∀ j, w1.frozen? ⟨w.heap.size + 1, j, none⟩ = false := fun j => R1.out.froz j
    have HH := hide1 (Blk.set (Blk.set R1.out 0 (.int .i64 0)) 1 (.slice none 0 0))
    clear hx CF CH CR
    go_wp2
    refine bodyPost_ret (resQ3 Try.results19 _ _ (w.heap.size + 1) 26 #[.int .i64 0, .slice none 0 0] (0, 0) _ rfl HH.out Try.underlying26 rfl (by kernel_rfl)) rfl ?_
    rw [HN.out]
    exact ⟨_, rfl, MadeQ.no B1.out (by omega) _ _⟩
  have HOK := hide1 (hx.1 rfl)
  clear hx
  go_wp2_with fail
  refine (CF.out w1).mono ?_
  rintro e w1' ⟨x, rfl, hx, hw⟩
  have hw2 := hw.symm
  clear hw
  subst hw2
  rcases x with _ | _
  · have HN := hide1 (pshR_no (l := l) (m := m) (k := k) (fun h => by have := hx.2 h.2.1; cases this))
    have y0 : w1.cell? ⟨w.heap.size + 1, 0, none⟩ = some (.int .i64 0) := R1.out.cell 0
    have y1 : w1.cell? ⟨w.heap.size + 1, 1, none⟩ = some (.slice none 0 0) := R1.out.cell 1
    have yf : ∀ j, w1.frozen? ⟨w.heap.size + 1, j, none⟩ = false := fun j => R1.out.froz j
    have HH := hide1 (Blk.set (Blk.set R1.out 0 (.int .i64 0)) 1 (.slice none 0 0))
    clear hx CF CH CR
    go_wp2
    refine bodyPost_ret (resQ3 Try.results19 _ _ (w.heap.size + 1) 26 #[.int .i64 0, .slice none 0 0] (0, 0) _ rfl HH.out Try.underlying26 rfl (by kernel_rfl)) rfl ?_
    rw [HN.out]
    exact ⟨_, rfl, MadeQ.no B1.out (by omega) _ _⟩
  have HKQ := hide1 (hx.1 rfl)
  clear hx CF
  have x0 : w1.cell? ⟨w.heap.size, 0, none⟩ = some (.int .i64 m) := K1.out.cell 0
  have x1 : w1.cell? ⟨w.heap.size, 1, none⟩ = some (.slice ao l.length ca) := K1.out.cell 1
  go_wp2_with fail
  refine (CH.out w1 B1.out).mono ?_
  rintro e w2 ⟨rfl, hb2⟩
  have K2 := hide1 (K1.out.below hb2 K1.out.lt)
  have R2 := hide1 (R1.out.below hb2 R1.out.lt)
  have B2 := hide1 (B1.out.trans (hb2.mono B1.out.size))
  clear hb2 CH K1 R1 B1 x0 x1
  rcases hq : hasQ l k with _ | _
  rotate_left
  · have HN := hide1 (pshR_no (l := l) (m := m) (k := k) (fun h => h.2.2.1 ((hasQ_iff l k).1 hq)))
    have y0 : w2.cell? ⟨w.heap.size + 1, 0, none⟩ = some (.int .i64 0) := R2.out.cell 0
    have y1 : w2.cell? ⟨w.heap.size + 1, 1, none⟩ = some (.slice none 0 0) := R2.out.cell 1
    have yf : ∀ j, w2.frozen? ⟨w.heap.size + 1, j, none⟩ = false := fun j => R2.out.froz j
    have HH := hide1 (Blk.set (Blk.set R2.out 0 (.int .i64 0)) 1 (.slice none 0 0))
    clear hq CR
    go_wp2
    refine bodyPost_ret (resQ3 Try.results19 _ _ (w.heap.size + 1) 26 #[.int .i64 0, .slice none 0 0] (0, 0) _ rfl HH.out Try.underlying26 rfl (by kernel_rfl)) rfl ?_
    rw [HN.out]
    exact ⟨_, rfl, MadeQ.no B2.out (by omega) _ _⟩
  have HNK := hide1 (show ¬ k ∈ l from fun h => by rw [(hasQ_iff l k).2 h] at hq; cases hq)
  clear hq
  have x0 : w2.cell? ⟨w.heap.size, 0, none⟩ = some (.int .i64 m) := K2.out.cell 0
  have x1 : w2.cell? ⟨w.heap.size, 1, none⟩ = some (.slice ao l.length ca) := K2.out.cell 1
  by_cases hm : m = 0
  · subst hm
    have HN := hide1 (pshR_no (l := l) (m := 0) (k := k) (fun h => h.2.2.2 rfl))
    have y0 : w2.cell? ⟨w.heap.size + 1, 0, none⟩ = some (.int .i64 0) := R2.out.cell 0
    have y1 : w2.cell? ⟨w.heap.size + 1, 1, none⟩ = some (.slice none 0 0) := R2.out.cell 1
    have yf : ∀ j, w2.frozen? ⟨w.heap.size + 1, j, none⟩ = false := fun j => R2.out.froz j
    have HH := hide1 (Blk.set (Blk.set R2.out 0 (.int .i64 0)) 1 (.slice none 0 0))
    clear CR
    go_wp2
    refine bodyPost_ret (resQ3 Try.results19 _ _ (w.heap.size + 1) 26 #[.int .i64 0, .slice none 0 0] (0, 0) _ rfl HH.out Try.underlying26 rfl (by kernel_rfl)) rfl ?_
    rw [HN.out]
    exact ⟨_, rfl, MadeQ.no B2.out (by omega) _ _⟩
  have qm : (m == 0) = false := by simpa using hm
  have HP := hide1 (show PshQ l m k from ⟨HOK.out, HKQ.out, HNK.out, hm⟩)
  have HY := hide1 (pshR_yes HP.out)
  obtain ⟨mn, hmn⟩ : ∃ mn : Nat, m = (mn : Int) := ⟨m.toNat, by have := HOK.out.1; omega⟩
  have hmb : mn ≤ 24 := by have := HOK.out.2.1; omega
  have HMT := hide1 (show m.toNat = mn by omega)
  rw [HMT.out] at HY
  have hsm := HOK.out.small
  obtain ⟨KL, hKL⟩ : ∃ KL, k :: l = KL := ⟨_, rfl⟩
  have hlen : KL.length ≤ 25 := by rw [← hKL, List.length_cons]; omega
  have PK := psh_keys HP.out
  rw [hKL] at HY PK
  clear hKL
  have PK := hide1 PK
  obtain ⟨lf, hlf⟩ : ∃ lf, KL.getD mn ⟨#[]⟩ = lf := ⟨_, rfl⟩
  rw [hlf] at HY
  have HLF := hide1 hlf
  clear hlf
  obtain ⟨TK, hTK⟩ : ∃ TK, KL.take mn = TK := ⟨_, rfl⟩
  rw [hTK] at HY
  have HTL := hide1 (show TK.length ≤ 25 by rw [← hTK, List.length_take]; omega)
  have HTK := hide1 hTK
  clear hTK
  have X := hide1 (And.intro x0 x1)
  have hs0 : w.heap.size < w2.heap.size := K2.out.lt
  have hs1 : w.heap.size + 1 < w2.heap.size := R2.out.lt
  have CA : Hid (∀ w', Below w2.heap.size w2 w' → Calls Try.prog 35 #[.slice ao l.length ca, .string k] w' fun e w'' => ∃ po pc, e = .returned (.slice po KL.length pc) ∧ OwnQ w'' w'.heap.size po pc KL ∧ Below w'.heap.size w' w'') := by
    show ∀ w', _
    intro w' hb
    have := aheadR_any ao l ca k w' (by omega) (HA.out.later (B2.out.trans (hb.mono B2.out.size)))
    rw [PK.out] at this
    exact this
  clear hm HMT
  subst hmn
  go_wp2_with fail
  go_region_held3 (fun w' => w'.cell? ⟨w.heap.size, 0, none⟩ = some (.int .i64 (mn : Int)) ∧ w'.cell? ⟨w.heap.size, 1, none⟩ = some (.slice ao l.length ca)) (first | go_keep | exact ⟨(D5.out.cell hs0).trans X.out.1, (D5.out.cell hs0).trans X.out.2⟩ | exact ⟨(D4.out.cell hs0).trans X.out.1, (D4.out.cell hs0).trans X.out.2⟩ | exact ⟨(D3.out.cell hs0).trans X.out.1, (D3.out.cell hs0).trans X.out.2⟩) ((first | (go_at_call 40; refine (CM.out _ (by go_grown)).mono ?_; rintro e w5 ⟨n5, c5, rfl, hn5, hb5⟩; have HN5 := hide1 hn5; have D5 : Hid (Below w2.heap.size w2 w5) := (D4.out.trans (show Below w2.heap.size w4 _ by go_grown)).trans (hb5.mono (by have := D4.out.size; go_size)); have D45 : Hid (Below w4.heap.size w4 w5) := (show Below w4.heap.size w4 _ by go_grown).trans (hb5.mono (by go_size)); clear hb5 hn5) | (go_at_call 35; refine (CA.out _ (D3.out.trans (show Below w2.heap.size w3 _ by go_grown))).mono ?_; rintro e w4 ⟨b4, c4, rfl, ho4, hb4⟩; have D4 : Hid (Below w2.heap.size w2 w4) := (D3.out.trans (show Below w2.heap.size w3 _ by go_grown)).trans (hb4.mono (by have := D3.out.size; go_size)); have hcap := ho4.cap; have CM := hide1 (fun w' (hb : Below w4.heap.size w4 w') => atMost_any b4 KL c4 mn w' (by omega) hcap.1 (ho4.rd.later hb)); rw [HLF.out, HTK.out] at CM; have R4 := hide1 ho4.rd; clear ho4 hb4 hcap) | (go_at_call 34; refine (CR.out _).mono ?_; rintro e w3 ⟨rfl, hb3⟩; have D3 : Hid (Below w2.heap.size w2 w3) := (show Below w2.heap.size w2 _ by go_grown).trans (hb3.mono (by go_size)); clear hb3)))
  all_goals
    have x0 : w5.cell? ⟨w.heap.size, 0, none⟩ = some (.int .i64 (mn : Int)) := (D5.out.cell hs0).trans X.out.1
    have CQ := hide1 (fun w' (hb : Below w5.heap.size w5 w') => queueOf_any b4 TK n5 c5 (mn : Int) w' HN5.out (by rw [← HN5.out]; have := HTL.out; omega) (by have := ((R4.out.later D45.out).later hb).take mn; rw [HTK.out] at this; exact this))
    have R5 := hide1 (R2.out.below D5.out hs1)
    have B5 := hide1 (B2.out.trans (D5.out.mono B2.out.size))
    have hs5 : w.heap.size + 1 < w5.heap.size := R5.out.lt
    go_wp2_with fail
    refine (CQ.out _ (by first | exact Below.refl _ _ | go_grown)).mono ?_
    rintro e w6 ⟨b6, c6, rfl, ho6, hb6⟩
    have D6 := hide1 (show Below w5.heap.size w5 w6 from (show Below w5.heap.size w5 _ by first | exact Below.refl _ _ | go_grown).trans (hb6.mono (by first | exact Nat.le_refl _ | go_size)))
    have O6 := hide1 (show OwnQ w6 w5.heap.size b6 c6 TK from ho6.base (by first | exact Nat.le_refl _ | go_size))
    have CN := hide1 (fun w' => newQ_any lf w')
    clear ho6 hb6
    go_wp2_with fail
    refine (CN.out _).mono ?_
    rintro e w7 ⟨rfl, hb7⟩
    have D7 := hide1 (D6.out.trans (hb7.mono D6.out.size))
    have O7 := hide1 (O6.out.later hb7)
    have R7 := hide1 (R5.out.below D7.out hs5)
    have y0 : w7.cell? ⟨w.heap.size + 1, 0, none⟩ = some (.int .i64 0) := R7.out.cell 0
    have y1 : w7.cell? ⟨w.heap.size + 1, 1, none⟩ = some (.slice none 0 0) := R7.out.cell 1
    have yf : ∀ j, w7.frozen? ⟨w.heap.size + 1, j, none⟩ = false := fun j => R7.out.froz j
    have HH := hide1 (Blk.set (Blk.set R7.out 0 (.int .i64 (mn : Int))) 1 (.slice b6 TK.length c6))
    have HM := hide1 (fun x y => MadeQ.yes (r := w.heap.size + 1) (M := (mn : Int)) B5.out (by omega) hs5 O7.out D7.out x y)
    clear hb7 CQ CN D6 O6 R5 O7
    go_wp2
    refine bodyPost_ret (resQ3 Try.results19 _ _ (w.heap.size + 1) 26 #[.int .i64 (mn : Int), .slice b6 TK.length c6] (0, 0) _ rfl HH.out Try.underlying26 rfl (by kernel_rfl)) rfl ?_
    rw [HY.out]
    exact ⟨_, rfl, HM.out _ _⟩
end Go.Proofs.Ytaafofgfeaodhaa
