/- The model's ReadMsg. -/
import Derived.Test.YtbkhhkknhbddeaaDoorRdP
import Derived.Test.YtbkhhkknhbddeaaDoorRdN
namespace Go.Proofs.YtbkhhkknhbddeaaDoor
open Go.RowKit
set_option linter.unusedVariables false

theorem cVar_le (s : ByteArray) (c : Nat × Bool) : (cVar s c).1 ≤ 1000000000 := by
  unfold cVar
  split
  · exact Nat.zero_le _
  · cases e : rdF (byt s) s.size 5 c.1 0 1 with
    | none => exact Nat.zero_le _
    | some r => exact (pVar_back (show pVar s c.1 = some (r.1, r.2) from e)).2.2
theorem cItem_of {t : ByteArray} {c : Nat × Bool} {n1 p1 n2 p2 p3 p4 n3 p5 : Nat} {K V : ByteArray} {b1 b2 b3 b4 b5 : Bool} (h1 : cVar t c = (n1, p1, b1)) (h2 : cTake t (p1, b1) n1 = (K, p2, b2)) (h3 : cVar t (p2, b2) = (n2, p3, b3)) (h4 : cTake t (p3, b3) n2 = (V, p4, b4)) (h5 : cVar t (p4, b4) = (n3, p5, b5)) : cItem t c = (⟨K, V, (n3 : Int)⟩, (p5, b5)) := by
  unfold cItem
  simp only [h1, h2, h3, h4, h5]
theorem readM_of {t : ByteArray} {b : Bool} {k f o e n ct p1 p2 p3 p4 p5 p6 p7 : Nat} {b1 b2 b3 b4 b5 b6 b7 : Bool} {l : List Im} (h1 : cOne t (0, b) = (k, p1, b1)) (h2 : cOne t (p1, b1) = (f, p2, b2)) (h3 : cOne t (p2, b2) = (o, p3, b3)) (h4 : cOne t (p3, b3) = (e, p4, b4)) (h5 : cVar t (p4, b4) = (n, p5, b5)) (h6 : cVar t (p5, b5) = (ct, p6, b6)) (h7 : cItems t (min ct 50) (p6, b6) = (l, (p7, b7))) : readM t b = (⟨(k : Int), (f : Int), (o : Int), (e : Int), (n : Int), l⟩, ct, (p7, b7)) := by
  unfold readM
  simp only [h1, h2, h3, h4, h5, h6, h7]
set_option maxRecDepth 100000 in
set_option maxHeartbeats 8000000 in
theorem specReadMsg_any (s : ByteArray) (w : World) (hs : s.size ≤ 1048576) :
    Calls Tryd.prog 14 #[.string s] w fun e w' => (∃ a ca, e = .returned (.tuple #[msA ((rdM s).getD zeroMs) a ca, .bool (rdM s).isSome]) ∧ w'.ownsRow w.heap.size 51 3 (.slice a ((rdM s).getD zeroMs).is.length ca) ((rdM s).getD zeroMs).is.length (rowG imC ((rdM s).getD zeroMs).is)) ∧ Below w.heap.size w w' := by
  have F0 := hide1 (And.intro (Blk.new w 26 #[.int .i64 0, .int .i64 0, .int .i64 0, .int .i64 0, .int .i64 0, .slice none 0 0]) ((Below.refl w.heap.size w).alloc (Nat.le_refl _) (.cells #[.int .i64 0, .int .i64 0, .int .i64 0, .int .i64 0, .int .i64 0, .slice none 0 0] 26)))
  have CU := hide1 (fun v => specUnsealed_any s (by omega) v)
  rw [unsealV_un s] at CU
  have HNO := hide1 (@rd_no s)
  have htz : (unT s).size ≤ 1048576 := by
    unfold unT
    split
    · rw [inn_size]; omega
    · exact Nat.zero_le _
  obtain ⟨m9, hm9⟩ : ∃ m, (rdM s).getD zeroMs = m := ⟨_, rfl⟩
  obtain ⟨g9, hg9⟩ : ∃ b, (rdM s).isSome = b := ⟨_, rfl⟩
  rw [hm9, hg9]
  have HM9 := hide1 (And.intro hm9 hg9)
  clear hm9 hg9
  generalize unT s = t at CU HNO htz
  generalize unB s = b at CU HNO
  go_enter Tryd.func14, Tryd.ntmps14
  go_upto_region 1 with fail
  generalize (w.alloc (.cells #[.int .i64 0, .int .i64 0, .int .i64 0, .int .i64 0, .int .i64 0, .slice none 0 0] 26)) = u at F0 ⊢
  obtain ⟨RB, hRB⟩ : ∃ X, X = w.heap.size := ⟨_, rfl⟩
  have K0 := hide1 F0.out.1
  rw [← hRB] at K0 ⊢
  have E0 := hide1 F0.out.2
  have lRB : w.heap.size ≤ RB := by omega
  have lwu : w.heap.size ≤ u.heap.size := E0.out.size
  clear F0 hRB
  go_wp2_with fail
  refine (CU.out u).mono ?_
  rintro e9 w1 ⟨rfl, hb1⟩
  have K1 := hide1 (K0.out.below hb1 K0.out.lt)
  have E1 := hide1 (E0.out.trans (hb1.mono lwu))
  clear hb1 K0 E0 CU
  have FC := hide1 (And.intro (Blk.new w1 62 #[.string t, .int .i64 0, .bool b]) ((Below.refl w1.heap.size w1).alloc (Nat.le_refl _) (.cells #[.string t, .int .i64 0, .bool b] 62)))
  go_upto_region 3 with fail
  first | skip | simp only [Bool.not_not]
  generalize (w1.alloc (.cells #[.string t, .int .i64 0, .bool b] 62)) = v1 at FC ⊢
  obtain ⟨C, hC⟩ : ∃ X, X = w1.heap.size := ⟨_, rfl⟩
  have D1 := hide1 (show CurM v1 w1.heap.size t 0 b from FC.out.1)
  rw [← hC] at D1 ⊢
  have lRB1 : RB < w1.heap.size := K1.out.lt
  have hRC : RB ≠ C := by omega
  have lC : w.heap.size ≤ C := by have := E1.out.size; omega
  have KV := hide1 (K1.out.below FC.out.2 K1.out.lt)
  have EV := hide1 (E1.out.trans (FC.out.2.mono E1.out.size))
  clear FC hC K1 E1
  have hp0 : 0 ≤ t.size := Nat.zero_le _
  obtain ⟨k, p1, b1, h1⟩ : ∃ k p1 b1, cOne t (0, b) = (k, p1, b1) := ⟨_, _, _, rfl⟩
  have C1 := hide1 (l13One_any C t 0 b v1 htz hp0 D1.out)
  rw [h1] at C1
  go_wp2_with fail
  refine C1.out.mono ?_
  rintro e9 w2 ⟨rfl, hk2, hp1, hg2⟩
  have D2 := hide1 (show CurM w2 C t p1 b1 from hk2)
  have hp1 : p1 ≤ t.size := hp1
  have KR2 := hide1 (gblk hg2 KV.out (fun e => hRC (by injection e with e; exact e.symm)))
  have E2 := hide1 (EV.out.trans (gbelow hg2 (fun g e => by injection e; omega) EV.out.size))
  clear hk2 hg2 KV EV D1 C1
  have FM := hide1 (And.intro (Blk.new w2 26 #[.int .i64 (k : Int), .int .i64 0, .int .i64 0, .int .i64 0, .int .i64 0, .slice none 0 0]) ((Below.refl w2.heap.size w2).alloc (Nat.le_refl _) (.cells #[.int .i64 (k : Int), .int .i64 0, .int .i64 0, .int .i64 0, .int .i64 0, .slice none 0 0] 26)))
  go_upto_region 4 with fail
  generalize (w2.alloc (.cells #[.int .i64 (k : Int), .int .i64 0, .int .i64 0, .int .i64 0, .int .i64 0, .slice none 0 0] 26)) = v2 at FM ⊢
  obtain ⟨MB, hMB⟩ : ∃ X, X = w2.heap.size := ⟨_, rfl⟩
  have KM0 := hide1 FM.out.1
  rw [← hMB] at KM0 ⊢
  have hMC : MB ≠ C := by have := D2.out.lt; omega
  have hMR : MB ≠ RB := by have := KR2.out.lt; omega
  have lMB : w.heap.size ≤ MB := by have := E2.out.size; omega
  have KC0 := hide1 (show CurM v2 C t p1 b1 from D2.out.below FM.out.2 D2.out.lt)
  have KR0 := hide1 (KR2.out.below FM.out.2 KR2.out.lt)
  have EE0 := hide1 (E2.out.trans (FM.out.2.mono E2.out.size))
  clear FM hMB D2 KR2 E2
  obtain ⟨f, p2, b2, h2⟩ : ∃ k q d, cOne t (p1, b1) = (k, q, d) := ⟨_, _, _, rfl⟩
  have CC := hide1 (l13One_any C t p1 b1 v2 htz hp1 KC0.out)
  rw [h2] at CC
  go_wp2_with fail
  refine CC.out.mono ?_
  rintro e9 x1 ⟨rfl, hk, hp2, hg⟩
  have hp2 : p2 ≤ t.size := hp2
  have KCx := hide1 (show CurM x1 C t p2 b2 from hk)
  have KRx := hide1 (gblk hg KR0.out (fun e => hRC (by injection e with e; exact e.symm)))
  have KMx := hide1 (gblk hg KM0.out (fun e => hMC (by injection e with e; exact e.symm)))
  have EEx := hide1 (EE0.out.trans (gbelow hg (fun g e => by injection e; omega) EE0.out.size))
  clear hk hg CC KC0 KR0 KM0 EE0
  have z0 : x1.cell? ⟨MB, 1, none⟩ = some (.int .i64 0) := KMx.out.cell 1
  have zf : x1.frozen? ⟨MB, 1, none⟩ = false := KMx.out.froz 1
  have KC1 := hide1 (show CurM (x1.setCell ⟨MB, 1, none⟩ (.int .i64 (f : Int))) C t p2 b2 from Blk.far KCx.out ⟨MB, 1, none⟩ _ hMC.symm)
  have KR1 := hide1 (Blk.far KRx.out ⟨MB, 1, none⟩ (.int .i64 (f : Int)) hMR.symm)
  have KM1 := hide1 (Blk.set KMx.out 1 (.int .i64 (f : Int)))
  have EE1 := hide1 (EEx.out.setCell (p := ⟨MB, 1, none⟩) lMB (.int .i64 (f : Int)))
  go_upto_region 5 with fail
  generalize (x1.setCell ⟨MB, 1, none⟩ (.int .i64 (f : Int))) = y1 at KC1 KR1 KM1 EE1 ⊢
  clear z0 zf KCx KRx KMx EEx
  obtain ⟨o, p3, b3, h3⟩ : ∃ k q d, cOne t (p2, b2) = (k, q, d) := ⟨_, _, _, rfl⟩
  have CC := hide1 (l13One_any C t p2 b2 y1 htz hp2 KC1.out)
  rw [h3] at CC
  go_wp2_with fail
  refine CC.out.mono ?_
  rintro e9 x2 ⟨rfl, hk, hp3, hg⟩
  have hp3 : p3 ≤ t.size := hp3
  have KCx := hide1 (show CurM x2 C t p3 b3 from hk)
  have KRx := hide1 (gblk hg KR1.out (fun e => hRC (by injection e with e; exact e.symm)))
  have KMx := hide1 (gblk hg KM1.out (fun e => hMC (by injection e with e; exact e.symm)))
  have EEx := hide1 (EE1.out.trans (gbelow hg (fun g e => by injection e; omega) EE1.out.size))
  clear hk hg CC KC1 KR1 KM1 EE1
  have z0 : x2.cell? ⟨MB, 2, none⟩ = some (.int .i64 0) := KMx.out.cell 2
  have zf : x2.frozen? ⟨MB, 2, none⟩ = false := KMx.out.froz 2
  have KC2 := hide1 (show CurM (x2.setCell ⟨MB, 2, none⟩ (.int .i64 (o : Int))) C t p3 b3 from Blk.far KCx.out ⟨MB, 2, none⟩ _ hMC.symm)
  have KR2 := hide1 (Blk.far KRx.out ⟨MB, 2, none⟩ (.int .i64 (o : Int)) hMR.symm)
  have KM2 := hide1 (Blk.set KMx.out 2 (.int .i64 (o : Int)))
  have EE2 := hide1 (EEx.out.setCell (p := ⟨MB, 2, none⟩) lMB (.int .i64 (o : Int)))
  go_upto_region 6 with fail
  generalize (x2.setCell ⟨MB, 2, none⟩ (.int .i64 (o : Int))) = y2 at KC2 KR2 KM2 EE2 ⊢
  clear z0 zf KCx KRx KMx EEx
  obtain ⟨e, p4, b4, h4⟩ : ∃ k q d, cOne t (p3, b3) = (k, q, d) := ⟨_, _, _, rfl⟩
  have CC := hide1 (l13One_any C t p3 b3 y2 htz hp3 KC2.out)
  rw [h4] at CC
  go_wp2_with fail
  refine CC.out.mono ?_
  rintro e9 x3 ⟨rfl, hk, hp4, hg⟩
  have hp4 : p4 ≤ t.size := hp4
  have KCx := hide1 (show CurM x3 C t p4 b4 from hk)
  have KRx := hide1 (gblk hg KR2.out (fun e => hRC (by injection e with e; exact e.symm)))
  have KMx := hide1 (gblk hg KM2.out (fun e => hMC (by injection e with e; exact e.symm)))
  have EEx := hide1 (EE2.out.trans (gbelow hg (fun g e => by injection e; omega) EE2.out.size))
  clear hk hg CC KC2 KR2 KM2 EE2
  have z0 : x3.cell? ⟨MB, 3, none⟩ = some (.int .i64 0) := KMx.out.cell 3
  have zf : x3.frozen? ⟨MB, 3, none⟩ = false := KMx.out.froz 3
  have KC3 := hide1 (show CurM (x3.setCell ⟨MB, 3, none⟩ (.int .i64 (e : Int))) C t p4 b4 from Blk.far KCx.out ⟨MB, 3, none⟩ _ hMC.symm)
  have KR3 := hide1 (Blk.far KRx.out ⟨MB, 3, none⟩ (.int .i64 (e : Int)) hMR.symm)
  have KM3 := hide1 (Blk.set KMx.out 3 (.int .i64 (e : Int)))
  have EE3 := hide1 (EEx.out.setCell (p := ⟨MB, 3, none⟩) lMB (.int .i64 (e : Int)))
  go_upto_region 7 with fail
  generalize (x3.setCell ⟨MB, 3, none⟩ (.int .i64 (e : Int))) = y3 at KC3 KR3 KM3 EE3 ⊢
  clear z0 zf KCx KRx KMx EEx
  obtain ⟨nn, p5, b5, h5⟩ : ∃ k q d, cVar t (p4, b4) = (k, q, d) := ⟨_, _, _, rfl⟩
  have CC := hide1 (l13Var_any C t p4 b4 y3 htz hp4 KC3.out)
  rw [h5] at CC
  go_wp2_with fail
  refine CC.out.mono ?_
  rintro e9 x4 ⟨rfl, hk, hp5, hg⟩
  have hp5 : p5 ≤ t.size := hp5
  have KCx := hide1 (show CurM x4 C t p5 b5 from hk)
  have KRx := hide1 (gblk hg KR3.out (fun e => hRC (by injection e with e; exact e.symm)))
  have KMx := hide1 (gblk hg KM3.out (fun e => hMC (by injection e with e; exact e.symm)))
  have EEx := hide1 (EE3.out.trans (gbelow hg (fun g e => by injection e; omega) EE3.out.size))
  clear hk hg CC KC3 KR3 KM3 EE3
  have z0 : x4.cell? ⟨MB, 4, none⟩ = some (.int .i64 0) := KMx.out.cell 4
  have zf : x4.frozen? ⟨MB, 4, none⟩ = false := KMx.out.froz 4
  have KC4 := hide1 (show CurM (x4.setCell ⟨MB, 4, none⟩ (.int .i64 (nn : Int))) C t p5 b5 from Blk.far KCx.out ⟨MB, 4, none⟩ _ hMC.symm)
  have KR4 := hide1 (Blk.far KRx.out ⟨MB, 4, none⟩ (.int .i64 (nn : Int)) hMR.symm)
  have KM4 := hide1 (Blk.set KMx.out 4 (.int .i64 (nn : Int)))
  have EE4 := hide1 (EEx.out.setCell (p := ⟨MB, 4, none⟩) lMB (.int .i64 (nn : Int)))
  go_upto_region 8 with fail
  generalize (x4.setCell ⟨MB, 4, none⟩ (.int .i64 (nn : Int))) = y4 at KC4 KR4 KM4 EE4 ⊢
  clear z0 zf KCx KRx KMx EEx
  obtain ⟨ct, p6, b6, h6⟩ : ∃ k q d, cVar t (p5, b5) = (k, q, d) := ⟨_, _, _, rfl⟩
  have CC := hide1 (l13Var_any C t p5 b5 y4 htz hp5 KC4.out)
  rw [h6] at CC
  have hct : ct ≤ 1000000000 := by have := cVar_le t (p5, b5); rw [h6] at this; exact this
  go_wp2_with fail
  refine CC.out.mono ?_
  rintro e9 L ⟨rfl, hk, hp6, hg⟩
  have hp6 : p6 ≤ t.size := hp6
  have KCl := hide1 (show CurM L C t p6 b6 from hk)
  have KRl := hide1 (gblk hg KR4.out (fun e => hRC (by injection e with e; exact e.symm)))
  have KMl := hide1 (show Blk L MB 26 [.int .i64 (k : Int), .int .i64 (f : Int), .int .i64 (o : Int), .int .i64 (e : Int), .int .i64 (nn : Int), .slice none 0 0] from gblk hg KM4.out (fun e => hMC (by injection e with e; exact e.symm)))
  have EEl := hide1 (EE4.out.trans (gbelow hg (fun g e => by injection e; omega) EE4.out.size))
  clear hk hg CC KC4 KR4 KM4 EE4
  have lCL : C < L.heap.size := KCl.out.lt
  have lML : MB < L.heap.size := KMl.out.lt
  have lRL : RB < L.heap.size := KRl.out.lt
  have lwL : w.heap.size ≤ L.heap.size := EEl.out.size
  have HRD := hide1 (fun l p7 b7 h7 => readM_of (p7 := p7) (b7 := b7) (l := l) h1 h2 h3 h4 h5 h6 h7)
  clear h1 h2 h3 h4 h5 h6
  go_wp2
  go_loopw [9] (fun iv wr => ∃ (i : Nat) (pre : List Im) (a : Option Addr) (ca p : Nat) (b : Bool), i ≤ min ct 50 ∧ pre.length = i ∧ iv = .int .i64 (i : Int) ∧ p ≤ t.size ∧ Hid (onC t (min ct 50) (p6, b6) pre i (p, b)) ∧ Hid (CurM wr C t p b) ∧ Hid (Blk wr RB 26 [.int .i64 0, .int .i64 0, .int .i64 0, .int .i64 0, .int .i64 0, .slice none 0 0]) ∧ Hid (Blk wr MB 26 [.int .i64 (k : Int), .int .i64 (f : Int), .int .i64 (o : Int), .int .i64 (e : Int), .int .i64 (nn : Int), .slice a pre.length ca]) ∧ Hid (wr.ownsRow L.heap.size 51 3 (.slice a pre.length ca) pre.length (rowG imC pre)) ∧ Hid (Below w.heap.size w wr) ∧ L.heap.size ≤ wr.heap.size) (fun iv _ => 50 - (intOf iv).toNat)
  case atStart => exact ⟨0, [], none, 0, p6, b6, Nat.zero_le _, rfl, rfl, hp6, hide1 (onC_start t _ _), KCl, KRl, KMl, hide1 (World.ownsRow_nil _ _ _ _), EEl, Nat.le_refl _⟩
  case round =>
    obtain ⟨i, pre, a, ca, p, b, hi, hpre, rfl, hp, ON, KC, KR, KM, OW, EE, lLr⟩ := hrel
    have hpl : pre.length ≤ 50 := by omega
    have HPRE := hide1 hpre
    clear hpre
    have y2 : wr.cell? ⟨C, 2, none⟩ = some (.bool b) := KC.out.cell 2
    by_cases hgo : i < min ct 50 ∧ b = false
    · obtain ⟨hik, rfl⟩ := hgo
      have k1 : (i : Int) < (ct : Int) := by omega
      have k2 : (i : Int) < (50 : Int) := by omega
      have k3 : decide ((i : Int) < (ct : Int)) = true := decide_eq_true k1
      have k4 : decide ((i : Int) < (50 : Int)) = true := decide_eq_true k2
      obtain ⟨n1, q1, c1, g1⟩ : ∃ k q d, cVar t (p, false) = (k, q, d) := ⟨_, _, _, rfl⟩
      obtain ⟨Ky, q2, c2, g2⟩ : ∃ k q d, cTake t (q1, c1) n1 = (k, q, d) := ⟨_, _, _, rfl⟩
      obtain ⟨n2, q3, c3, g3⟩ : ∃ k q d, cVar t (q2, c2) = (k, q, d) := ⟨_, _, _, rfl⟩
      obtain ⟨Vl, q4, c4, g4⟩ : ∃ k q d, cTake t (q3, c3) n2 = (k, q, d) := ⟨_, _, _, rfl⟩
      obtain ⟨n3, q5, c5, g5⟩ : ∃ k q d, cVar t (q4, c4) = (k, q, d) := ⟨_, _, _, rfl⟩
      have hn1 : n1 ≤ 1000000000 := by have := cVar_le t (p, false); rw [g1] at this; exact this
      have hn2 : n2 ≤ 1000000000 := by have := cVar_le t (q2, c2); rw [g3] at this; exact this
      have ON2 := hide1 (onC_next ON.out hik rfl)
      rw [cItem_of g1 g2 g3 g4 g5] at ON2
      dsimp only at ON2
      have S1 := hide1 (l13Var_any C t p false wr htz hp KC.out)
      have S2 := hide1 (fun v hq (hk : CurM v C t q1 c1) => l13Take_any C t q1 c1 n1 v htz hq hn1 hk)
      have S3 := hide1 (fun v hq (hk : CurM v C t q2 c2) => l13Var_any C t q2 c2 v htz hq hk)
      have S4 := hide1 (fun v hq (hk : CurM v C t q3 c3) => l13Take_any C t q3 c3 n2 v htz hq hn2 hk)
      have S5 := hide1 (fun v hq (hk : CurM v C t q4 c4) => l13Var_any C t q4 c4 v htz hq hk)
      rw [g1] at S1
      rw [g2] at S2
      rw [g3] at S3
      rw [g4] at S4
      rw [g5] at S5
      clear g1 g2 g3 g4 g5 ON
      have NE := hide1 (show ∀ g, (Value.slice a pre.length ca).ownBlock = some g → L.heap.size ≤ g from fun g hg => (OW.out.lt g hg).1)
      go_wp2_with fail
      refine S1.out.mono ?_
      rintro e9 a1 ⟨rfl, hk1, hq1, hg1⟩
      have hk1 : CurM a1 C t q1 c1 := hk1
      have hq1 : q1 ≤ t.size := hq1
      have HK1 := hide1 hk1
      have HG1 := hide1 hg1
      clear hk1 hg1 y2
      go_wp2_with fail
      refine (S2.out a1 hq1 HK1.out).mono ?_
      rintro e9 a2 ⟨rfl, hk2, hq2, hg2⟩
      have hk2 : CurM a2 C t q2 c2 := hk2
      have hq2 : q2 ≤ t.size := hq2
      have HG2 := hide1 (gtrans HG1.out hg2)
      have HK2 := hide1 hk2
      clear hk2 hg2 HK1 HG1
      have FX := hide1 (And.intro (Blk.new a2 51 #[.string Ky, .string ⟨#[]⟩, .int .i64 0]) ((Below.refl a2.heap.size a2).alloc (Nat.le_refl _) (.cells #[.string Ky, .string ⟨#[]⟩, .int .i64 0] 51)))
      go_upto_region 14 with fail
      generalize (a2.alloc (.cells #[.string Ky, .string ⟨#[]⟩, .int .i64 0] 51)) = d2 at FX ⊢
      obtain ⟨X, hX⟩ : ∃ X, X = a2.heap.size := ⟨_, rfl⟩
      have KX2 := hide1 FX.out.1
      rw [← hX] at KX2 ⊢
      have hXC : X ≠ C := by have := HK2.out.lt; omega
      have lX : L.heap.size ≤ X := by have := HG2.out.size; omega
      have lXw : wr.heap.size ≤ X := by have := HG2.out.size; omega
      have HKd := hide1 (show CurM d2 C t q2 c2 from HK2.out.below FX.out.2 HK2.out.lt)
      have HGd := hide1 (show wr.grownBy d2 (some C) from gtrans HG2.out (gnew FX.out.2))
      have hXr : ∀ g, (Value.slice a pre.length ca).ownBlock = some g → g ≠ X := fun g hg => by have := (OW.out.lt g hg).2; have := HG2.out.size; omega
      have HXr := hide1 hXr
      clear FX hX HK2 HG2 hXr
      go_wp2_with fail
      refine (S3.out d2 hq2 HKd.out).mono ?_
      rintro e9 a3 ⟨rfl, hk3, hq3, hg3⟩
      have hk3 : CurM a3 C t q3 c3 := hk3
      have hq3 : q3 ≤ t.size := hq3
      have HK3 := hide1 hk3
      have HG3 := hide1 (gtrans HGd.out hg3)
      have KX3 := hide1 (gblk hg3 KX2.out (fun e => hXC (by injection e with e; exact e.symm)))
      clear hk3 hg3 HKd HGd KX2
      go_wp2_with fail
      refine (S4.out a3 hq3 HK3.out).mono ?_
      rintro e9 a4 ⟨rfl, hk4, hq4, hg4⟩
      have hk4 : CurM a4 C t q4 c4 := hk4
      have hq4 : q4 ≤ t.size := hq4
      have KX4 := hide1 (gblk hg4 KX3.out (fun e => hXC (by injection e with e; exact e.symm)))
      have HG4 := hide1 (gtrans HG3.out hg4)
      have x1 : a4.cell? ⟨X, 1, none⟩ = some (.string ⟨#[]⟩) := KX4.out.cell 1
      have xf : a4.frozen? ⟨X, 1, none⟩ = false := KX4.out.froz 1
      have HK4 := hide1 (show CurM (a4.setCell ⟨X, 1, none⟩ (.string Vl)) C t q4 c4 from Blk.far hk4 ⟨X, 1, none⟩ _ hXC.symm)
      have KY4 := hide1 (Blk.set KX4.out 1 (.string Vl))
      have HF4 := hide1 (gfar HG4.out lXw 1 (.string Vl))
      clear hk4 hg4 HK3 HG3 KX3
      go_upto_region 16 with fail
      generalize (a4.setCell ⟨X, 1, none⟩ (.string Vl)) = d4 at HK4 KY4 HF4 ⊢
      clear x1 xf KX4 HG4
      go_wp2_with fail
      refine (S5.out d4 hq4 HK4.out).mono ?_
      rintro e9 a5 ⟨rfl, hk5, hq5, hg5⟩
      have hk5 : CurM a5 C t q5 c5 := hk5
      have hq5 : q5 ≤ t.size := hq5
      have KX5 := hide1 (gblk hg5 KY4.out (fun e => hXC (by injection e with e; exact e.symm)))
      have HG5 := hide1 (gtrans HF4.out hg5)
      have x2 : a5.cell? ⟨X, 2, none⟩ = some (.int .i64 0) := KX5.out.cell 2
      have xf : a5.frozen? ⟨X, 2, none⟩ = false := KX5.out.froz 2
      have HK5 := hide1 (show CurM (a5.setCell ⟨X, 2, none⟩ (.int .i64 (n3 : Int))) C t q5 c5 from Blk.far hk5 ⟨X, 2, none⟩ _ hXC.symm)
      have KY5 := hide1 (show Blk (a5.setCell ⟨X, 2, none⟩ (.int .i64 (n3 : Int))) X 51 [.string Ky, .string Vl, .int .i64 (n3 : Int)] from Blk.set KX5.out 2 (.int .i64 (n3 : Int)))
      have HF5 := hide1 (gfar HG5.out lXw 2 (.int .i64 (n3 : Int)))
      clear hk5 hg5 HK4 KY4 HF4
      go_upto_region 17 with fail
      generalize (a5.setCell ⟨X, 2, none⟩ (.int .i64 (n3 : Int))) = d5 at HK5 KY5 HF5 ⊢
      clear x2 xf KX5 HG5
      have KR5 := hide1 (gblk HF5.out KR.out (fun e => hRC (by injection e with e; exact e.symm)))
      have KM5 := hide1 (gblk HF5.out KM.out (fun e => hMC (by injection e with e; exact e.symm)))
      have OW5 := hide1 (gown HF5.out OW.out (fun g hg e => by have := NE.out g hg; injection e with e; omega))
      have EE5 := hide1 (EE.out.trans (gbelow HF5.out (fun g e => by injection e; omega) EE.out.size))
      have l5 : L.heap.size ≤ d5.heap.size := Nat.le_trans lLr HF5.out.size
      clear KR KM OW EE HF5
      have m5 : d5.cell? ⟨MB, 5, none⟩ = some (.slice a pre.length ca) := KM5.out.cell 5
      have x0 : d5.cell? ⟨X, 0, none⟩ = some (.string Ky) := KY5.out.cell 0
      have x1 : d5.cell? ⟨X, 1, none⟩ = some (.string Vl) := KY5.out.cell 1
      have x2 : d5.cell? ⟨X, 2, none⟩ = some (.int .i64 (n3 : Int)) := KY5.out.cell 2
      have FL := hide1 (And.intro (Blk.new d5 51 #[.string Ky, .string Vl, .int .i64 (n3 : Int)]) ((Below.refl d5.heap.size d5).alloc (Nat.le_refl _) (.cells #[.string Ky, .string Vl, .int .i64 (n3 : Int)] 51)))
      have lCr : C < d5.heap.size := HK5.out.lt
      have O6a := hide1 (own_kept OW5.out FL.out.2)
      have C6a := hide1 (show CurM (d5.alloc (.cells #[.string Ky, .string Vl, .int .i64 (n3 : Int)] 51)) C t q5 c5 from HK5.out.below FL.out.2 HK5.out.lt)
      have R6a := hide1 (KR5.out.below FL.out.2 KR5.out.lt)
      have M6a := hide1 (KM5.out.below FL.out.2 KM5.out.lt)
      have E6a := hide1 (EE5.out.trans (FL.out.2.mono EE5.out.size))
      have l6a : L.heap.size ≤ (d5.alloc (.cells #[.string Ky, .string Vl, .int .i64 (n3 : Int)] 51)).heap.size := Nat.le_trans l5 FL.out.2.size
      have L6a := hide1 l6a
      clear KR5 KM5 OW5 EE5 HK5 KY5 l6a
      go_wp2_with (at_builtin; (refine wpList_appA encIm rowIm rfl (.tmp 73) (.tmp 75) rfl L.heap.size _ pre.length pre rfl O6a.out (some ⟨d5.heap.size, 0, none⟩) 1 1 [⟨Ky, Vl, (n3 : Int)⟩] rfl rfl (rd_one encIm FL.out.1) (by omega) L6a.out ?_; intro a6 ca6 w6 ho6 hg6 hp6x; have C6 := hide1 (show CurM w6 C t q5 c5 from gblk hg6 C6a.out (fun e => by have := NE.out C e; omega)); have R6 := hide1 (gblk hg6 R6a.out (fun e => by have := NE.out RB e; omega)); have M6 := hide1 (gblk hg6 M6a.out (fun e => by have := NE.out MB e; omega)); have O6 := hide1 ho6; have E6 := hide1 (E6a.out.trans (gbelow hg6 (fun g e => by have := NE.out g e; omega) E6a.out.size)); have l6 : L.heap.size ≤ w6.heap.size := Nat.le_trans L6a.out hg6.size; have m6 : w6.cell? ⟨MB, 5, none⟩ = some (.slice a pre.length ca) := M6.out.cell 5; have f6 : w6.frozen? ⟨MB, 5, none⟩ = false := M6.out.froz 5; clear ho6 hg6 hp6x C6a R6a M6a O6a E6a L6a))
      have hlen : (pre ++ [(⟨Ky, Vl, (n3 : Int)⟩ : Im)]).length = pre.length + 1 := by rw [List.length_append]; rfl
      go_roundw
      case rel =>
        refine ⟨i + 1, pre ++ [⟨Ky, Vl, (n3 : Int)⟩], a6, ca6, q5, c5, by omega, by rw [hlen, HPRE.out], by go_num, hq5, ON2, hide1 ?_, hide1 ?_, hide1 ?_, hide1 ?_, hide1 ?_, ?_⟩
        · exact Blk.far C6.out ⟨MB, 5, none⟩ _ hMC.symm
        · exact Blk.far R6.out ⟨MB, 5, none⟩ _ hMR.symm
        · rw [hlen]
          exact Blk.set M6.out 5 _
        · rw [hlen]
          exact own_far O6.out ⟨MB, 5, none⟩ _ (fun g hg => by have := (O6.out.lt g hg).1; show g ≠ MB; omega)
        · exact E6.out.setCell (p := ⟨MB, 5, none⟩) lMB _
        · rw [World.size_setCell]; exact l6
      case measure => simp [intOf]; omega
    · have END := hide1 (onC_end ON.out (by
        by_cases c : i < min ct 50
        · right
          cases hb : b with
          | true => rfl
          | false => exact absurd ⟨c, hb⟩ hgo
        · left
          omega))
      have RD := HRD.out pre p b END.out
      rw [RD] at HNO
      dsimp only at HNO
      have CT := hide1 (specMsgText_any (k : Int) (f : Int) (o : Int) (e : Int) (nn : Int) pre a ca wr (by omega) (rdG_of_own encIm.len OW.out rfl))
      obtain ⟨M, hM⟩ : ∃ M : Ms, M = ⟨(k : Int), (f : Int), (o : Int), (e : Int), (nn : Int), pre⟩ := ⟨_, rfl⟩
      rw [← hM] at HNO CT
      have NE := hide1 (show ∀ g, (Value.slice a pre.length ca).ownBlock = some g → L.heap.size ≤ g from fun g hg => (OW.out.lt g hg).1)
      have OWb := hide1 (own_base OW.out lwL)
      clear RD END ON
      have c0 : wr.cell? ⟨MB, 0, none⟩ = some (.int .i64 (k : Int)) := KM.out.cell 0
      have c1 : wr.cell? ⟨MB, 1, none⟩ = some (.int .i64 (f : Int)) := KM.out.cell 1
      have c2 : wr.cell? ⟨MB, 2, none⟩ = some (.int .i64 (o : Int)) := KM.out.cell 2
      have c3 : wr.cell? ⟨MB, 3, none⟩ = some (.int .i64 (e : Int)) := KM.out.cell 3
      have c4 : wr.cell? ⟨MB, 4, none⟩ = some (.int .i64 (nn : Int)) := KM.out.cell 4
      have c5 : wr.cell? ⟨MB, 5, none⟩ = some (.slice a pre.length ca) := KM.out.cell 5
      by_cases ok : okAll s M b
      · have hy := rd_yes ok
        obtain ⟨e1, e2⟩ := HM9.out
        rw [hy] at e1 e2
        have e1 : M = m9 := e1
        have e2 : true = g9 := e2
        subst e1 e2
        obtain ⟨hb0, ok2, ok3⟩ := ok
        have hv : msgV M = .tuple #[.string s, .bool true] := by unfold msgV; rw [if_pos ok2, ok3]
        rw [hv] at CT
        obtain ⟨q1, q2⟩ := tx_eq s
        subst hb0
        clear HNO hy hv ok2 ok3 HM9
        by_cases ka : i < ct
        · have k1 : (i : Int) < (ct : Int) := by omega
          have k2 : ¬ ((i : Int) < (50 : Int)) := by
            intro h
            exact hgo ⟨by omega, rfl⟩
          go_wp2_with fail
          refine CT.out.mono ?_
          rintro e9 w5 ⟨rfl, hb5⟩
          have KC5 := hide1 (show CurM w5 C t p false from KC.out.below hb5 KC.out.lt)
          have KR5 := hide1 (KR.out.below hb5 KR.out.lt)
          have KM5 := hide1 (KM.out.below hb5 KM.out.lt)
          have EE5 := hide1 (EE.out.trans (hb5.mono EE.out.size))
          have OW5 := hide1 (own_kept OWb.out hb5)
          clear hb5 c0 c1 c2 c3 c4 c5 y2 CT KC KR KM EE OW OWb
          have y2 : w5.cell? ⟨C, 2, none⟩ = some (.bool false) := KC5.out.cell 2
          have z0 : w5.cell? ⟨RB, 0, none⟩ = some (.int .i64 0) := KR5.out.cell 0
          have z1 : w5.cell? ⟨RB, 1, none⟩ = some (.int .i64 0) := KR5.out.cell 1
          have z2 : w5.cell? ⟨RB, 2, none⟩ = some (.int .i64 0) := KR5.out.cell 2
          have z3 : w5.cell? ⟨RB, 3, none⟩ = some (.int .i64 0) := KR5.out.cell 3
          have z4 : w5.cell? ⟨RB, 4, none⟩ = some (.int .i64 0) := KR5.out.cell 4
          have z5 : w5.cell? ⟨RB, 5, none⟩ = some (.slice none 0 0) := KR5.out.cell 5
          have zf : ∀ j, w5.frozen? ⟨RB, j, none⟩ = false := fun j => KR5.out.froz j
          have c0 : w5.cell? ⟨MB, 0, none⟩ = some (.int .i64 (k : Int)) := KM5.out.cell 0
          have c1 : w5.cell? ⟨MB, 1, none⟩ = some (.int .i64 (f : Int)) := KM5.out.cell 1
          have c2 : w5.cell? ⟨MB, 2, none⟩ = some (.int .i64 (o : Int)) := KM5.out.cell 2
          have c3 : w5.cell? ⟨MB, 3, none⟩ = some (.int .i64 (e : Int)) := KM5.out.cell 3
          have c4 : w5.cell? ⟨MB, 4, none⟩ = some (.int .i64 (nn : Int)) := KM5.out.cell 4
          have c5 : w5.cell? ⟨MB, 5, none⟩ = some (.slice a pre.length ca) := KM5.out.cell 5
          go_wp2
          refine bodyPost_ret (resM2 Tryd.results14 _ _ RB 26 #[.int .i64 (k : Int), .int .i64 (f : Int), .int .i64 (o : Int), .int .i64 (e : Int), .int .i64 (nn : Int), .slice a pre.length ca] (0, 0) _ rfl (Blk.set (Blk.set (Blk.set (Blk.set (Blk.set (Blk.set KR5.out 0 (.int .i64 (k : Int))) 1 (.int .i64 (f : Int))) 2 (.int .i64 (o : Int))) 3 (.int .i64 (e : Int))) 4 (.int .i64 (nn : Int))) 5 (.slice a pre.length ca)) Tryd.underlying26 rfl (by kernel_rfl)) rfl ?_
          subst hM
          exact ⟨⟨a, ca, rfl, (own_far (own_far (own_far (own_far (own_far (own_far OW5.out ⟨RB, 0, none⟩ _ (fun g hg => by have := NE.out g hg; show g ≠ RB; omega)) ⟨RB, 1, none⟩ _ (fun g hg => by have := NE.out g hg; show g ≠ RB; omega)) ⟨RB, 2, none⟩ _ (fun g hg => by have := NE.out g hg; show g ≠ RB; omega)) ⟨RB, 3, none⟩ _ (fun g hg => by have := NE.out g hg; show g ≠ RB; omega)) ⟨RB, 4, none⟩ _ (fun g hg => by have := NE.out g hg; show g ≠ RB; omega)) ⟨RB, 5, none⟩ _ (fun g hg => by have := NE.out g hg; show g ≠ RB; omega))⟩, ((((((EE5.out.setCell (p := ⟨RB, 0, none⟩) lRB _).setCell (p := ⟨RB, 1, none⟩) lRB _).setCell (p := ⟨RB, 2, none⟩) lRB _).setCell (p := ⟨RB, 3, none⟩) lRB _).setCell (p := ⟨RB, 4, none⟩) lRB _).setCell (p := ⟨RB, 5, none⟩) lRB _)⟩
        · have k1 : ¬ ((i : Int) < (ct : Int)) := by omega
          go_wp2_with fail
          refine CT.out.mono ?_
          rintro e9 w5 ⟨rfl, hb5⟩
          have KC5 := hide1 (show CurM w5 C t p false from KC.out.below hb5 KC.out.lt)
          have KR5 := hide1 (KR.out.below hb5 KR.out.lt)
          have KM5 := hide1 (KM.out.below hb5 KM.out.lt)
          have EE5 := hide1 (EE.out.trans (hb5.mono EE.out.size))
          have OW5 := hide1 (own_kept OWb.out hb5)
          clear hb5 c0 c1 c2 c3 c4 c5 y2 CT KC KR KM EE OW OWb
          have y2 : w5.cell? ⟨C, 2, none⟩ = some (.bool false) := KC5.out.cell 2
          have z0 : w5.cell? ⟨RB, 0, none⟩ = some (.int .i64 0) := KR5.out.cell 0
          have z1 : w5.cell? ⟨RB, 1, none⟩ = some (.int .i64 0) := KR5.out.cell 1
          have z2 : w5.cell? ⟨RB, 2, none⟩ = some (.int .i64 0) := KR5.out.cell 2
          have z3 : w5.cell? ⟨RB, 3, none⟩ = some (.int .i64 0) := KR5.out.cell 3
          have z4 : w5.cell? ⟨RB, 4, none⟩ = some (.int .i64 0) := KR5.out.cell 4
          have z5 : w5.cell? ⟨RB, 5, none⟩ = some (.slice none 0 0) := KR5.out.cell 5
          have zf : ∀ j, w5.frozen? ⟨RB, j, none⟩ = false := fun j => KR5.out.froz j
          have c0 : w5.cell? ⟨MB, 0, none⟩ = some (.int .i64 (k : Int)) := KM5.out.cell 0
          have c1 : w5.cell? ⟨MB, 1, none⟩ = some (.int .i64 (f : Int)) := KM5.out.cell 1
          have c2 : w5.cell? ⟨MB, 2, none⟩ = some (.int .i64 (o : Int)) := KM5.out.cell 2
          have c3 : w5.cell? ⟨MB, 3, none⟩ = some (.int .i64 (e : Int)) := KM5.out.cell 3
          have c4 : w5.cell? ⟨MB, 4, none⟩ = some (.int .i64 (nn : Int)) := KM5.out.cell 4
          have c5 : w5.cell? ⟨MB, 5, none⟩ = some (.slice a pre.length ca) := KM5.out.cell 5
          go_wp2
          refine bodyPost_ret (resM2 Tryd.results14 _ _ RB 26 #[.int .i64 (k : Int), .int .i64 (f : Int), .int .i64 (o : Int), .int .i64 (e : Int), .int .i64 (nn : Int), .slice a pre.length ca] (0, 0) _ rfl (Blk.set (Blk.set (Blk.set (Blk.set (Blk.set (Blk.set KR5.out 0 (.int .i64 (k : Int))) 1 (.int .i64 (f : Int))) 2 (.int .i64 (o : Int))) 3 (.int .i64 (e : Int))) 4 (.int .i64 (nn : Int))) 5 (.slice a pre.length ca)) Tryd.underlying26 rfl (by kernel_rfl)) rfl ?_
          subst hM
          exact ⟨⟨a, ca, rfl, (own_far (own_far (own_far (own_far (own_far (own_far OW5.out ⟨RB, 0, none⟩ _ (fun g hg => by have := NE.out g hg; show g ≠ RB; omega)) ⟨RB, 1, none⟩ _ (fun g hg => by have := NE.out g hg; show g ≠ RB; omega)) ⟨RB, 2, none⟩ _ (fun g hg => by have := NE.out g hg; show g ≠ RB; omega)) ⟨RB, 3, none⟩ _ (fun g hg => by have := NE.out g hg; show g ≠ RB; omega)) ⟨RB, 4, none⟩ _ (fun g hg => by have := NE.out g hg; show g ≠ RB; omega)) ⟨RB, 5, none⟩ _ (fun g hg => by have := NE.out g hg; show g ≠ RB; omega))⟩, ((((((EE5.out.setCell (p := ⟨RB, 0, none⟩) lRB _).setCell (p := ⟨RB, 1, none⟩) lRB _).setCell (p := ⟨RB, 2, none⟩) lRB _).setCell (p := ⟨RB, 3, none⟩) lRB _).setCell (p := ⟨RB, 4, none⟩) lRB _).setCell (p := ⟨RB, 5, none⟩) lRB _)⟩
      · have hy := HNO.out ok
        obtain ⟨e1, e2⟩ := HM9.out
        rw [hy] at e1 e2
        have e1 : zeroMs = m9 := e1
        have e2 : false = g9 := e2
        subst e1 e2
        clear HNO hy HM9
        by_cases hbt : b = true
        · subst hbt
          obtain ⟨S9, r9, hv9⟩ : ∃ (z : ByteArray) (g : Bool), msgV M = .tuple #[.string z, .bool g] := by unfold msgV; split <;> exact ⟨_, _, rfl⟩
          rw [hv9] at CT
          clear hv9 ok hM
          by_cases ka : i < ct
          · have k1 : (i : Int) < (ct : Int) := by omega
            by_cases kb : i < 50
            · have k2 : (i : Int) < (50 : Int) := by omega
              go_wp2_with fail
              refine CT.out.mono ?_
              rintro e9 w5 ⟨rfl, hb5⟩
              have KC5 := hide1 (show CurM w5 C t p true from KC.out.below hb5 KC.out.lt)
              have KR5 := hide1 (KR.out.below hb5 KR.out.lt)
              have KM5 := hide1 (KM.out.below hb5 KM.out.lt)
              have EE5 := hide1 (EE.out.trans (hb5.mono EE.out.size))
              have OW5 := hide1 (own_kept OWb.out hb5)
              clear hb5 c0 c1 c2 c3 c4 c5 y2 CT KC KR KM EE OW OWb
              have y2 : w5.cell? ⟨C, 2, none⟩ = some (.bool true) := KC5.out.cell 2
              have z0 : w5.cell? ⟨RB, 0, none⟩ = some (.int .i64 0) := KR5.out.cell 0
              have z1 : w5.cell? ⟨RB, 1, none⟩ = some (.int .i64 0) := KR5.out.cell 1
              have z2 : w5.cell? ⟨RB, 2, none⟩ = some (.int .i64 0) := KR5.out.cell 2
              have z3 : w5.cell? ⟨RB, 3, none⟩ = some (.int .i64 0) := KR5.out.cell 3
              have z4 : w5.cell? ⟨RB, 4, none⟩ = some (.int .i64 0) := KR5.out.cell 4
              have z5 : w5.cell? ⟨RB, 5, none⟩ = some (.slice none 0 0) := KR5.out.cell 5
              have zf : ∀ j, w5.frozen? ⟨RB, j, none⟩ = false := fun j => KR5.out.froz j
              go_wp2
              refine bodyPost_ret (resM2 Tryd.results14 _ _ RB 26 #[.int .i64 0, .int .i64 0, .int .i64 0, .int .i64 0, .int .i64 0, .slice none 0 0] (0, 0) _ rfl (Blk.set (Blk.set (Blk.set (Blk.set (Blk.set (Blk.set KR5.out 0 (.int .i64 0)) 1 (.int .i64 0)) 2 (.int .i64 0)) 3 (.int .i64 0)) 4 (.int .i64 0)) 5 (.slice none 0 0)) Tryd.underlying26 rfl (by kernel_rfl)) rfl ?_
              exact ⟨⟨none, 0, rfl, World.ownsRow_nil _ _ _ _⟩, ((((((EE5.out.setCell (p := ⟨RB, 0, none⟩) lRB _).setCell (p := ⟨RB, 1, none⟩) lRB _).setCell (p := ⟨RB, 2, none⟩) lRB _).setCell (p := ⟨RB, 3, none⟩) lRB _).setCell (p := ⟨RB, 4, none⟩) lRB _).setCell (p := ⟨RB, 5, none⟩) lRB _)⟩
            · have k2 : ¬ ((i : Int) < (50 : Int)) := by omega
              go_wp2_with fail
              refine CT.out.mono ?_
              rintro e9 w5 ⟨rfl, hb5⟩
              have KC5 := hide1 (show CurM w5 C t p true from KC.out.below hb5 KC.out.lt)
              have KR5 := hide1 (KR.out.below hb5 KR.out.lt)
              have KM5 := hide1 (KM.out.below hb5 KM.out.lt)
              have EE5 := hide1 (EE.out.trans (hb5.mono EE.out.size))
              have OW5 := hide1 (own_kept OWb.out hb5)
              clear hb5 c0 c1 c2 c3 c4 c5 y2 CT KC KR KM EE OW OWb
              have y2 : w5.cell? ⟨C, 2, none⟩ = some (.bool true) := KC5.out.cell 2
              have z0 : w5.cell? ⟨RB, 0, none⟩ = some (.int .i64 0) := KR5.out.cell 0
              have z1 : w5.cell? ⟨RB, 1, none⟩ = some (.int .i64 0) := KR5.out.cell 1
              have z2 : w5.cell? ⟨RB, 2, none⟩ = some (.int .i64 0) := KR5.out.cell 2
              have z3 : w5.cell? ⟨RB, 3, none⟩ = some (.int .i64 0) := KR5.out.cell 3
              have z4 : w5.cell? ⟨RB, 4, none⟩ = some (.int .i64 0) := KR5.out.cell 4
              have z5 : w5.cell? ⟨RB, 5, none⟩ = some (.slice none 0 0) := KR5.out.cell 5
              have zf : ∀ j, w5.frozen? ⟨RB, j, none⟩ = false := fun j => KR5.out.froz j
              go_wp2
              refine bodyPost_ret (resM2 Tryd.results14 _ _ RB 26 #[.int .i64 0, .int .i64 0, .int .i64 0, .int .i64 0, .int .i64 0, .slice none 0 0] (0, 0) _ rfl (Blk.set (Blk.set (Blk.set (Blk.set (Blk.set (Blk.set KR5.out 0 (.int .i64 0)) 1 (.int .i64 0)) 2 (.int .i64 0)) 3 (.int .i64 0)) 4 (.int .i64 0)) 5 (.slice none 0 0)) Tryd.underlying26 rfl (by kernel_rfl)) rfl ?_
              exact ⟨⟨none, 0, rfl, World.ownsRow_nil _ _ _ _⟩, ((((((EE5.out.setCell (p := ⟨RB, 0, none⟩) lRB _).setCell (p := ⟨RB, 1, none⟩) lRB _).setCell (p := ⟨RB, 2, none⟩) lRB _).setCell (p := ⟨RB, 3, none⟩) lRB _).setCell (p := ⟨RB, 4, none⟩) lRB _).setCell (p := ⟨RB, 5, none⟩) lRB _)⟩
          · have k1 : ¬ ((i : Int) < (ct : Int)) := by omega
            go_wp2_with fail
            refine CT.out.mono ?_
            rintro e9 w5 ⟨rfl, hb5⟩
            have KC5 := hide1 (show CurM w5 C t p true from KC.out.below hb5 KC.out.lt)
            have KR5 := hide1 (KR.out.below hb5 KR.out.lt)
            have KM5 := hide1 (KM.out.below hb5 KM.out.lt)
            have EE5 := hide1 (EE.out.trans (hb5.mono EE.out.size))
            have OW5 := hide1 (own_kept OWb.out hb5)
            clear hb5 c0 c1 c2 c3 c4 c5 y2 CT KC KR KM EE OW OWb
            have y2 : w5.cell? ⟨C, 2, none⟩ = some (.bool true) := KC5.out.cell 2
            have z0 : w5.cell? ⟨RB, 0, none⟩ = some (.int .i64 0) := KR5.out.cell 0
            have z1 : w5.cell? ⟨RB, 1, none⟩ = some (.int .i64 0) := KR5.out.cell 1
            have z2 : w5.cell? ⟨RB, 2, none⟩ = some (.int .i64 0) := KR5.out.cell 2
            have z3 : w5.cell? ⟨RB, 3, none⟩ = some (.int .i64 0) := KR5.out.cell 3
            have z4 : w5.cell? ⟨RB, 4, none⟩ = some (.int .i64 0) := KR5.out.cell 4
            have z5 : w5.cell? ⟨RB, 5, none⟩ = some (.slice none 0 0) := KR5.out.cell 5
            have zf : ∀ j, w5.frozen? ⟨RB, j, none⟩ = false := fun j => KR5.out.froz j
            go_wp2
            refine bodyPost_ret (resM2 Tryd.results14 _ _ RB 26 #[.int .i64 0, .int .i64 0, .int .i64 0, .int .i64 0, .int .i64 0, .slice none 0 0] (0, 0) _ rfl (Blk.set (Blk.set (Blk.set (Blk.set (Blk.set (Blk.set KR5.out 0 (.int .i64 0)) 1 (.int .i64 0)) 2 (.int .i64 0)) 3 (.int .i64 0)) 4 (.int .i64 0)) 5 (.slice none 0 0)) Tryd.underlying26 rfl (by kernel_rfl)) rfl ?_
            exact ⟨⟨none, 0, rfl, World.ownsRow_nil _ _ _ _⟩, ((((((EE5.out.setCell (p := ⟨RB, 0, none⟩) lRB _).setCell (p := ⟨RB, 1, none⟩) lRB _).setCell (p := ⟨RB, 2, none⟩) lRB _).setCell (p := ⟨RB, 3, none⟩) lRB _).setCell (p := ⟨RB, 4, none⟩) lRB _).setCell (p := ⟨RB, 5, none⟩) lRB _)⟩
        · obtain rfl : b = false := by cases hb : b with | true => exact absurd hb hbt | false => rfl
          by_cases ok2 : okMs M
          · have hne : sealS (bA (msB M)) ≠ s := fun h => ok ⟨rfl, ok2, h⟩
            have hv : msgV M = .tuple #[.string (sealS (bA (msB M))), .bool true] := by unfold msgV; rw [if_pos ok2]
            rw [hv] at CT
            obtain ⟨q1, q2⟩ := text_ne hne
            clear hv ok ok2 hM hne
            generalize sealS (bA (msB M)) = S9 at *
            by_cases ka : i < ct
            · have k1 : (i : Int) < (ct : Int) := by omega
              have k2 : ¬ ((i : Int) < (50 : Int)) := by
                intro h
                exact hgo ⟨by omega, rfl⟩
              go_wp2_with fail
              refine CT.out.mono ?_
              rintro e9 w5 ⟨rfl, hb5⟩
              have KC5 := hide1 (show CurM w5 C t p false from KC.out.below hb5 KC.out.lt)
              have KR5 := hide1 (KR.out.below hb5 KR.out.lt)
              have KM5 := hide1 (KM.out.below hb5 KM.out.lt)
              have EE5 := hide1 (EE.out.trans (hb5.mono EE.out.size))
              have OW5 := hide1 (own_kept OWb.out hb5)
              clear hb5 c0 c1 c2 c3 c4 c5 y2 CT KC KR KM EE OW OWb
              have y2 : w5.cell? ⟨C, 2, none⟩ = some (.bool false) := KC5.out.cell 2
              have z0 : w5.cell? ⟨RB, 0, none⟩ = some (.int .i64 0) := KR5.out.cell 0
              have z1 : w5.cell? ⟨RB, 1, none⟩ = some (.int .i64 0) := KR5.out.cell 1
              have z2 : w5.cell? ⟨RB, 2, none⟩ = some (.int .i64 0) := KR5.out.cell 2
              have z3 : w5.cell? ⟨RB, 3, none⟩ = some (.int .i64 0) := KR5.out.cell 3
              have z4 : w5.cell? ⟨RB, 4, none⟩ = some (.int .i64 0) := KR5.out.cell 4
              have z5 : w5.cell? ⟨RB, 5, none⟩ = some (.slice none 0 0) := KR5.out.cell 5
              have zf : ∀ j, w5.frozen? ⟨RB, j, none⟩ = false := fun j => KR5.out.froz j
              go_wp2
              refine bodyPost_ret (resM2 Tryd.results14 _ _ RB 26 #[.int .i64 0, .int .i64 0, .int .i64 0, .int .i64 0, .int .i64 0, .slice none 0 0] (0, 0) _ rfl (Blk.set (Blk.set (Blk.set (Blk.set (Blk.set (Blk.set KR5.out 0 (.int .i64 0)) 1 (.int .i64 0)) 2 (.int .i64 0)) 3 (.int .i64 0)) 4 (.int .i64 0)) 5 (.slice none 0 0)) Tryd.underlying26 rfl (by kernel_rfl)) rfl ?_
              exact ⟨⟨none, 0, rfl, World.ownsRow_nil _ _ _ _⟩, ((((((EE5.out.setCell (p := ⟨RB, 0, none⟩) lRB _).setCell (p := ⟨RB, 1, none⟩) lRB _).setCell (p := ⟨RB, 2, none⟩) lRB _).setCell (p := ⟨RB, 3, none⟩) lRB _).setCell (p := ⟨RB, 4, none⟩) lRB _).setCell (p := ⟨RB, 5, none⟩) lRB _)⟩
            · have k1 : ¬ ((i : Int) < (ct : Int)) := by omega
              go_wp2_with fail
              refine CT.out.mono ?_
              rintro e9 w5 ⟨rfl, hb5⟩
              have KC5 := hide1 (show CurM w5 C t p false from KC.out.below hb5 KC.out.lt)
              have KR5 := hide1 (KR.out.below hb5 KR.out.lt)
              have KM5 := hide1 (KM.out.below hb5 KM.out.lt)
              have EE5 := hide1 (EE.out.trans (hb5.mono EE.out.size))
              have OW5 := hide1 (own_kept OWb.out hb5)
              clear hb5 c0 c1 c2 c3 c4 c5 y2 CT KC KR KM EE OW OWb
              have y2 : w5.cell? ⟨C, 2, none⟩ = some (.bool false) := KC5.out.cell 2
              have z0 : w5.cell? ⟨RB, 0, none⟩ = some (.int .i64 0) := KR5.out.cell 0
              have z1 : w5.cell? ⟨RB, 1, none⟩ = some (.int .i64 0) := KR5.out.cell 1
              have z2 : w5.cell? ⟨RB, 2, none⟩ = some (.int .i64 0) := KR5.out.cell 2
              have z3 : w5.cell? ⟨RB, 3, none⟩ = some (.int .i64 0) := KR5.out.cell 3
              have z4 : w5.cell? ⟨RB, 4, none⟩ = some (.int .i64 0) := KR5.out.cell 4
              have z5 : w5.cell? ⟨RB, 5, none⟩ = some (.slice none 0 0) := KR5.out.cell 5
              have zf : ∀ j, w5.frozen? ⟨RB, j, none⟩ = false := fun j => KR5.out.froz j
              go_wp2
              refine bodyPost_ret (resM2 Tryd.results14 _ _ RB 26 #[.int .i64 0, .int .i64 0, .int .i64 0, .int .i64 0, .int .i64 0, .slice none 0 0] (0, 0) _ rfl (Blk.set (Blk.set (Blk.set (Blk.set (Blk.set (Blk.set KR5.out 0 (.int .i64 0)) 1 (.int .i64 0)) 2 (.int .i64 0)) 3 (.int .i64 0)) 4 (.int .i64 0)) 5 (.slice none 0 0)) Tryd.underlying26 rfl (by kernel_rfl)) rfl ?_
              exact ⟨⟨none, 0, rfl, World.ownsRow_nil _ _ _ _⟩, ((((((EE5.out.setCell (p := ⟨RB, 0, none⟩) lRB _).setCell (p := ⟨RB, 1, none⟩) lRB _).setCell (p := ⟨RB, 2, none⟩) lRB _).setCell (p := ⟨RB, 3, none⟩) lRB _).setCell (p := ⟨RB, 4, none⟩) lRB _).setCell (p := ⟨RB, 5, none⟩) lRB _)⟩
          · have hv : msgV M = .tuple #[.string ⟨#[]⟩, .bool false] := by unfold msgV; rw [if_neg ok2]
            rw [hv] at CT
            clear hv ok ok2 hM
            by_cases ka : i < ct
            · have k1 : (i : Int) < (ct : Int) := by omega
              have k2 : ¬ ((i : Int) < (50 : Int)) := by
                intro h
                exact hgo ⟨by omega, rfl⟩
              go_wp2_with fail
              refine CT.out.mono ?_
              rintro e9 w5 ⟨rfl, hb5⟩
              have KC5 := hide1 (show CurM w5 C t p false from KC.out.below hb5 KC.out.lt)
              have KR5 := hide1 (KR.out.below hb5 KR.out.lt)
              have KM5 := hide1 (KM.out.below hb5 KM.out.lt)
              have EE5 := hide1 (EE.out.trans (hb5.mono EE.out.size))
              have OW5 := hide1 (own_kept OWb.out hb5)
              clear hb5 c0 c1 c2 c3 c4 c5 y2 CT KC KR KM EE OW OWb
              have y2 : w5.cell? ⟨C, 2, none⟩ = some (.bool false) := KC5.out.cell 2
              have z0 : w5.cell? ⟨RB, 0, none⟩ = some (.int .i64 0) := KR5.out.cell 0
              have z1 : w5.cell? ⟨RB, 1, none⟩ = some (.int .i64 0) := KR5.out.cell 1
              have z2 : w5.cell? ⟨RB, 2, none⟩ = some (.int .i64 0) := KR5.out.cell 2
              have z3 : w5.cell? ⟨RB, 3, none⟩ = some (.int .i64 0) := KR5.out.cell 3
              have z4 : w5.cell? ⟨RB, 4, none⟩ = some (.int .i64 0) := KR5.out.cell 4
              have z5 : w5.cell? ⟨RB, 5, none⟩ = some (.slice none 0 0) := KR5.out.cell 5
              have zf : ∀ j, w5.frozen? ⟨RB, j, none⟩ = false := fun j => KR5.out.froz j
              go_wp2
              refine bodyPost_ret (resM2 Tryd.results14 _ _ RB 26 #[.int .i64 0, .int .i64 0, .int .i64 0, .int .i64 0, .int .i64 0, .slice none 0 0] (0, 0) _ rfl (Blk.set (Blk.set (Blk.set (Blk.set (Blk.set (Blk.set KR5.out 0 (.int .i64 0)) 1 (.int .i64 0)) 2 (.int .i64 0)) 3 (.int .i64 0)) 4 (.int .i64 0)) 5 (.slice none 0 0)) Tryd.underlying26 rfl (by kernel_rfl)) rfl ?_
              exact ⟨⟨none, 0, rfl, World.ownsRow_nil _ _ _ _⟩, ((((((EE5.out.setCell (p := ⟨RB, 0, none⟩) lRB _).setCell (p := ⟨RB, 1, none⟩) lRB _).setCell (p := ⟨RB, 2, none⟩) lRB _).setCell (p := ⟨RB, 3, none⟩) lRB _).setCell (p := ⟨RB, 4, none⟩) lRB _).setCell (p := ⟨RB, 5, none⟩) lRB _)⟩
            · have k1 : ¬ ((i : Int) < (ct : Int)) := by omega
              go_wp2_with fail
              refine CT.out.mono ?_
              rintro e9 w5 ⟨rfl, hb5⟩
              have KC5 := hide1 (show CurM w5 C t p false from KC.out.below hb5 KC.out.lt)
              have KR5 := hide1 (KR.out.below hb5 KR.out.lt)
              have KM5 := hide1 (KM.out.below hb5 KM.out.lt)
              have EE5 := hide1 (EE.out.trans (hb5.mono EE.out.size))
              have OW5 := hide1 (own_kept OWb.out hb5)
              clear hb5 c0 c1 c2 c3 c4 c5 y2 CT KC KR KM EE OW OWb
              have y2 : w5.cell? ⟨C, 2, none⟩ = some (.bool false) := KC5.out.cell 2
              have z0 : w5.cell? ⟨RB, 0, none⟩ = some (.int .i64 0) := KR5.out.cell 0
              have z1 : w5.cell? ⟨RB, 1, none⟩ = some (.int .i64 0) := KR5.out.cell 1
              have z2 : w5.cell? ⟨RB, 2, none⟩ = some (.int .i64 0) := KR5.out.cell 2
              have z3 : w5.cell? ⟨RB, 3, none⟩ = some (.int .i64 0) := KR5.out.cell 3
              have z4 : w5.cell? ⟨RB, 4, none⟩ = some (.int .i64 0) := KR5.out.cell 4
              have z5 : w5.cell? ⟨RB, 5, none⟩ = some (.slice none 0 0) := KR5.out.cell 5
              have zf : ∀ j, w5.frozen? ⟨RB, j, none⟩ = false := fun j => KR5.out.froz j
              go_wp2
              refine bodyPost_ret (resM2 Tryd.results14 _ _ RB 26 #[.int .i64 0, .int .i64 0, .int .i64 0, .int .i64 0, .int .i64 0, .slice none 0 0] (0, 0) _ rfl (Blk.set (Blk.set (Blk.set (Blk.set (Blk.set (Blk.set KR5.out 0 (.int .i64 0)) 1 (.int .i64 0)) 2 (.int .i64 0)) 3 (.int .i64 0)) 4 (.int .i64 0)) 5 (.slice none 0 0)) Tryd.underlying26 rfl (by kernel_rfl)) rfl ?_
              exact ⟨⟨none, 0, rfl, World.ownsRow_nil _ _ _ _⟩, ((((((EE5.out.setCell (p := ⟨RB, 0, none⟩) lRB _).setCell (p := ⟨RB, 1, none⟩) lRB _).setCell (p := ⟨RB, 2, none⟩) lRB _).setCell (p := ⟨RB, 3, none⟩) lRB _).setCell (p := ⟨RB, 4, none⟩) lRB _).setCell (p := ⟨RB, 5, none⟩) lRB _)⟩
end Go.Proofs.YtbkhhkknhbddeaaDoor
