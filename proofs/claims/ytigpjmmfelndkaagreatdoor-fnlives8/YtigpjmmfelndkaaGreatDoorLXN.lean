import Derived.Test.YtigpjmmfelndkaaGreatDoorLXM
namespace Go.Proofs.YtigpjmmfelndkaaGreatDoor
open Go.RowKit
set_option maxRecDepth 100000
set_option maxHeartbeats 4000000
def qdN : List Ce -> List Ce -> Option (List Ce)
 | [], X => some X
 | e :: es, X => match putC X e.key e.h with
  | some Y => qdN es Y
  | none => none
def qbQ (l o : List Ce) : Option (List Ce × List Ce × Int) := (qdN (qaY (qdL l o)) (List.replicate l.length nC)).map (fun X => (X, [], 0))
theorem quD {l l' : List Ce} {key : ByteArray} {h : Int} (e : putC l key h = some l') : ∃ k, k < l.length /\ l' = l.set k ⟨key, h⟩ := by
 unfold putC at e
 split at e
 ·rename_i k hk
  split at e
  ·rename_i x hx
   split at e
   ·cases e
   ·injection e with e
    exact ⟨k, (List.getElem?_eq_some_iff.1 hx).1, e.symm⟩
  ·cases e
 ·cases e
theorem zaY : nC.key.toList = [] := by
 unfold nC
 rw [ByteArray.toList, ByteArray.toList.loop]
 rfl
structure Cln (E X : List Ce) (n i : Nat) : Prop where
 len : X.length = n
 fit : qfM X
 keys : ∀ j (h : j < X.length), X[j].key.toList ≠ [] -> ∃ k, ∃ hk : k < E.length, k < i /\ E[k].key = X[j].key
 all : qdN E (List.replicate n nC) = qdN (E.drop i) X
theorem Cln.new (E : List Ce) (n : Nat) : Cln E (List.replicate n nC) n 0 := by
 refine ⟨List.length_replicate, ?_, ?_, by rw [List.drop_zero]⟩
 ·intro i hi
  rw [List.getElem_replicate]
  exact .inl ⟨zaY, .inl rfl⟩
 ·intro j hj h
  rw [List.getElem_replicate] at h
  exact absurd zaY h
theorem Cln.none {E X : List Ce} {n i : Nat} (h : Cln E X n i) (hd : Dis E) (hi : i < E.length) (hk : E[i].key.toList ≠ []) : (qaP X E[i].key).1 = none := by
 cases hs : (qaP X E[i].key).1 with
 | none => rfl
 | some k =>
  exfalso
  have hkl := qfD hs
  rw [qaJ h.fit hk] at hs
  have he := qhS hs hkl
  obtain ⟨m, hm, hmi, hme⟩ := h.keys k hkl (by rw [he]; exact hk)
  exact (List.pairwise_iff_getElem.1 hd m i hm hi hmi) (hme.trans he)
theorem quW {E : List Ce} {i : Nat} (hi : i < E.length) : E.drop i = E[i] :: E.drop (i + 1) := List.drop_eq_getElem_cons hi
theorem Cln.put {E X Y : List Ce} {n i : Nat} (h : Cln E X n i) (hi : i < E.length) (hf : E[i].key.toList ≠ [] /\ E[i].key.size <= 12 /\ 0 <= E[i].h) (he : putC X E[i].key E[i].h = some Y) : Cln E Y n (i + 1) := by
 have h4 := h.all
 rw [quW hi, qdN, he] at h4
 obtain ⟨k, hk, rfl⟩ := quD he
 refine ⟨by rw [List.length_set]; exact h.len, ?_, ?_, h4⟩
 ·intro j hj
  rw [List.getElem_set]
  split
  ·exact .inr hf
  ·exact h.fit j (by rwa [List.length_set] at hj)
 ·intro j hj hn
  rw [List.getElem_set] at hn ⊢
  split at hn
  ·rename_i e
   rw [if_pos e]
   exact ⟨i, hi, by omega, rfl⟩
  ·rename_i e
   rw [if_neg e]
   obtain ⟨m, hm, hmi, hme⟩ := h.keys j (by rwa [List.length_set] at hj) hn
   exact ⟨m, hm, by omega, hme⟩
theorem Cln.no {E X : List Ce} {n i : Nat} (h : Cln E X n i) (hi : i < E.length) (he : putC X E[i].key E[i].h = Option.none) : qdN E (List.replicate n nC) = Option.none := by
 rw [h.all, quW hi, qdN, he]
theorem Cln.done {E X : List Ce} {n i : Nat} (h : Cln E X n i) (hi : i = E.length) : qdN E (List.replicate n nC) = some X := by
 rw [h.all, hi, List.drop_length, qdN]
theorem quX {es : List Ce} (hd : Dis es) : Dis (qaY es) := (qcI hd).1.imp (fun h e => by rw [e, qiU] at h; cases h)
theorem qtO {l o : List Ce} {mv : Int} (h : OkT l o mv) {i : Nat} (hi : i < (qaY (qdL l o)).length) : (qaY (qdL l o))[i].key.toList ≠ [] /\ (qaY (qdL l o))[i].key.size <= 12 /\ 0 <= (qaY (qdL l o))[i].h := by
 have hx := (qcI (qcT h)).2.mem_iff.1 (List.getElem_mem hi)
 obtain ⟨f1, s1⟩ := qeX.1 h.cells.1
 obtain ⟨f2, s2⟩ := qeX.1 h.olds.1
 generalize (qaY (qdL l o))[i] = x at *
 rcases List.mem_append.1 hx with hx | hx
 ·obtain ⟨j, hj, e, hn⟩ := qeY hx
  rcases f1 j hj with f | f <;> rw [e] at f
  ·exact absurd f.1 hn
  ·exact f
 ·obtain ⟨j, hj, e, hn⟩ := qeY hx
  rcases f2 j hj with f | f <;> rw [e] at f
  ·exact absurd f.1 hn
  ·exact f
theorem qoM (ao a' : Option Addr) (l o : List Ce) (ca ca' : Nat) (mv : Int) (w : World) (hl : l.length <= 1048576) (hl' : o.length <= 1048576) (hA : RdJ w ao l) (hA' : RdJ w a' o) :
  Calls Tryz.prog 139 #[tbV ao l.length ca a' o.length ca' mv] w fun e w' => MadeT w w' e (OkT l o mv) (qbQ l o) := by
 have CB := hI (fun w' (hb : Below w.heap.size w w') => qdH ao a' l o ca ca' mv w' hl hl' (hA.later hb) (hA'.later hb))
 have F0 := hI (qsG w #[.slice ao l.length ca, .slice a' o.length ca', .int .i64 mv] #[.slice none 0 0, .slice none 0 0, .int .i64 0] 29)
 clear hA hA'
 unfold tbV at CB ⊢
 go_enter Tryz.func139, Tryz.ntmps139
 go_wp2_with fail
 generalize ((w.alloc (.cells #[.slice ao l.length ca, .slice a' o.length ca', .int .i64 mv] 29)).alloc (.cells #[.slice none 0 0, .slice none 0 0, .int .i64 0] 29)) = w0 at F0 ⊢
 obtain ⟨K0, R0, B0⟩ := F0.out
 have R0 := hI R0
 have B0 := hI B0
 clear F0 K0
 refine (CB.out w0 B0.out).mono ?_
 rintro e w1 ⟨hr, hb1⟩
 have R1 := bRn R0 hb1
 have B1 := tRn B0 hb1
 have S1 := hI hb1.size
 have HRS := hI R0.out.lt
 have HR1 := hI (Nat.lt_of_lt_of_le R0.out.lt S1.out)
 clear hb1 CB R0 S1
 have hrs : w.heap.size + 1 < w0.heap.size := HRS.out
 rcases hr with ⟨b, g, m, rfl, hm, hok, hbr⟩ | ⟨v, rfl, hn⟩
 ·subst hm
  have HOK := hI hok
  have hle := hok.len.1
  have hl0 := hok.len.2.2
  have CE := hI (fun w' (hb : Below w1.heap.size w1 w') => qkB (hbr.later hb) hok.len.1 hok.len.2.1 (qcT hok))
  have CN := hI (qfU l.length 0 w1 (by omega))
  have hel : (qdL l o).length <= 128 := by have := qgL (l := l) (o := o); have := hok.len; omega
  have HSL := hI (qfQ (qcT hok))
  have HFT := hI (fun i (hi : i < (qaY (qdL l o)).length) => qtO hok hi)
  have HDS := hI (quX (qcT hok))
  have x0 : w1.cell? ⟨b, 0, none⟩ = some (.slice (some ⟨g, 0, none⟩) l.length l.length) := hbr.hd.cell 0
  clear hok hbr
  go_wp2_with fail
  refine CN.out.mono ?_
  rintro e w2 ⟨b2, g2, rfl, hbr2, hb2⟩
  have D2 := hI hbr2
  have R2 := bRn R1 hb2
  have B2 := tRn B1 hb2
  have BE := hI hb2
  have S1 := hI B1.out.size
  clear hbr2 hb2 CN x0 R1
  go_wp2_with fail
  refine (CE.out _ BE.out).mono ?_
  rintro e w3 ⟨eo, ec, rfl, hrd, hb3, hlo⟩
  have D3 := hI (D2.out.later hb3)
  have R3 := bRn R2 hb3
  have B3 := tRn B2 hb3
  have HRD := hI hrd
  have HLO := hI (fun bb of e h => Nat.lt_of_lt_of_le D2.out.tl.lt (hlo bb of e h))
  clear hrd hb3 hlo CE D2 R2 B2 BE
  obtain ⟨E, hE⟩ : ∃ E, qaY (qdL l o) = E := ⟨_, rfl⟩
  rw [hE] at HRD HSL HFT HDS
  have HE0 := hI (show qbQ l o = (qdN E (List.replicate l.length nC)).map (fun X => (X, [], 0)) by rw [qbQ, hE])
  clear hE
  rw [<- HSL.out] at hel HLO ⊢
  generalize hn0 : l.length = n at *
  go_wp2
  go_loopw [26] (fun iv wr => ∃ (i : Nat) (X : List Ce), i <= E.length /\ iv = .int .i64 (i : Int) /\ Hid (Cln E X n i) /\ Hid (Brd w1.heap.size wr b2 g2 X [] 0) /\ Hid (w3.grownBy wr (some g2))) (fun iv _ => E.length - (intOf iv).toNat)
  case atStart => exact ⟨0, _, by omega, rfl, Cln.new E n, D3, qbO (Below.refl _ _)⟩
  case round =>
   obtain ⟨i, X, hi, rfl, hcl, hbd, hgr⟩ := hrel
   have RG := hI (show Blk wr (w.heap.size + 1) 29 [.slice none 0 0, .slice none 0 0, .int .i64 0] from (hgr.out.block _ R3.out.lt (by intro e; injection e with e; have := D3.out.lg; have := HR1.out; omega)).trans R3.out)
   have BG := hI (show Below w.heap.size w wr from B3.out.trans (qaU hgr.out (fun g' e => by injection e with e; rw [<- e]; exact Nat.le_trans S1.out D3.out.lg) B3.out.size))
   by_cases hlt : i < E.length
   ·have k1 : (i : Int) < (E.length : Int) := by omega
    obtain ⟨bb, of, hao, hb, h1⟩ := HRD.out i hlt
    have hbg : wr.heap[bb]? = w3.heap[bb]? := hgr.out.block bb hb (by intro e; injection e with e; have := HLO.out bb of hao (by omega); omega)
    have x0 : wr.cell? ⟨bb, of + i * 2, none⟩ = some (.string E[i].key) := (World.cell?_of_block (w := w3) hbg).trans h1.1
    have x1 : wr.cell? ⟨bb, of + i * 2 + 1, none⟩ = some (.int .i64 E[i].h) := (World.cell?_of_block (w := w3) hbg).trans h1.2
    have hft := hI (HFT.out i hlt)
    have HNN := hI (hcl.out.none HDS.out hlt hft.out.1)
    have HPT := hI (fun Y he => hcl.out.put (Y := Y) hlt hft.out he)
    have HNO := hI (fun he => hcl.out.no hlt he)
    have HLP := hI (quI hcl.out.fit HNN.out E[i].h)
    have CL := hI (fun wx (hx : Brd w1.heap.size wx b2 g2 X [] 0) => qrA hx E[i] (by have := hcl.out.len; omega) (by have := hcl.out.len; omega) (by have := hft.out.2.1; omega))
    generalize E[i] = s at *
    obtain ⟨ky, hh⟩ := s
    unfold ceV at CL
    simp only at x0 x1 CL HPT HNO HLP
    have NN : Hid (Blk (wr.alloc (.cells #[.string ky, .int .i64 hh] 132)) wr.heap.size 132 [.string ky, .int .i64 hh] /\ Below wr.heap.size wr (wr.alloc (.cells #[.string ky, .int .i64 hh] 132))) := ⟨Blk.new wr _ _, bAl _ _⟩
    rw [hao]
    clear h1 hao hft HNN hcl
    go_upto_region 8 with fail
    generalize (wr.alloc (.cells #[.string ky, .int .i64 hh] 132)) = wv at NN ⊢
    have n0 : wv.cell? ⟨wr.heap.size, 0, none⟩ = _ := cRn (NN.out.1.cell 0) rfl
    have n1 : wv.cell? ⟨wr.heap.size, 1, none⟩ = _ := cRn (NN.out.1.cell 1) rfl
    have DV := hI (hbd.out.later NN.out.2)
    have GV := hI (hgr.out.trans (qbO NN.out.2))
    have RV := hI (RG.out.below NN.out.2 RG.out.lt)
    have BV := hI (BG.out.trans (NN.out.2.mono BG.out.size))
    clear NN x0 x1 hbd hgr RG BG
    go_wp2_with fail
    refine (CL.out _ DV.out).mono ?_
    rintro e w5 ⟨hr5, hg5⟩
    have GW := hI (GV.out.trans hg5)
    have R5 := hI (show Blk w5 (w.heap.size + 1) 29 [.slice none 0 0, .slice none 0 0, .int .i64 0] from (hg5.block _ RV.out.lt (by intro e; injection e with e; have := DV.out.lg; have := HR1.out; omega)).trans RV.out)
    have B5 := hI (show Below w.heap.size w w5 from BV.out.trans (qaU hg5 (fun g' e => by injection e with e; rw [<- e]; exact Nat.le_trans S1.out DV.out.lg) BV.out.size))
    clear hg5 CL n0 n1 GV RV BV
    rcases hr5 with ⟨Y, hY, rfl, hbY⟩ | ⟨hY, rfl, _⟩
    ·have HC := hI (HPT.out Y (HLP.out.symm.trans hY))
     have HB := hI hbY
     clear hY hbY HPT HNO HLP
     go_wp2
     go_roundw
     case rel => exact ⟨i + 1, Y, by omega, by go_num, HC, HB, GW⟩
     case measure => simp [intOf]; omega
    ·have HNP := hI (HNO.out (HLP.out.symm.trans hY))
     have HNQ := hI (show qbQ l o = none by rw [HE0.out, HNP.out]; rfl)
     clear hY HPT HNO HLP HNP
     have HN := hI (MadeT.no (r := w.heap.size + 1) (R := qbQ l o) (ok := OkT l o (m : Int)) B5.out (by omega) (fun hp => by obtain ⟨_, x, hx⟩ := hp; rw [HNQ.out] at hx; cases hx) (.slice none 0 0) (.slice none 0 0) (.int .i64 0))
     have HH := hI (qaI R5.out (.slice none 0 0) (.slice none 0 0) (.int .i64 0))
     have y0 : w5.cell? ⟨w.heap.size + 1, 0, none⟩ = _ := cRn (R5.out.cell 0) rfl
     have y1 : w5.cell? ⟨w.heap.size + 1, 1, none⟩ = _ := cRn (R5.out.cell 1) rfl
     have y2 : w5.cell? ⟨w.heap.size + 1, 2, none⟩ = _ := cRn (R5.out.cell 2) rfl
     have yf (j) : w5.frozen? ⟨w.heap.size + 1, j, none⟩ = false := R5.out.froz j
     unfold qeS at HN HH
     go_wp2
     refine bodyPost_ret (qgG Tryz.results139 _ _ (w.heap.size + 1) 29 #[.slice none 0 0, .slice none 0 0, .int .i64 0] (0, 0) _ rfl HH.out Tryz.underlying29 rfl (by kernel_rfl)) rfl ?_
     exact HN.out
   ·have HDN := hI (hcl.out.done (by omega))
    have HNQ := hI (show qbQ l o = some (X, [], 0) by rw [HE0.out, HDN.out]; rfl)
    have hlX : X.length = n := hcl.out.len
    have DW := hI hbd.out
    have hX64 : X.length <= 1048576 := by omega
    clear hcl hbd hgr HDN hlX
    have CT := hI (qdY (some ⟨g2, 0, none⟩) (qmY g2 (X).length (([] : List Ce)).length) (X) (([] : List Ce)) _ _ _ DW.out.hd (hX64) (Nat.zero_le _) DW.out.cells DW.out.olds)
    have hrr : w.heap.size + 1 < wr.heap.size := RG.out.lt
    go_wp2_with fail
    refine CT.out.mono ?_
    rintro e w9 ⟨v, rfl, b3, c3, b4, c4, rfl, ho3, ho4, hne, hb3⟩
    have R9 := bRn RG hb3
    have HN := hI (MadeT.yes (r := w.heap.size + 1) (ok := OkT l o (m : Int)) (R := qbQ l o) BG.out (by omega) hrr ho3 ho4 hne hb3 (HOK.out) (HNQ.out) (.slice (some ⟨b3, 0, none⟩) (X).length c3) (.slice (some ⟨b4, 0, none⟩) (([] : List Ce)).length c4) (.int .i64 (0)))
    have HH := hI (qaI R9.out (.slice (some ⟨b3, 0, none⟩) (X).length c3) (.slice (some ⟨b4, 0, none⟩) (([] : List Ce)).length c4) (.int .i64 (0)))
    have y0 : w9.cell? ⟨w.heap.size + 1, 0, none⟩ = _ := cRn (R9.out.cell 0) rfl
    have y1 : w9.cell? ⟨w.heap.size + 1, 1, none⟩ = _ := cRn (R9.out.cell 1) rfl
    have y2 : w9.cell? ⟨w.heap.size + 1, 2, none⟩ = _ := cRn (R9.out.cell 2) rfl
    have yf (j) : w9.frozen? ⟨w.heap.size + 1, j, none⟩ = false := R9.out.froz j
    unfold qeS at HN HH
    unfold tbV
    generalize (X).length = nL at *
    rw [List.length_nil] at HN HH ⊢
    clear ho3 ho4 hb3 CT
    go_wp2
    refine bodyPost_ret (qgG Tryz.results139 _ _ (w.heap.size + 1) 29 #[.slice (some ⟨b3, 0, none⟩) nL c3, .slice (some ⟨b4, 0, none⟩) 0 c4, .int .i64 (0)] (0, 0) _ rfl HH.out Tryz.underlying29 rfl (by kernel_rfl)) rfl ?_
    exact HN.out
 ·have HNO := hI hn
  clear hn
  have HN := hI (MadeT.no (r := w.heap.size + 1) (R := qbQ l o) (ok := OkT l o mv) B1.out (by omega) (fun hp => HNO.out hp.1) (.slice none 0 0) (.slice none 0 0) (.int .i64 0))
  have HH := hI (qaI R1.out (.slice none 0 0) (.slice none 0 0) (.int .i64 0))
  have y0 : w1.cell? ⟨w.heap.size + 1, 0, none⟩ = _ := cRn (R1.out.cell 0) rfl
  have y1 : w1.cell? ⟨w.heap.size + 1, 1, none⟩ = _ := cRn (R1.out.cell 1) rfl
  have y2 : w1.cell? ⟨w.heap.size + 1, 2, none⟩ = _ := cRn (R1.out.cell 2) rfl
  have yf (j) : w1.frozen? ⟨w.heap.size + 1, j, none⟩ = false := R1.out.froz j
  unfold qeS at HN HH
  go_wp2
  refine bodyPost_ret (qgG Tryz.results139 _ _ (w.heap.size + 1) 29 #[.slice none 0 0, .slice none 0 0, .int .i64 0] (0, 0) _ rfl HH.out Tryz.underlying29 rfl (by kernel_rfl)) rfl ?_
  exact HN.out
theorem qpS (g c base : Nat) (l : List Ce) (key : ByteArray) (h : Int) (w : World) (hl : l.length <= 1048576) (h1 : 1 <= l.length) (hk : key.size <= 1048576) (hown : w.ownsRow base 132 2 (.slice (some ⟨g, 0, none⟩) l.length c) l.length (ces l)) :
  Calls Tryz.prog 94 #[.slice (some ⟨g, 0, none⟩) l.length c, .string key, .int .i64 h] w fun e w' => ∃ (t : Bool) (Y : List Ce), e = .returned (.bool t) /\ putC l key h = (if t then some Y else none) /\ w'.ownsRow base 132 2 (.slice (some ⟨g, 0, none⟩) l.length c) l.length (ces Y) /\ w.grownBy w' (some g) := by
 refine (qgY g c base l key h w hl h1 hk hown).mono ?_
 rintro e w' ⟨⟨l', h1, h2, h3⟩ | ⟨h1, h2, h3⟩, hg⟩
 ·exact ⟨true, l', h2, h1, h3, hg⟩
 ·exact ⟨false, l, h2, h1, by rw [h3]; exact hown, hg⟩
theorem qxE {l o : List Ce} {mv : Int} (h : OkT l o mv) {i : Nat} (hi : i < (qaY (qdL l o)).length) {x : Int} {t : Bool} (hs : SeekA l o mv (qaY (qdL l o))[i].key x t) : x = (qaY (qdL l o))[i].h := by
 obtain ⟨h1, h2, h3⟩ := quU h ((qcI (qcT h)).2.mem_iff.1 (List.getElem_mem hi))
 rcases hs with ⟨_, _, _, e⟩ | ⟨_, _, e⟩
 ·rw [h1] at e; injection e with e; exact e.symm
 ·exact absurd ⟨h, h2, _, h1⟩ e
theorem zbT {w : World} {base n : Nat} {e : TypeId} {v : Value} {xs : List Value} (h : w.ownsRow base e 1 v n xs) (hn : 0 < n) : ∃ g cap, v = .slice (some ⟨g, 0, none⟩) n cap /\ base <= g := by
 rcases h.2 with ⟨_, h0⟩ | ⟨g, cap, cur, hv, hb, _⟩
 ·omega
 ·exact ⟨g, cap, hv, hb⟩
theorem qnW (ao a' : Option Addr) (l o : List Ce) (ca ca' : Nat) (mv : Int) (w : World) (hl : l.length <= 1048576) (hl' : o.length <= 1048576) (hA : RdC w ao l) (hA' : RdC w a' o) :
  Calls Tryz.prog 101 #[tbV ao l.length ca a' o.length ca' mv] w fun e w' => MadeT w w' e (OkT l o mv) (qbQ l o) := by
 have CB := hI (fun w' (hb : Below w.heap.size w w') => qcX ao a' l o ca ca' mv w' hl hl' (hA.later hb) (hA'.later hb))
 have CK := hI (fun w' (hb : Below w.heap.size w w') => qjL ao a' l o ca ca' mv w' hl hl' (hA.later hb) (hA'.later hb))
 have CS := hI (fun key hk w' (hb : Below w.heap.size w w') => qdZ ao a' l o ca ca' mv key w' hl hl' hk (hA.later hb) (hA'.later hb))
 have F0 := hI (qsG w #[.slice ao l.length ca, .slice a' o.length ca', .int .i64 mv] #[.slice none 0 0, .slice none 0 0, .int .i64 0] 29)
 clear hA hA'
 unfold tbV at CB CK CS ⊢
 go_enter Tryz.func101, Tryz.ntmps101
 go_wp2_with fail
 generalize ((w.alloc (.cells #[.slice ao l.length ca, .slice a' o.length ca', .int .i64 mv] 29)).alloc (.cells #[.slice none 0 0, .slice none 0 0, .int .i64 0] 29)) = w0 at F0 ⊢
 obtain ⟨K0, R0, B0⟩ := F0.out
 have hs0 : w.heap.size < w0.heap.size := K0.lt
 have hs1 : w.heap.size + 1 < w0.heap.size := R0.lt
 have K0 := hI K0
 have R0 := hI R0
 have B0 := hI B0
 clear F0
 refine (CB.out w0 B0.out).mono ?_
 rintro e w1 ⟨x, rfl, hx, hb1⟩
 have HX := hI hx
 have K1 := hI (K0.out.below hb1 hs0)
 have R1 := hI (R0.out.below hb1 hs1)
 have B1 := tRn B0 hb1
 have s1 := hb1.size
 clear hb1 CB hx K0 R0 B0
 rcases x with _ | _
 ·have HNO := hI (show ¬ OkT l o mv from fun h => by have := HX.out.2 h; cases this)
  clear HX
  have HN := hI (MadeT.no (r := w.heap.size + 1) (R := qbQ l o) (ok := OkT l o mv) B1.out (by omega) (fun hp => HNO.out hp.1) (.slice none 0 0) (.slice none 0 0) (.int .i64 0))
  have HH := hI (qaI R1.out (.slice none 0 0) (.slice none 0 0) (.int .i64 0))
  have y0 : w1.cell? ⟨w.heap.size + 1, 0, none⟩ = _ := cRn (R1.out.cell 0) rfl
  have y1 : w1.cell? ⟨w.heap.size + 1, 1, none⟩ = _ := cRn (R1.out.cell 1) rfl
  have y2 : w1.cell? ⟨w.heap.size + 1, 2, none⟩ = _ := cRn (R1.out.cell 2) rfl
  have yf (j) : w1.frozen? ⟨w.heap.size + 1, j, none⟩ = false := R1.out.froz j
  unfold qeS at HN HH
  go_wp2
  refine bodyPost_ret (qgG Tryz.results101 _ _ (w.heap.size + 1) 29 #[.slice none 0 0, .slice none 0 0, .int .i64 0] (0, 0) _ rfl HH.out Tryz.underlying29 rfl (by kernel_rfl)) rfl ?_
  exact HN.out
 ·have HOK := hI (HX.out.1 rfl)
  have hle := HOK.out.len.1
  have hl0 := HOK.out.len.2.2
  have hel : (qaY (qdL l o)).length <= 128 := by rw [qfQ (qcT HOK.out)]; have := qgL (l := l) (o := o); have := HOK.out.len; omega
  have HFT := hI (fun i (hi : i < (qaY (qdL l o)).length) => qtO HOK.out hi)
  have HSE := hI (fun i (hi : i < (qaY (qdL l o)).length) x t hs => qxE HOK.out hi (x := x) (t := t) hs)
  have HKE := hI (fun ks (h : KeysA l o mv ks) => show ks = qbX (qaY (qdL l o)) by rcases h with ⟨_, h⟩ | ⟨h, _⟩ <;> first | exact h | exact absurd HOK.out h)
  have CN := hI (qhQ l.length w1 (by omega))
  have x0 : w1.cell? ⟨w.heap.size, 0, none⟩ = _ := cRn (K1.out.cell 0) rfl
  clear HX
  obtain ⟨E, hE⟩ : ∃ E, qaY (qdL l o) = E := ⟨_, rfl⟩
  have HE0 := hI (show qbQ l o = (qdN E (List.replicate l.length nC)).map (fun X => (X, [], 0)) by rw [qbQ, hE])
  rw [hE] at hel HFT HSE HKE
  clear hE
  generalize hn0 : l.length = n at *
  go_wp2_with fail
  refine CN.out.mono ?_
  rintro e w2 ⟨cb, cc, rfl, ho2, hb2⟩
  obtain ⟨cg, cc', hcv, hcg⟩ := qxQ ho2 hl0
  injection hcv with e1 e2 e3
  subst e1 e3
  clear e2
  have F3 : Hid (Blk (w2.alloc (.cells #[.slice (some ⟨cg, 0, none⟩) n cc, .slice none 0 0, .int .i64 0] 29)) w2.heap.size 29 [.slice (some ⟨cg, 0, none⟩) n cc, .slice none 0 0, .int .i64 0] /\ Blk (w2.alloc (.cells #[.slice (some ⟨cg, 0, none⟩) n cc, .slice none 0 0, .int .i64 0] 29)) w.heap.size 29 [.slice ao n ca, .slice a' o.length ca', .int .i64 mv] /\ Blk (w2.alloc (.cells #[.slice (some ⟨cg, 0, none⟩) n cc, .slice none 0 0, .int .i64 0] 29)) (w.heap.size + 1) 29 [.slice none 0 0, .slice none 0 0, .int .i64 0] /\ (w2.alloc (.cells #[.slice (some ⟨cg, 0, none⟩) n cc, .slice none 0 0, .int .i64 0] 29)).ownsRow w1.heap.size 132 2 (.slice (some ⟨cg, 0, none⟩) n cc) n (ces (List.replicate n nC)) /\ Below w.heap.size w (w2.alloc (.cells #[.slice (some ⟨cg, 0, none⟩) n cc, .slice none 0 0, .int .i64 0] 29)) /\ w2.heap.size < (w2.alloc (.cells #[.slice (some ⟨cg, 0, none⟩) n cc, .slice none 0 0, .int .i64 0] 29)).heap.size) :=
   ⟨Blk.new w2 _ _, (K1.out.below hb2 K1.out.lt).more _, (R1.out.below hb2 R1.out.lt).more _, ho2.alloc _, (B1.out.trans (hb2.mono B1.out.size)).alloc (Nat.le_trans B1.out.size hb2.size) _, by rw [World.size_alloc]; omega⟩
  have lcg : cg < w2.heap.size := (ho2.lt cg rfl).2
  have s2 := hb2.size
  clear ho2 hb2 CN x0 K1 R1 B1
  go_upto_region 4 with fail
  generalize (w2.alloc (.cells #[.slice (some ⟨cg, 0, none⟩) n cc, .slice none 0 0, .int .i64 0] 29)) = w3 at F3 ⊢
  obtain ⟨Q3, K3, R3, O3, B3, s3⟩ := F3.out
  have x0 : w3.cell? ⟨w.heap.size, 0, none⟩ = _ := cRn (K3.cell 0) rfl
  have x1 : w3.cell? ⟨w.heap.size, 1, none⟩ = _ := cRn (K3.cell 1) rfl
  have x2 : w3.cell? ⟨w.heap.size, 2, none⟩ = _ := cRn (K3.cell 2) rfl
  have Q3 := hI Q3
  have K3 := hI K3
  have R3 := hI R3
  have O3 := hI O3
  have B3 := hI B3
  clear F3
  go_wp2_with fail
  refine (CK.out w3 B3.out).mono ?_
  rintro e w4 ⟨po, ks, pc, rfl, hks, ho4, hb4⟩
  obtain rfl := HKE.out ks hks
  have hkl : (qbX E).length = E.length := qaT E
  rw [hkl] at ho4 ⊢
  have Q4 := bRn Q3 hb4
  have K4 := bRn K3 hb4
  have R4 := bRn R3 hb4
  have B4 := tRn B3 hb4
  have O4 := hI (qaB (qaE O3.out hb4) (show w.heap.size <= w1.heap.size by omega))
  have HT := hI (qcO ho4)
  have HTB := hI (fun (h : 0 < E.length) => zbT ho4 h)
  have s4 := hb4.size
  have HKL := hI hkl
  clear hks ho4 hb4 x0 x1 x2 Q3 K3 R3 B3 O3 CK hkl HKE
  go_wp2
  go_loopw [6] (fun iv wr => ∃ (i : Nat) (X : List Ce), i <= E.length /\ iv = .int .i64 (i : Int) /\ Hid (Cln E X n i) /\ Hid (wr.ownsRow w.heap.size 132 2 (.slice (some ⟨cg, 0, none⟩) n cc) n (ces X)) /\ Hid (w4.grownBy wr (some cg))) (fun iv _ => E.length - (intOf iv).toNat)
  case atStart => exact ⟨0, _, by omega, rfl, Cln.new E n, O4, qbO (Below.refl _ _)⟩
  case round =>
   obtain ⟨i, X, hi, rfl, hcl, how, hgr⟩ := hrel
   have RG := hI (show Blk wr (w.heap.size + 1) 29 [.slice none 0 0, .slice none 0 0, .int .i64 0] from (hgr.out.block _ R4.out.lt (by intro e; injection e with e; omega)).trans R4.out)
   have QG := hI (show Blk wr w2.heap.size 29 [.slice (some ⟨cg, 0, none⟩) n cc, .slice none 0 0, .int .i64 0] from (hgr.out.block _ Q4.out.lt (by intro e; injection e with e; omega)).trans Q4.out)
   have BG := hI (show Below w.heap.size w wr from B4.out.trans (qaU hgr.out (fun g' e => by injection e with e; omega) B4.out.size))
   by_cases hlt : i < E.length
   ·have k1 : (i : Int) < (E.length : Int) := by omega
    have KG := hI (show Blk wr w.heap.size 29 [.slice ao n ca, .slice a' o.length ca', .int .i64 mv] from (hgr.out.block _ K4.out.lt (by intro e; injection e with e; omega)).trans K4.out)
    obtain ⟨kb, hpo, hkb, hkc⟩ := HT.out i (by rw [HKL.out]; exact hlt)
    have hkg : kb ≠ cg := by
     obtain ⟨g', c', hv, hg'⟩ := HTB.out (by omega)
     rw [hpo] at hv
     injection hv with hv
     injection hv with hv
     injection hv with hv
     omega
    have x3 : wr.cell? ⟨kb, i, none⟩ = some (.string E[i].key) := by
     refine (World.cell?_of_block (w := w4) (hgr.out.block kb hkb (by intro e; injection e with e; exact hkg e))).trans ?_
     rw [hkc]
     simp [qbX]
    have hkr : kb < wr.heap.size := Nat.lt_of_lt_of_le hkb hgr.out.size
    have hft := hI (HFT.out i hlt)
    have HSX := hI (fun x t hs => HSE.out i hlt x t hs)
    have HPT := hI (fun Y he => hcl.out.put (Y := Y) hlt hft.out he)
    have HNO := hI (fun he => hcl.out.no hlt he)
    have hXl := hcl.out.len
    have CP := hI (fun wx hx => qpS cg cc w.heap.size X E[i].key E[i].h wx (by omega) (by omega) (by have := hft.out.2.1; omega) hx)
    have CX := hI (fun w' hb => CS.out E[i].key (by have := hft.out.2.1; omega) w' hb)
    rw [hXl] at CP
    generalize E[i] = s at *
    obtain ⟨ky, hh⟩ := s
    simp only at x3 HSX HPT HNO CP CX
    have x0 : wr.cell? ⟨w.heap.size, 0, none⟩ = _ := cRn (KG.out.cell 0) rfl
    have x1 : wr.cell? ⟨w.heap.size, 1, none⟩ = _ := cRn (KG.out.cell 1) rfl
    have x2 : wr.cell? ⟨w.heap.size, 2, none⟩ = _ := cRn (KG.out.cell 2) rfl
    have hrw : w.heap.size < wr.heap.size := KG.out.lt
    have Z := hI (And.intro x0 (And.intro x1 (And.intro x2 x3)))
    rw [hpo]
    clear hkc hpo hft hXl hcl KG
    go_wp2
    go_region_held3 (fun w' => w'.cell? ⟨w.heap.size, 0, none⟩ = some (.slice ao n ca) /\ w'.cell? ⟨w.heap.size, 1, none⟩ = some (.slice a' o.length ca') /\ w'.cell? ⟨w.heap.size, 2, none⟩ = some (.int .i64 mv) /\ w'.cell? ⟨kb, i, none⟩ = some (.string ky)) (first | go_keep | exact Z.out | exact ⟨(E5.out.cell hrw).trans Z.out.1, (E5.out.cell hrw).trans Z.out.2.1, (E5.out.cell hrw).trans Z.out.2.2.1, (E5.out.cell hkr).trans Z.out.2.2.2⟩) ((go_at_call 39; refine (CX.out _ (BG.out.trans ((show Below wr.heap.size wr _ by go_grown).mono BG.out.size))).mono ?_; rintro e w5 ⟨hv, tv, rfl, hsk, hb5⟩; have E5 : Hid (Below wr.heap.size wr w5) := (show Below wr.heap.size wr _ by go_grown).trans hb5; have HSK := hI hsk; clear hsk hb5))
    obtain rfl := HSX.out _ _ HSK.out
    have O5 := hI (qaE how.out E5.out)
    have R5 := hI (RG.out.below E5.out RG.out.lt)
    have Q5 := hI (QG.out.below E5.out QG.out.lt)
    have B5 := hI (BG.out.trans (E5.out.mono BG.out.size))
    have G5 := hI (hgr.out.trans (qbO E5.out))
    have y0 : w5.cell? ⟨w2.heap.size, 0, none⟩ = some (.slice (some ⟨cg, 0, none⟩) n cc) := Q5.out.cell 0
    have y1 : w5.cell? ⟨kb, i, none⟩ = some (.string ky) := (E5.out.cell hkr).trans Z.out.2.2.2
    have Y := hI (And.intro y0 y1)
    have hk5 : kb < w5.heap.size := Nat.lt_of_lt_of_le hkr E5.out.size
    have hq5 : w2.heap.size < w5.heap.size := Q5.out.lt
    have ncg : w2.heap.size ≠ cg := by omega
    clear x0 x1 x2 x3 Z E5 HSK HSX RG QG BG hgr how CX
    go_wp2
    go_region_held3 (fun w' => w'.cell? ⟨w2.heap.size, 0, none⟩ = some (.slice (some ⟨cg, 0, none⟩) n cc) /\ w'.cell? ⟨kb, i, none⟩ = some (.string ky)) (first | go_keep | exact Y.out | exact ⟨(World.cell?_of_block (w := w5) (G6.out.block w2.heap.size hq5 (by intro e; injection e with e; exact ncg e))).trans Y.out.1, (World.cell?_of_block (w := w5) (G6.out.block kb hk5 (by intro e; injection e with e; exact hkg e))).trans Y.out.2⟩) ((go_at_call 94; refine (CP.out _ (qaE O5.out (show Below w5.heap.size w5 _ by go_grown))).mono ?_; rintro e w6 ⟨tp, X2, rfl, hp6, ho6, hg6⟩; have G6 : Hid (w5.grownBy w6 (some cg)) := (qbO (show Below w5.heap.size w5 _ by go_grown)).trans hg6; have HP6 := hI hp6; have O6 := hI ho6; clear hp6 ho6 hg6))
    have G7 := hI (G5.out.trans G6.out)
    have R6 := hI (show Blk w6 (w.heap.size + 1) 29 [.slice none 0 0, .slice none 0 0, .int .i64 0] from (G6.out.block _ R5.out.lt (by intro e; injection e with e; omega)).trans R5.out)
    have B6 := hI (show Below w.heap.size w w6 from B5.out.trans (qaU G6.out (fun g' e => by injection e with e; omega) B5.out.size))
    clear y0 y1 Y G5 G6 R5 Q5 B5 O5 CP
    rcases tp with _ | _
    ·have HNP := hI (HNO.out HP6.out)
     have HNQ := hI (show qbQ l o = none by rw [HE0.out, HNP.out]; rfl)
     clear HPT HNO HP6 HNP G7 O6
     have HN := hI (MadeT.no (r := w.heap.size + 1) (R := qbQ l o) (ok := OkT l o mv) B6.out (by omega) (fun hp => by obtain ⟨_, x, hx⟩ := hp; rw [HNQ.out] at hx; cases hx) (.slice none 0 0) (.slice none 0 0) (.int .i64 0))
     have HH := hI (qaI R6.out (.slice none 0 0) (.slice none 0 0) (.int .i64 0))
     have y0 : w6.cell? ⟨w.heap.size + 1, 0, none⟩ = _ := cRn (R6.out.cell 0) rfl
     have y1 : w6.cell? ⟨w.heap.size + 1, 1, none⟩ = _ := cRn (R6.out.cell 1) rfl
     have y2 : w6.cell? ⟨w.heap.size + 1, 2, none⟩ = _ := cRn (R6.out.cell 2) rfl
     have yf (j) : w6.frozen? ⟨w.heap.size + 1, j, none⟩ = false := R6.out.froz j
     unfold qeS at HN HH
     go_wp2
     refine bodyPost_ret (qgG Tryz.results101 _ _ (w.heap.size + 1) 29 #[.slice none 0 0, .slice none 0 0, .int .i64 0] (0, 0) _ rfl HH.out Tryz.underlying29 rfl (by kernel_rfl)) rfl ?_
     exact HN.out
    ·have HC := hI (HPT.out X2 HP6.out)
     clear HPT HNO HP6
     go_wp2
     go_roundw
     case rel => exact ⟨i + 1, X2, by omega, by go_num, HC, O6, G7⟩
     case measure => simp [intOf]; omega
   ·have HDN := hI (hcl.out.done (by omega))
    have HNQ := hI (show qbQ l o = some (X, [], 0) by rw [HE0.out, HDN.out]; rfl)
    have HN := hI (MadeT.fin (r := w.heap.size + 1) (ok := OkT l o mv) (R := qbQ l o) BG.out (by omega) how.out hcl.out.len (World.ownsRow_nil wr w.heap.size 132 2) (O := []) rfl (fun k _ hk => by cases hk) (fun k hk => by have : cg = k := Option.some.inj hk; omega) (fun k hk => by cases hk) HOK.out HNQ.out (.slice (some ⟨cg, 0, none⟩) n cc) (.slice none 0 0) (.int .i64 0))
    have HH := hI (qaI RG.out (.slice (some ⟨cg, 0, none⟩) n cc) (.slice none 0 0) (.int .i64 0))
    have y0 : wr.cell? ⟨w.heap.size + 1, 0, none⟩ = _ := cRn (RG.out.cell 0) rfl
    have y1 : wr.cell? ⟨w.heap.size + 1, 1, none⟩ = _ := cRn (RG.out.cell 1) rfl
    have y2 : wr.cell? ⟨w.heap.size + 1, 2, none⟩ = _ := cRn (RG.out.cell 2) rfl
    have yf (j) : wr.frozen? ⟨w.heap.size + 1, j, none⟩ = false := RG.out.froz j
    have z0 : wr.cell? ⟨w2.heap.size, 0, none⟩ = some (.slice (some ⟨cg, 0, none⟩) n cc) := QG.out.cell 0
    have z1 : wr.cell? ⟨w2.heap.size, 1, none⟩ = _ := cRn (QG.out.cell 1) rfl
    have z2 : wr.cell? ⟨w2.heap.size, 2, none⟩ = _ := cRn (QG.out.cell 2) rfl
    unfold qeS at HN HH
    clear hcl how hgr HDN
    go_wp2
    refine bodyPost_ret (qgG Tryz.results101 _ _ (w.heap.size + 1) 29 #[.slice (some ⟨cg, 0, none⟩) n cc, .slice none 0 0, .int .i64 0] (0, 0) _ rfl HH.out Tryz.underlying29 rfl (by kernel_rfl)) rfl ?_
    exact HN.out
def Way (l : List Ce) (p i : Nat) : Prop := ∃ d, d < l.length /\ (p + d) % l.length = i /\ ∀ e, e < d -> ∀ (x : Ce), l[(p + e) % l.length]? = some x -> ¬ qbL x
def Rch (l : List Ce) : Prop := ∀ (i : Nat) (x : Ce), l[i]? = some x -> x.key.toList ≠ [] -> Way l (qcK x.key 0 % l.length) i
def Dst (l : List Ce) : Prop := ∀ (i j : Nat) (x y : Ce), l[i]? = some x -> l[j]? = some y -> x.key.toList ≠ [] -> x.key = y.key -> i = j
theorem qqG {l : List Ce} {key : ByteArray} {p : Nat} : ∀ (m i j : Nat), qeU l key p i m = some j -> ∃ d, i <= d /\ d < i + m /\ (p + d) % l.length = j /\ ∀ e, i <= e -> e < d -> ∀ (x : Ce), l[(p + e) % l.length]? = some x -> ¬ qbL x
 | 0, _, _, h => by cases h
 | m + 1, i, j, h => by
  rw [qeU, qkG] at h
  cases hx : l[(p + i) % l.length]? with
  | none => rw [hx] at h; cases h
  | some x =>
   rw [hx] at h
   simp only at h
   by_cases c1 : x.key.toList = key.toList /\ 0 <= x.h
   ·rw [if_pos c1] at h
    injection h with h
    exact ⟨i, by omega, by omega, h, fun e h1 h2 => by omega⟩
   ·rw [if_neg c1] at h
    by_cases c2 : x.key.toList = [] /\ x.h = -1
    ·rw [if_pos c2] at h; cases h
    ·rw [if_neg c2] at h
     obtain ⟨d, h1, h2, h3, h4⟩ := qqG m (i + 1) j h
     refine ⟨d, by omega, by omega, h3, fun e e1 e2 y hy => ?_⟩
     by_cases he : e = i
     ·subst he
      rw [hx] at hy
      injection hy with hy
      subst hy
      exact c2
     ·exact h4 e (by omega) e2 y hy
theorem qpC {l : List Ce} {key : ByteArray} {p j : Nat} {y : Ce} (hd : Dst l) (hj : l[j]? = some y) (hy : y.key = key) (hk : key.toList ≠ []) (hh : 0 <= y.h) : ∀ (m i : Nat), (∃ d, i <= d /\ d < i + m /\ (p + d) % l.length = j /\ ∀ e, i <= e -> e < d -> ∀ (x : Ce), l[(p + e) % l.length]? = some x -> ¬ qbL x) -> qeU l key p i m = some j
 | 0, i, ⟨d, h1, h2, _⟩ => by omega
 | m + 1, i, ⟨d, h1, h2, h3, h4⟩ => by
  have hn : 0 < l.length := by have := (List.getElem?_eq_some_iff.1 hj).1; omega
  have hq : (p + i) % l.length < l.length := Nat.mod_lt _ hn
  rw [qeU, qkG]
  cases hx : l[(p + i) % l.length]? with
  | none => rw [List.getElem?_eq_getElem hq] at hx; cases hx
  | some x =>
   simp only
   by_cases c1 : x.key.toList = key.toList /\ 0 <= x.h
   ·rw [if_pos c1]
    have he : x.key = y.key := by rw [hy]; exact qgO c1.1
    have := hd _ j x y hx hj (by rw [c1.1]; exact hk) he
    rw [this]
   ·rw [if_neg c1]
    by_cases hdi : d = i
    ·subst hdi
     rw [h3] at hx
     rw [hx] at hj
     injection hj with hj
     exact absurd ⟨by rw [hj, hy], by rw [hj]; exact hh⟩ c1
    ·have hnn : ¬ (x.key.toList = [] /\ x.h = -1) := h4 i (by omega) (by omega) x hx
     rw [if_neg hnn]
     exact qpC hd hj hy hk hh m (i + 1) ⟨d, by omega, by omega, h3, fun e e1 e2 => h4 e (by omega) e2⟩
theorem qyC {l : List Ce} (h : qfM l) {i : Nat} {x : Ce} (hx : l[i]? = some x) : qwO x := by
 obtain ⟨hi, e⟩ := List.getElem?_eq_some_iff.1 hx
 rw [<- e]
 exact h i hi
theorem fit_h {x : Ce} (h : qwO x) (hk : x.key.toList ≠ []) : 0 <= x.h := by
 rcases h with h | h
 ·exact absurd h.1 hk
 ·exact h.2.2
theorem qlD {l : List Ce} (hf : qfM l) (hd : Dst l) (hr : Rch l) {i : Nat} {x : Ce} (hx : l[i]? = some x) (hk : x.key.toList ≠ []) : qaZ l x.key = some i := by
 obtain ⟨d, h1, h2, h3⟩ := hr i x hx hk
 exact qpC hd hx rfl hk (fit_h (qyC hf hx) hk) _ _ ⟨d, by omega, by omega, h2, fun e _ => h3 e⟩
theorem qqF {l : List Ce} {key : ByteArray} (h : ∀ (i : Nat) (x : Ce), l[i]? = some x -> x.key ≠ key) : qaZ l key = none := by
 cases hs : qaZ l key with
 | none => rfl
 | some k =>
  have hk : k < l.length := qdT _ _ _ hs
  exact absurd (qhS hs hk) (h k _ (List.getElem?_eq_getElem hk))
theorem qhU {l : List Ce} : (∀ i (h : i < l.length), okC l i l[i]) ↔ qfM l /\ Dst l /\ Rch l := by
 rw [qeX]
 constructor
 ·rintro ⟨hf, hF⟩
  have hs : ∀ (i : Nat) (x : Ce), l[i]? = some x -> x.key.toList ≠ [] -> qaZ l x.key = some i := by
   intro i x hx hk
   obtain ⟨hi, e⟩ := List.getElem?_eq_some_iff.1 hx
   have := hF i hi (by rw [e]; exact hk)
   rw [e, qaJ hf hk] at this
   exact this
  refine ⟨hf, ?_, ?_⟩
  ·intro i j x y hx hy hk e
   have h1 := hs i x hx hk
   have h2 := hs j y hy (by rw [<- e]; exact hk)
   rw [<- e, h1] at h2
   injection h2
  ·intro i x hx hk
   obtain ⟨d, h1, h2, h3, h4⟩ := qqG _ _ _ (hs i x hx hk)
   exact ⟨d, by omega, h3, fun e he => h4 e (by omega) he⟩
 ·rintro ⟨hf, hd, hr⟩
  refine ⟨hf, fun i hi hk => ?_⟩
  rw [qaJ hf hk]
  exact qlD hf hd hr (List.getElem?_eq_getElem hi) hk
structure OkN (l o : List Ce) (mv : Int) : Prop where
 size : l.length = 4 ∨ l.length = 8 ∨ l.length = 16 ∨ l.length = 32 ∨ l.length = 64
 half : o.length = 0 ∨ 2 * o.length = l.length
 moved : 0 <= mv /\ mv <= (o.length : Int)
 l1 : qfM l /\ Dst l /\ Rch l
 l2 : ∃ (i : Nat) (x : Ce), l[i]? = some x /\ qbL x
 o1 : qfM o /\ Dst o /\ Rch o
 gone : ∀ (i : Nat) (x : Ce), o[i]? = some x -> (i : Int) < mv -> x.key.toList = [] /\ x.h = -2
 apart : ∀ (i j : Nat) (x y : Ce), o[i]? = some x -> l[j]? = some y -> x.key.toList ≠ [] -> x.key ≠ y.key
theorem qcG {l o : List Ce} {mv : Int} : OkT l o mv ↔ OkN l o mv := by
 constructor
 ·intro h
  have hl := qhU.1 h.cells.1
  refine ⟨h.size, h.half, h.moved, hl, ?_, qhU.1 h.olds.1, ?_, ?_⟩
  ·obtain ⟨i, hi, hx⟩ := h.cells.2 rfl
   exact ⟨i, _, List.getElem?_eq_getElem hi, hx⟩
  ·intro i x hx hm
   obtain ⟨hi, e⟩ := List.getElem?_eq_some_iff.1 hx
   rw [<- e]
   exact (h.old i hi).1 hm
  ·intro i j x y hx hy hk e
   obtain ⟨hi, e1⟩ := List.getElem?_eq_some_iff.1 hx
   have h1 := (h.old i hi).2 (by rw [e1]; exact hk)
   have h2 := qlD hl.1 hl.2.1 hl.2.2 hy (by rw [<- e]; exact hk)
   rw [e1, e, h2] at h1
   cases h1
 ·intro h
  refine ⟨h.size, h.half, h.moved, ⟨qhU.2 h.l1, fun _ => ?_⟩, ⟨qhU.2 h.o1, fun e => by cases e⟩, fun i hi => ⟨fun hm => h.gone i _ (List.getElem?_eq_getElem hi) hm, fun hk => qqF fun j y hy e => h.apart i j _ y (List.getElem?_eq_getElem hi) hy hk e.symm⟩⟩
  obtain ⟨i, x, hx, hn⟩ := h.l2
  obtain ⟨hi, e⟩ := List.getElem?_eq_some_iff.1 hx
  exact ⟨i, hi, by rw [e]; exact hn⟩
theorem qeB {l : List Ce} {k i : Nat} {c x : Ce} (h : (l.set k c)[i]? = some x) : (i = k /\ x = c) ∨ (i ≠ k /\ l[i]? = some x) := by
 rw [List.getElem?_set] at h
 split at h
 ·rename_i e
  split at h
  ·injection h with h; exact .inl ⟨e.symm, h.symm⟩
  ·cases h
 ·rename_i e
  exact .inr ⟨fun e' => e e'.symm, h⟩
theorem Way.set {l : List Ce} {p i k : Nat} {c : Ce} (h : Way l p i) (hc : ¬ qbL c) : Way (l.set k c) p i := by
 obtain ⟨d, h1, h2, h3⟩ := h
 refine ⟨d, by rw [List.length_set]; exact h1, by rw [List.length_set]; exact h2, fun e he x hx => ?_⟩
 rw [List.length_set] at hx
 rcases qeB hx with ⟨_, rfl⟩ | ⟨_, hx⟩
 ·exact hc
 ·exact h3 e he x hx
theorem qlC {l : List Ce} {k : Nat} {c : Ce} (h : qfM l /\ Dst l /\ Rch l) (hf : qwO c) (hc : ¬ qbL c) (hd : c.key.toList ≠ [] -> (∀ (j : Nat) (x : Ce), j ≠ k -> l[j]? = some x -> x.key ≠ c.key) /\ Way l (qcK c.key 0 % l.length) k) : qfM (l.set k c) /\ Dst (l.set k c) /\ Rch (l.set k c) := by
 obtain ⟨h1, h2, h3⟩ := h
 refine ⟨?_, ?_, ?_⟩
 ·intro i hi
  rcases qeB (List.getElem?_eq_getElem hi) with ⟨_, e⟩ | ⟨_, e⟩
  ·rw [e]; exact hf
  ·exact qyC h1 e
 ·intro i j x y hx hy hk e
  rcases qeB hx with ⟨ei, ex⟩ | ⟨hi, hx2⟩ <;> rcases qeB hy with ⟨ej, ey⟩ | ⟨hj, hy2⟩
  ·rw [ei, ej]
  ·exact absurd (e.symm.trans (by rw [ex])) ((hd (by rw [<- ex]; exact hk)).1 j y hj hy2)
  ·exact absurd (e.trans (by rw [ey])) ((hd (by rw [<- ey, <- e]; exact hk)).1 i x hi hx2)
  ·exact h2 i j x y hx2 hy2 hk e
 ·intro i x hx hk
  rw [List.length_set]
  rcases qeB hx with ⟨rfl, rfl⟩ | ⟨_, hx⟩
  ·exact (hd hk).2.set hc
  ·exact (h3 i x hx hk).set hc
theorem qkA : gC.key.toList = [] := by
 unfold gC
 rw [ByteArray.toList, ByteArray.toList.loop]
 rfl
theorem zaE : qwO gC := .inl ⟨qkA, .inr rfl⟩
theorem quS : ¬ qbL gC := fun h => by have := h.2; simp [gC] at this
theorem qnB {l : List Ce} (k : Nat) (h : qfM l /\ Dst l /\ Rch l) : qfM (l.set k gC) /\ Dst (l.set k gC) /\ Rch (l.set k gC) :=
 qlC h zaE quS (fun e => absurd qkA e)
theorem qsA {l : List Ce} {p : Nat} : ∀ (m i k : Nat), qhI l p i m = some k -> ∃ x, l[k]? = some x /\ x.key.toList = [] /\ ∃ d, i <= d /\ d < i + m /\ (p + d) % l.length = k /\ ∀ e, i <= e -> e < d -> ∀ (x : Ce), l[(p + e) % l.length]? = some x -> ¬ qbL x
 | 0, _, _, h => by cases h
 | m + 1, i, k, h => by
  rw [qhI] at h
  cases hx : l[(p + i) % l.length]? with
  | none => rw [hx] at h; cases h
  | some x =>
   rw [hx] at h
   simp only at h
   by_cases c1 : x.key.toList = []
   ·rw [if_pos c1] at h
    injection h with h
    exact ⟨x, by rw [<- h]; exact hx, c1, i, by omega, by omega, h, fun e h1 h2 => by omega⟩
   ·rw [if_neg c1] at h
    obtain ⟨y, hy1, hy2, d, h1, h2, h3, h4⟩ := qsA m (i + 1) k h
    refine ⟨y, hy1, hy2, d, by omega, by omega, h3, fun e e1 e2 z hz => ?_⟩
    by_cases he : e = i
    ·subst he
     rw [hx] at hz
     injection hz with hz
     subst hz
     exact fun hn => c1 hn.1
    ·exact h4 e (by omega) e2 z hz
theorem qqT {l : List Ce} {k : Nat} (h : ∀ (i : Nat) (x : Ce), i ≠ k -> l[i]? = some x -> ¬ qbL x) : ∀ n, qbJ l n <= if k < n then 1 else 0
 | 0 => by simp [qbJ]
 | n + 1 => by
  have ih := qqT h n
  rw [qbJ]
  by_cases hk : n = k
  ·subst hk
   rw [if_neg (by omega)] at ih
   rw [if_pos (by omega)]
   split
   ·split <;> omega
   ·omega
  ·cases hx : l[n]? with
   | none => simp only; split at ih <;> split <;> omega
   | some x =>
    simp only
    rw [if_neg (show ¬ (x.key.toList = [] /\ x.h = -1) from h n x hk hx)]
    split at ih <;> split <;> omega
theorem qlG {l l' : List Ce} {key : ByteArray} {h : Int} (hl : qfM l /\ Dst l /\ Rch l) (hn : ∃ (i : Nat) (x : Ce), l[i]? = some x /\ qbL x) (hk : key.toList ≠ []) (hs : key.size <= 12) (hh : 0 <= h) (ha : ∀ (i : Nat) (x : Ce), l[i]? = some x -> x.key ≠ key) (e : putC l key h = some l') :
  (qfM l' /\ Dst l' /\ Rch l') /\ (∃ (i : Nat) (x : Ce), l'[i]? = some x /\ qbL x) /\ ∃ k, l' = l.set k ⟨key, h⟩ /\ ∃ x, l[k]? = some x /\ x.key.toList = [] := by
 unfold putC at e
 split at e
 ·rename_i k hfk
  obtain ⟨x, hx, hx0, d, d1, d2, d3, d4⟩ := qsA _ _ _ hfk
  rw [hx] at e
  simp only at e
  split at e
  ·cases e
  ·rename_i hc
   injection e with e
   subst e
   refine ⟨qlC hl (.inr ⟨hk, hs, hh⟩) (fun hx => hk hx.1) (fun _ => ⟨fun j y _ hy => ha j y hy, d, by omega, d3, fun e he => d4 e (by omega) he⟩), ?_, k, rfl, x, hx, hx0⟩
   have key2 : ∃ (i : Nat) (y : Ce), i ≠ k /\ l[i]? = some y /\ qbL y := by
    refine Classical.byContradiction fun hno => ?_
    have hall : ∀ (i : Nat) (y : Ce), i ≠ k -> l[i]? = some y -> ¬ qbL y := fun i y h1 h2 h3 => hno ⟨i, y, h1, h2, h3⟩
    obtain ⟨i, y, hy, hny⟩ := hn
    have hik : i = k := Classical.byContradiction fun h1 => hall i y h1 hy hny
    subst hik
    rw [hx] at hy
    injection hy with hy
    subst hy
    have := qqT hall l.length
    exact hc ⟨by split at this <;> omega, hny.2⟩
   obtain ⟨i, y, h1, h2, h3⟩ := key2
   exact ⟨i, y, by rw [List.getElem?_set_ne (Ne.symm h1)]; exact h2, h3⟩
 ·cases e
theorem qxL {n i : Nat} {x : Ce} (h : (List.replicate n nC)[i]? = some x) : x = nC := by
 obtain ⟨hi, e⟩ := List.getElem?_eq_some_iff.1 h
 rw [List.getElem_replicate] at e
 exact e.symm
theorem qtA : nC.key.toList = [] := qkA
theorem qxK (n : Nat) : qfM (List.replicate n nC) /\ Dst (List.replicate n nC) /\ Rch (List.replicate n nC) := by
 refine ⟨fun i hi => ?_, fun i j x y hx _ hk _ => ?_, fun i x hx hk => ?_⟩
 ·rw [List.getElem_replicate]
  exact .inl ⟨qtA, .inl rfl⟩
 ·rw [qxL hx] at hk
  exact absurd qtA hk
 ·rw [qxL hx] at hk
  exact absurd qtA hk
theorem qzB {n : Nat} (hn : 0 < n) : ∃ (i : Nat) (x : Ce), (List.replicate n nC)[i]? = some x /\ qbL x :=
 ⟨0, nC, by rw [List.getElem?_replicate, if_pos hn], qtA, rfl⟩
theorem qxR : qfM [] /\ Dst [] /\ Rch [] := by
 refine ⟨fun i hi => by simp at hi, fun i j x y hx => by simp at hx, fun i x hx => by simp at hx⟩
theorem OkN.new {n : Nat} (hn : n = 4 ∨ n = 8 ∨ n = 16 ∨ n = 32 ∨ n = 64) : OkN (List.replicate n nC) [] 0 := by
 refine ⟨by rw [List.length_replicate]; exact hn, .inl rfl, ⟨by omega, by simp⟩, qxK n, qzB (by omega), qxR, fun i x hx => by simp at hx, fun i j x y hx => by simp at hx⟩
theorem OkN.goneO {l o : List Ce} {mv : Int} (h : OkN l o mv) (k : Nat) : OkN l (o.set k gC) mv := by
 refine ⟨h.size, by rw [List.length_set]; exact h.half, by rw [List.length_set]; exact h.moved, h.l1, h.l2, qnB k h.o1, fun i x hx hm => ?_, fun i j x y hx hy hk => ?_⟩
 ·rcases qeB hx with ⟨_, e⟩ | ⟨_, hx⟩
  ·rw [e]; exact ⟨qkA, rfl⟩
  ·exact h.gone i x hx hm
 ·rcases qeB hx with ⟨_, e⟩ | ⟨_, hx⟩
  ·rw [e] at hk; exact absurd qkA hk
  ·exact h.apart i j x y hx hy hk
theorem OkN.setL {l o : List Ce} {mv : Int} (h : OkN l o mv) {k : Nat} {x c : Ce} (hx : l[k]? = some x) (hk : x.key.toList ≠ []) (hc : c = gC ∨ (c.key = x.key /\ 0 <= c.h)) : OkN (l.set k c) o mv := by
 have hnn : ¬ qbL x := fun hn => hk hn.1
 have hcn : ¬ qbL c := by
  rcases hc with rfl | ⟨e, _⟩
  ·exact quS
  ·exact fun hn => hk (by rw [<- e]; exact hn.1)
 refine ⟨by rw [List.length_set]; exact h.size, by rw [List.length_set]; exact h.half, h.moved, ?_, ?_, h.o1, h.gone, fun i j y z hy hz hky e => ?_⟩
 ·rcases hc with rfl | ⟨e, hh⟩
  ·exact qnB k h.l1
  ·refine qlC h.l1 (.inr ⟨by rw [e]; exact hk, ?_, hh⟩) hcn (fun _ => ⟨fun j y hj hy e2 => hj (h.l1.2.1 j k y x hy hx (by rw [e2, e]; exact hk) (by rw [e2, e])), by rw [e]; exact h.l1.2.2 k x hx hk⟩)
   rw [e]
   rcases qyC h.l1.1 hx with f | f
   ·exact absurd f.1 hk
   ·exact f.2.1
 ·obtain ⟨i, y, hy, hn⟩ := h.l2
  have hik : i ≠ k := by
   intro e
   rw [e, hx] at hy
   injection hy with hy
   rw [hy] at hnn
   exact hnn hn
  exact ⟨i, y, by rw [List.getElem?_set_ne (Ne.symm hik)]; exact hy, hn⟩
 ·rcases qeB hz with ⟨_, e2⟩ | ⟨_, hz⟩
  ·rcases hc with rfl | ⟨e3, _⟩
   ·rw [e2] at e
    rw [e] at hky
    exact hky qkA
   ·exact h.apart i k y x hy hx hky (by rw [e, e2, e3])
  ·exact h.apart i j y z hy hz hky e
theorem OkN.putL {l l' o : List Ce} {mv : Int} (h : OkN l o mv) {key : ByteArray} {hd : Int} (hk : key.toList ≠ []) (hs : key.size <= 12) (hh : 0 <= hd) (hl : ∀ (i : Nat) (x : Ce), l[i]? = some x -> x.key ≠ key) (ho : ∀ (i : Nat) (x : Ce), o[i]? = some x -> x.key ≠ key) (e : putC l key hd = some l') : OkN l' o mv := by
 obtain ⟨hr, hn, k, rfl, x, hx, hx0⟩ := qlG h.l1 h.l2 hk hs hh hl e
 refine ⟨by rw [List.length_set]; exact h.size, by rw [List.length_set]; exact h.half, h.moved, hr, hn, h.o1, h.gone, fun i j y z hy hz hky e => ?_⟩
 rcases qeB hz with ⟨_, e2⟩ | ⟨_, hz⟩
 ·exact ho i y hy (by rw [e, e2])
 ·exact h.apart i j y z hy hz hky e
theorem qnY {l : List Ce} {key : ByteArray} (hl : qfM l /\ Dst l /\ Rch l) (hk : key.toList ≠ []) (h : qaZ l key = none) : ∀ (i : Nat) (x : Ce), l[i]? = some x -> x.key ≠ key := by
 intro i x hx e
 have := qlD hl.1 hl.2.1 hl.2.2 hx (by rw [e]; exact hk)
 rw [e, h] at this
 cases this
theorem qdK {l : List Ce} {key : ByteArray} {k : Nat} (h : qaZ l key = some k) : ∃ x, l[k]? = some x /\ x.key = key := by
 have hk : k < l.length := qdT _ _ _ h
 exact ⟨_, List.getElem?_eq_getElem hk, qhS h hk⟩
theorem OkN.take {l o L O : List Ce} {mv M : Int} {key : ByteArray} (h : OkN l o mv) (hk : key.toList ≠ []) (e : qbY l o mv key = some (L, O, M)) : OkN L O M := by
 unfold qbY at e
 split at e
 ·rename_i k hs
  obtain ⟨x, hx, hxk⟩ := qdK hs
  injection e with e
  injection e with e1 e2
  injection e2 with e2 e3
  rw [<- e1, <- e2, <- e3]
  exact h.setL hx (by rw [hxk]; exact hk) (.inl rfl)
 ·split at e
  ·rename_i k hs
   injection e with e
   injection e with e1 e2
   injection e2 with e2 e3
   rw [<- e1, <- e2, <- e3]
   exact h.goneO k
  ·cases e
theorem zaF {l o : List Ce} {mv : Int} (h : OkN l o mv) {key : ByteArray} (hk : key.toList ≠ []) : OkN l (goneO o key) mv /\ ∀ (i : Nat) (x : Ce), (goneO o key)[i]? = some x -> x.key ≠ key := by
 unfold Go.Proofs.YtigpjmmfelndkaaGreatDoor.goneO
 cases hs : qaZ o key with
 | none => exact ⟨h, qnY h.o1 hk hs⟩
 | some k =>
  obtain ⟨y, hy, hyk⟩ := qdK hs
  refine ⟨h.goneO k, fun i x hx e => ?_⟩
  rcases qeB hx with ⟨_, e2⟩ | ⟨hi, hx⟩
  ·rw [<- e, e2] at hk
   exact hk qkA
  ·exact hi (h.o1.2.1 i k x y hx hy (by rw [e]; exact hk) (by rw [e, hyk]))
theorem OkN.put {l o L O : List Ce} {mv M : Int} {key : ByteArray} {hd : Int} (h : OkN l o mv) (hk : key.toList ≠ []) (hsz : key.size <= 12) (hh : 0 <= hd) (e : qcJ l o mv key hd = some (L, O, M)) : OkN L O M := by
 unfold qcJ at e
 split at e
 ·rename_i k hs
  obtain ⟨x, hx, hxk⟩ := qdK hs
  injection e with e
  injection e with e1 e2
  injection e2 with e2 e3
  rw [<- e1, <- e2, <- e3]
  exact h.setL hx (by rw [hxk]; exact hk) (.inr ⟨hxk.symm, hh⟩)
 ·rename_i hs
  split at e
  ·rename_i l' hp
   injection e with e
   injection e with e1 e2
   injection e2 with e2 e3
   rw [<- e1, <- e2, <- e3]
   obtain ⟨h1, h2⟩ := zaF h hk
   exact h1.putL hk hsz hh (qnY h.l1 hk hs) h2 hp
  ·cases e
def Ent (l o : List Ce) (key : ByteArray) (h : Int) : Prop := ∃ c : Ce, (c ∈ l ∨ c ∈ o) /\ c.key = key /\ c.h = h
theorem qhR {l o : List Ce} {mv : Int} (h : OkN l o mv) {key : ByteArray} (hk : key.toList ≠ []) (x : Int) : qcP l o key = some x ↔ Ent l o key x := by
 constructor
 ·intro e
  unfold qcP at e
  split at e
  ·rename_i k hs
   obtain ⟨c, hc, ek⟩ := qdK hs
   rw [hc] at e
   injection e with e
   exact ⟨c, .inl (List.mem_of_getElem? hc), ek, e⟩
  ·split at e
   ·rename_i k hs
    obtain ⟨c, hc, ek⟩ := qdK hs
    rw [hc] at e
    injection e with e
    exact ⟨c, .inr (List.mem_of_getElem? hc), ek, e⟩
   ·cases e
 ·rintro ⟨c, hc | hc, ek, eh⟩
  ·obtain ⟨i, hi, e⟩ := List.mem_iff_getElem.1 hc
   have hx : l[i]? = some c := by rw [List.getElem?_eq_getElem hi, e]
   have hs := qlD h.l1.1 h.l1.2.1 h.l1.2.2 hx (by rw [ek]; exact hk)
   rw [ek] at hs
   unfold qcP
   rw [hs]
   simp only
   rw [hx, <- eh]
   rfl
  ·obtain ⟨i, hi, e⟩ := List.mem_iff_getElem.1 hc
   have hx : o[i]? = some c := by rw [List.getElem?_eq_getElem hi, e]
   have hs := qlD h.o1.1 h.o1.2.1 h.o1.2.2 hx (by rw [ek]; exact hk)
   rw [ek] at hs
   have hn : qaZ l key = none := qqF fun j y hy e2 => h.apart i j c y hx hy (by rw [ek]; exact hk) (by rw [ek, e2])
   unfold qcP
   rw [hn]
   simp only
   rw [hs]
   simp only
   rw [hx, <- eh]
   rfl
theorem qiQ {l : List Ce} {k : Nat} {c x : Ce} (hx : l[k]? = some x) {key : ByteArray} (h1 : x.key ≠ key) (h2 : c.key ≠ key) (h : Int) : (∃ d, d ∈ l.set k c /\ d.key = key /\ d.h = h) ↔ ∃ d, d ∈ l /\ d.key = key /\ d.h = h := by
 constructor
 ·rintro ⟨d, hd, e1, e2⟩
  obtain ⟨i, hi, e⟩ := List.mem_iff_getElem.1 hd
  rcases qeB (show (l.set k c)[i]? = some d by rw [List.getElem?_eq_getElem hi, e]) with ⟨_, e3⟩ | ⟨_, hx2⟩
  ·rw [e3] at e1; exact absurd e1 h2
  ·exact ⟨d, List.mem_of_getElem? hx2, e1, e2⟩
 ·rintro ⟨d, hd, e1, e2⟩
  obtain ⟨i, hi, e⟩ := List.mem_iff_getElem.1 hd
  have hik : i ≠ k := by
   intro e3
   subst e3
   rw [List.getElem?_eq_getElem hi, e] at hx
   injection hx with hx
   rw [<- hx] at h1
   exact h1 e1
  exact ⟨d, List.mem_of_getElem? (show (l.set k c)[i]? = some d by rw [List.getElem?_set_ne (Ne.symm hik), List.getElem?_eq_getElem hi, e]), e1, e2⟩
theorem qgT {l o : List Ce} {key : ByteArray} {h : Int} : Ent l o key h ↔ (∃ d, d ∈ l /\ d.key = key /\ d.h = h) ∨ (∃ d, d ∈ o /\ d.key = key /\ d.h = h) := by
 constructor
 ·rintro ⟨c, h1 | h1, h2, h3⟩
  ·exact .inl ⟨c, h1, h2, h3⟩
  ·exact .inr ⟨c, h1, h2, h3⟩
 ·rintro (⟨c, h1, h2, h3⟩ | ⟨c, h1, h2, h3⟩)
  ·exact ⟨c, .inl h1, h2, h3⟩
  ·exact ⟨c, .inr h1, h2, h3⟩
theorem zaH {key : ByteArray} (hk : key.toList ≠ []) : gC.key ≠ key := fun e => hk (by rw [<- e]; exact qkA)
theorem qyG {l o L O : List Ce} {mv M : Int} {key : ByteArray} {hd : Int} (h : OkN l o mv) (hk : key.toList ≠ []) (hsz : key.size <= 12) (hh : 0 <= hd) (e : qcJ l o mv key hd = some (L, O, M)) :
  Ent L O key hd /\ ∀ k', k'.toList ≠ [] -> k' ≠ key -> ∀ x, Ent L O k' x ↔ Ent l o k' x := by
 unfold qcJ at e
 split at e
 ·rename_i k hs
  obtain ⟨x, hx, hxk⟩ := qdK hs
  injection e with e
  injection e with e1 e2
  injection e2 with e2 e3
  rw [<- e1, <- e2]
  have hi := (List.getElem?_eq_some_iff.1 hx).1
  refine ⟨⟨⟨key, hd⟩, .inl (List.mem_of_getElem? (show (l.set k ⟨key, hd⟩)[k]? = some _ by rw [List.getElem?_set_self hi])), rfl, rfl⟩, fun k' hk' hne y => ?_⟩
  rw [qgT, qgT, qiQ hx (by rw [hxk]; exact Ne.symm hne) (Ne.symm hne)]
 ·rename_i hs
  split at e
  ·rename_i l' hp
   injection e with e
   injection e with e1 e2
   injection e2 with e2 e3
   rw [<- e1, <- e2]
   obtain ⟨_, _, k, rfl, x, hx, hx0⟩ := qlG h.l1 h.l2 hk hsz hh (qnY h.l1 hk hs) hp
   have hi := (List.getElem?_eq_some_iff.1 hx).1
   refine ⟨⟨⟨key, hd⟩, .inl (List.mem_of_getElem? (show (l.set k ⟨key, hd⟩)[k]? = some _ by rw [List.getElem?_set_self hi])), rfl, rfl⟩, fun k' hk' hne y => ?_⟩
   have h2 : (∃ d, d ∈ goneO o key /\ d.key = k' /\ d.h = y) ↔ ∃ d, d ∈ o /\ d.key = k' /\ d.h = y := by
    unfold goneO
    split
    ·rename_i j hj
     obtain ⟨c, hc, hck⟩ := qdK hj
     exact qiQ hc (by rw [hck]; exact Ne.symm hne) (zaH hk') y
    ·exact Iff.rfl
   rw [qgT, qgT, qiQ hx (fun e => hk' (by rw [<- e]; exact hx0)) (Ne.symm hne), h2]
  ·cases e
theorem zaK {l o L O : List Ce} {mv M : Int} {key : ByteArray} (h : OkN l o mv) (hk : key.toList ≠ []) (e : qbY l o mv key = some (L, O, M)) :
  (∀ x, ¬ Ent L O key x) /\ ∀ k', k'.toList ≠ [] -> k' ≠ key -> ∀ x, Ent L O k' x ↔ Ent l o k' x := by
 have hgo : ∀ (r : List Ce) (k : Nat) (c : Ce), (qfM r /\ Dst r /\ Rch r) -> r[k]? = some c -> c.key = key -> ∀ d, d ∈ r.set k gC -> d.key ≠ key := by
  intro r k c hr hc hck d hd e
  obtain ⟨i, hi, e2⟩ := List.mem_iff_getElem.1 hd
  rcases qeB (show (r.set k gC)[i]? = some d by rw [List.getElem?_eq_getElem hi, e2]) with ⟨_, e3⟩ | ⟨hne, hx⟩
  ·rw [e3] at e; exact zaH hk e
  ·exact hne (hr.2.1 i k d c hx hc (by rw [e]; exact hk) (by rw [e, hck]))
 unfold qbY at e
 split at e
 ·rename_i k hs
  obtain ⟨c, hc, hck⟩ := qdK hs
  injection e with e
  injection e with e1 e2
  injection e2 with e2 e3
  rw [<- e1, <- e2]
  refine ⟨?_, fun k' hk' hne y => by rw [qgT, qgT, qiQ hc (by rw [hck]; exact Ne.symm hne) (zaH hk')]⟩
  rintro x ⟨d, hd | hd, e1, _⟩
  ·exact hgo l k c h.l1 hc hck d hd e1
  ·obtain ⟨i, hi, e2⟩ := List.mem_iff_getElem.1 hd
   exact h.apart i k d c (by rw [List.getElem?_eq_getElem hi, e2]) hc (by rw [e1]; exact hk) (by rw [e1, hck])
 ·rename_i hn
  split at e
  ·rename_i k hs
   obtain ⟨c, hc, hck⟩ := qdK hs
   injection e with e
   injection e with e1 e2
   injection e2 with e2 e3
   rw [<- e1, <- e2]
   refine ⟨?_, fun k' hk' hne y => by rw [qgT, qgT, qiQ hc (by rw [hck]; exact Ne.symm hne) (zaH hk')]⟩
   rintro x ⟨d, hd | hd, e1, _⟩
   ·obtain ⟨i, hi, e2⟩ := List.mem_iff_getElem.1 hd
    exact qnY h.l1 hk hn i d (by rw [List.getElem?_eq_getElem hi, e2]) e1
   ·exact hgo o k c h.o1 hc hck d hd e1
  ·cases e
theorem qwU {l o : List Ce} {mv : Int} {key : ByteArray} {x : Int} (h : qcP l o key = some x) : ∃ R, qbY l o mv key = some R := by
 unfold qcP at h
 unfold qbY
 split at h
 ·rename_i k hs; rw [hs]; exact ⟨_, rfl⟩
 ·rename_i hs
  rw [hs]
  simp only
  split at h
  ·rename_i k hs2; rw [hs2]; exact ⟨_, rfl⟩
  ·cases h
theorem qvP {l o : List Ce} {mv : Int} (h : OkN l o mv) {key : ByteArray} (hk : key.toList ≠ []) (hn : ∀ x, ¬ Ent l o key x) : qcP l o key = none := by
 cases e : qcP l o key with
 | none => rfl
 | some x => exact absurd ((qhR h hk x).1 e) (hn x)
theorem qoF {l o : List Ce} {c : Ce} : c ∈ qdL l o ↔ (c ∈ l ∨ c ∈ o) /\ c.key.toList ≠ [] := by
 unfold qdL qaO
 rw [List.mem_append, List.mem_filter, List.mem_filter]
 have e : (!c.key.toList.isEmpty) = true ↔ c.key.toList ≠ [] := by cases c.key.toList <;> simp
 rw [e]
 constructor
 ·rintro (⟨h1, h2⟩ | ⟨h1, h2⟩)
  ·exact ⟨.inl h1, h2⟩
  ·exact ⟨.inr h1, h2⟩
 ·rintro ⟨h1 | h1, h2⟩
  ·exact .inl ⟨h1, h2⟩
  ·exact .inr ⟨h1, h2⟩
theorem qtN {l o : List Ce} {key : ByteArray} (hk : key.toList ≠ []) {x : Int} : Ent l o key x ↔ ∃ e, e ∈ qdL l o /\ e.key = key /\ e.h = x := by
 constructor
 ·rintro ⟨c, h1, h2, h3⟩
  exact ⟨c, qoF.2 ⟨h1, by rw [h2]; exact hk⟩, h2, h3⟩
 ·rintro ⟨c, h1, h2, h3⟩
  exact ⟨c, (qoF.1 h1).1, h2, h3⟩
theorem qpA : ∀ (a b : List ByteArray), a.Pairwise (fun x y => kLt x y = true) -> b.Pairwise (fun x y => kLt x y = true) -> (∀ z, z ∈ a ↔ z ∈ b) -> a = b
 | [], [], _, _, _ => rfl
 | [], y :: b, _, _, h => absurd ((h y).2 (List.mem_cons_self ..)) (by simp)
 | x :: a, [], _, _, h => absurd ((h x).1 (List.mem_cons_self ..)) (by simp)
 | x :: a, y :: b, ha, hb, h => by
  rw [List.pairwise_cons] at ha hb
  have exy : x = y := by
   rcases List.mem_cons.1 ((h x).1 (List.mem_cons_self ..)) with e | e
   ·exact e
   ·rcases List.mem_cons.1 ((h y).2 (List.mem_cons_self ..)) with e2 | e2
    ·exact e2.symm
    ·have h1 := ha.1 y e2
     have h2 := hb.1 x e
     rw [qrC h1] at h2
     cases h2
  subst exy
  rw [qpA a b ha.2 hb.2 fun z => ?_]
  have hz := h z
  rw [List.mem_cons, List.mem_cons] at hz
  constructor
  ·intro hm
   rcases hz.1 (.inr hm) with e | e
   ·subst e
    have := ha.1 z hm
    rw [qiU] at this
    cases this
   ·exact e
  ·intro hm
   rcases hz.2 (.inr hm) with e | e
   ·subst e
    have := hb.1 z hm
    rw [qiU] at this
    cases this
   ·exact e
theorem qoH {l o : List Ce} {mv : Int} (h : OkT l o mv) : (qbX (qaY (qdL l o))).Pairwise (fun x y => kLt x y = true) := by
 unfold qbX
 rw [List.pairwise_map]
 exact (qcI (qcT h)).1
theorem qoG {l o : List Ce} {mv : Int} (h : OkT l o mv) {z : ByteArray} : z ∈ qbX (qaY (qdL l o)) ↔ z.toList ≠ [] /\ ∃ x, Ent l o z x := by
 constructor
 ·intro hm
  obtain ⟨c, hc, e⟩ := List.mem_map.1 hm
  have hc := (qcI (qcT h)).2.mem_iff.1 hc
  have := qoF.1 hc
  have hz : z.toList ≠ [] := by rw [<- e]; exact this.2
  exact ⟨hz, c.h, (qtN hz).2 ⟨c, hc, e, rfl⟩⟩
 ·rintro ⟨hz, x, hx⟩
  obtain ⟨c, hc, e, _⟩ := (qtN hz).1 hx
  exact List.mem_map.2 ⟨c, (qcI (qcT h)).2.mem_iff.2 hc, e⟩
theorem qqN : ∀ (E Y X : List Ce), OkN Y [] 0 -> (∀ c ∈ Y, c.h ≠ -2) -> Dis E -> (∀ e ∈ E, e.key.toList ≠ [] /\ e.key.size <= 12 /\ 0 <= e.h) -> (∀ e ∈ E, ∀ (i : Nat) (x : Ce), Y[i]? = some x -> x.key ≠ e.key) -> qdN E Y = some X ->
  OkN X [] 0 /\ (∀ c ∈ X, c.h ≠ -2) /\ X.length = Y.length /\ ∀ z, z.toList ≠ [] -> ∀ x, Ent X [] z x ↔ Ent Y [] z x ∨ ∃ e, e ∈ E /\ e.key = z /\ e.h = x
 | [], Y, X, hY, hg, _, _, _, e => by
  rw [qdN] at e
  injection e with e
  subst e
  exact ⟨hY, hg, rfl, fun z _ x => ⟨.inl, fun h => h.resolve_right (fun ⟨e, he, _⟩ => by cases he)⟩⟩
 | c :: E, Y, X, hY, hg, hd, hf, hn, e => by
  rw [qdN] at e
  cases hp : putC Y c.key c.h with
  | none => rw [hp] at e; cases e
  | some Z =>
   rw [hp] at e
   simp only at e
   have hc := hf c (List.mem_cons_self ..)
   have hcn := hn c (List.mem_cons_self ..)
   have hZ : OkN Z [] 0 := hY.putL hc.1 hc.2.1 hc.2.2 hcn (fun i x hx => by simp at hx) hp
   obtain ⟨_, _, k, hk, x0, hx0, hx00⟩ := qlG hY.l1 hY.l2 hc.1 hc.2.1 hc.2.2 hcn hp
   have hi := (List.getElem?_eq_some_iff.1 hx0).1
   have hd2 := List.pairwise_cons.1 hd
   have hgZ : ∀ d ∈ Z, d.h ≠ -2 := by
    intro d hm
    rw [hk] at hm
    obtain ⟨i, hil, e2⟩ := List.mem_iff_getElem.1 hm
    rcases qeB (show (Y.set k ⟨c.key, c.h⟩)[i]? = some d by rw [List.getElem?_eq_getElem hil, e2]) with ⟨_, e3⟩ | ⟨_, hx⟩
    ·rw [e3]; have := hc.2.2; show c.h ≠ -2; omega
    ·exact hg d (List.mem_of_getElem? hx)
   have hnZ : ∀ e ∈ E, ∀ (i : Nat) (x : Ce), Z[i]? = some x -> x.key ≠ e.key := by
    intro e2 he2 i x hx
    rw [hk] at hx
    rcases qeB hx with ⟨_, e3⟩ | ⟨_, hx⟩
    ·rw [e3]; exact hd2.1 e2 he2
    ·exact hn e2 (List.mem_cons_of_mem _ he2) i x hx
   obtain ⟨r1, r2, r3, r4⟩ := qqN E Z X hZ hgZ hd2.2 (fun e he => hf e (List.mem_cons_of_mem _ he)) hnZ e
   refine ⟨r1, r2, by rw [r3, hk, List.length_set], fun z hz x => ?_⟩
   rw [r4 z hz x]
   have hZY : Ent Z [] z x ↔ Ent Y [] z x ∨ (c.key = z /\ c.h = x) := by
    by_cases hcz : c.key = z
    ·constructor
     ·rintro ⟨d, hd | hd, e1, e2⟩
      ·rw [hk] at hd
       obtain ⟨i, hil, e3⟩ := List.mem_iff_getElem.1 hd
       rcases qeB (show (Y.set k ⟨c.key, c.h⟩)[i]? = some d by rw [List.getElem?_eq_getElem hil, e3]) with ⟨_, e4⟩ | ⟨_, hx⟩
       ·rw [e4] at e2; exact .inr ⟨hcz, e2⟩
       ·exact .inl ⟨d, .inl (List.mem_of_getElem? hx), e1, e2⟩
      ·cases hd
     ·rintro (⟨d, hd | hd, e1, e2⟩ | ⟨_, e2⟩)
      ·obtain ⟨i, hil, e3⟩ := List.mem_iff_getElem.1 hd
       exact absurd (by rw [e1, hcz]) (hcn i d (by rw [List.getElem?_eq_getElem hil, e3]))
      ·cases hd
      ·refine ⟨⟨c.key, c.h⟩, .inl ?_, hcz, e2⟩
       rw [hk]
       exact List.mem_of_getElem? (show (Y.set k ⟨c.key, c.h⟩)[k]? = some _ by rw [List.getElem?_set_self hi])
    ·rw [qgT, qgT, hk, qiQ hx0 (fun e => hz (by rw [<- e]; exact hx00)) hcz]
     constructor
     ·exact fun h => .inl h
     ·rintro (h | ⟨h, _⟩)
      ·exact h
      ·exact absurd h hcz
   rw [hZY]
   constructor
   ·rintro ((h | ⟨h1, h2⟩) | ⟨e, he, h1, h2⟩)
    ·exact .inl h
    ·exact .inr ⟨c, List.mem_cons_self .., h1, h2⟩
    ·exact .inr ⟨e, List.mem_cons_of_mem _ he, h1, h2⟩
   ·rintro (h | ⟨e, he, h1, h2⟩)
    ·exact .inl (.inl h)
    ·rcases List.mem_cons.1 he with e3 | he
     ·rw [e3] at h1 h2; exact .inl (.inr ⟨h1, h2⟩)
     ·exact .inr ⟨e, he, h1, h2⟩
theorem qvB {l o X O : List Ce} {mv M : Int} (h : OkN l o mv) (e : qbQ l o = some (X, O, M)) : O = [] /\ M = 0 /\ OkN X [] 0 /\ (∀ c ∈ X, c.h ≠ -2) /\ X.length = l.length /\ ∀ z, z.toList ≠ [] -> ∀ x, Ent X [] z x ↔ Ent l o z x := by
 have hT := qcG.2 h
 have hp := (qcI (qcT hT)).2
 unfold qbQ at e
 cases hpa : qdN (qaY (qdL l o)) (List.replicate l.length nC) with
 | none => rw [hpa] at e; cases e
 | some Y =>
  rw [hpa] at e
  injection e with e
  injection e with e1 e2
  injection e2 with e2 e3
  subst e1
  have hne : ∀ c ∈ qaY (qdL l o), ∀ (i : Nat) (x : Ce), (List.replicate l.length nC)[i]? = some x -> x.key ≠ c.key := fun c hc i x hx e => by
   have := (qoF.1 (hp.mem_iff.1 hc)).2
   rw [<- e, qxL hx] at this
   exact this qtA
  obtain ⟨r1, r2, r3, r4⟩ := qqN (qaY (qdL l o)) (List.replicate l.length nC) Y (OkN.new h.size) (fun c hc => by rw [List.eq_of_mem_replicate hc]; show (-1 : Int) ≠ -2; omega) (quX (qcT hT)) (fun c hc => by
   obtain ⟨i, hi, e⟩ := List.mem_iff_getElem.1 hc
   have := qtO hT hi
   rw [e] at this
   exact this) hne hpa
  refine ⟨e2.symm, e3.symm, r1, r2, by rw [r3, List.length_replicate], fun z hz x => ?_⟩
  rw [r4 z hz x, qtN (l := l) (o := o) hz]
  constructor
  ·rintro (⟨d, hd | hd, e1, _⟩ | ⟨c, hc, e1, e2⟩)
   ·rw [List.eq_of_mem_replicate hd] at e1
    exact absurd (by rw [<- e1]; exact qtA) hz
   ·cases hd
   ·exact ⟨c, hp.mem_iff.1 hc, e1, e2⟩
  ·rintro ⟨c, hc, e1, e2⟩
   exact .inr ⟨c, hp.mem_iff.2 hc, e1, e2⟩
theorem qqR (l : List Ce) (k : Nat) (c : Ce) : ∀ n, qbJ l n <= qbJ (l.set k c) n + (if k < n then 1 else 0)
 | 0 => by simp [qbJ]
 | n + 1 => by
  have ih := qqR l k c n
  rw [qbJ, qbJ]
  by_cases hk : n = k
  ·subst hk
   rw [if_neg (by omega)] at ih
   rw [if_pos (by omega)]
   split
   ·split <;> omega
   ·omega
  ·rw [List.getElem?_set_ne (Ne.symm hk)]
   by_cases hlt : k < n
   ·rw [if_pos hlt] at ih
    rw [if_pos (by omega)]
    omega
   ·rw [if_neg hlt] at ih
    rw [if_neg (by omega)]
    omega
theorem qqS (n : Nat) : ∀ i, i <= n -> qbJ (List.replicate n nC) i = i
 | 0, _ => rfl
 | i + 1, h => by
  rw [qbJ, qqS n i (by omega), List.getElem?_replicate, if_pos (by omega)]
  simp only
  rw [if_pos ⟨qtA, rfl⟩]
theorem quG {l : List Ce} : ∀ n, 0 < qbJ l n -> ∃ (i : Nat) (x : Ce), i < n /\ l[i]? = some x /\ x.key.toList = []
 | 0, h => by simp [qbJ] at h
 | n + 1, h => by
  rw [qbJ] at h
  by_cases h0 : 0 < qbJ l n
  ·obtain ⟨i, x, h1, h2⟩ := quG n h0
   exact ⟨i, x, by omega, h2⟩
  ·cases hx : l[n]? with
   | none => rw [hx] at h; simp only at h; omega
   | some x =>
    rw [hx] at h
    simp only at h
    by_cases c : x.key.toList = [] /\ x.h = -1
    ·exact ⟨n, x, by omega, hx, c.1⟩
    ·rw [if_neg c] at h; omega
theorem qnC {l : List Ce} {p k : Nat} {x : Ce} (hx : l[k]? = some x) (h0 : x.key.toList = []) : ∀ (d i : Nat), (∃ e, i <= e /\ e < i + d /\ (p + e) % l.length = k) -> ∃ j, qhI l p i d = some j
 | 0, i, ⟨e, h1, h2, _⟩ => by omega
 | d + 1, i, ⟨e, h1, h2, h3⟩ => by
  have hn : 0 < l.length := by have := (List.getElem?_eq_some_iff.1 hx).1; omega
  have hq : (p + i) % l.length < l.length := Nat.mod_lt _ hn
  rw [qhI]
  cases hy : l[(p + i) % l.length]? with
  | none => rw [List.getElem?_eq_getElem hq] at hy; cases hy
  | some y =>
   simp only
   by_cases c : y.key.toList = []
   ·rw [if_pos c]; exact ⟨_, rfl⟩
   ·rw [if_neg c]
    by_cases hei : e = i
    ·subst hei
     rw [h3, hx] at hy
     injection hy with hy
     rw [<- hy] at c
     exact absurd h0 c
    ·exact qnC hx h0 d (i + 1) ⟨e, by omega, by omega, h3⟩
theorem zeK {n p k : Nat} (hp : p < n) (hk : k < n) : ∃ e, 0 <= e /\ e < 0 + n /\ (p + e) % n = k := by
 by_cases h : p <= k
 ·exact ⟨k - p, by omega, by omega, by rw [show p + (k - p) = k by omega]; exact Nat.mod_eq_of_lt hk⟩
 ·refine ⟨n - p + k, by omega, by omega, ?_⟩
  rw [show p + (n - p + k) = k + n by omega, Nat.add_mod_right]
  exact Nat.mod_eq_of_lt hk
theorem qqM {l : List Ce} (h2 : 2 <= qbJ l l.length) (key : ByteArray) (h : Int) : ∃ l', putC l key h = some l' /\ qbJ l l.length <= qbJ l' l'.length + 1 := by
 obtain ⟨i, x, hi, hx, hx0⟩ := quG (l := l) l.length (by omega)
 obtain ⟨k, hk⟩ := qnC (p := qcK key 0 % l.length) hx hx0 l.length 0 (zeK (Nat.mod_lt _ (by omega)) hi)
 have hkl := qoS _ _ _ hk
 refine ⟨l.set k ⟨key, h⟩, ?_, ?_⟩
 ·unfold putC qiY
  rw [hk]
  simp only
  rw [List.getElem?_eq_getElem hkl]
  simp only
  exact if_neg (fun hh => by have := hh.1; omega)
 ·have := qqR l k ⟨key, h⟩ l.length
  rw [List.length_set]
  split at this <;> omega
end Go.Proofs.YtigpjmmfelndkaaGreatDoor
