import Derived.Test.YtigpjmmfelndkaaGreatDoorLXI
namespace Go.Proofs.YtigpjmmfelndkaaGreatDoor
open Go.RowKit
set_option maxRecDepth 100000
set_option maxHeartbeats 4000000
theorem qpE {l : List Ce} {key : ByteArray} {p : Nat} : ∀ (d i : Nat) (f : Option Nat) (k : Nat), (qdS l key p i d f).1 = some k -> ∃ x, l[k]? = some x /\ x.key.toList = key.toList
 | 0, _, _, _, h => by cases h
 | d + 1, i, f, k, h => by
  rw [qdS] at h
  split at h
  ·cases h
  ·rename_i x hx
   split at h
   ·rename_i hc
    injection h with h
    rw [<- h]
    exact ⟨x, hx, hc.2⟩
   ·split at h
    ·cases h
    ·exact qpE d (i + 1) _ k h
theorem qxA {l : List Ce} {key : ByteArray} {k : Nat} (h : (qaP l key).1 = some k) (hk : k < l.length) : l[k].key = key := by
 obtain ⟨x, hx, e⟩ := qpE _ _ _ _ h
 rw [List.getElem?_eq_getElem hk] at hx
 rw [Option.some.inj hx]
 exact qgO e
def goneO (o : List Ce) (key : ByteArray) : List Ce :=
 match qaZ o key with
 | some k => o.set k gC
 | none => o
def qcJ (l o : List Ce) (mv : Int) (key : ByteArray) (h : Int) : Option (List Ce × List Ce × Int) :=
 match qaZ l key with
 | some k => some (l.set k ⟨key, h⟩, o, mv)
 | none => match putC l key h with
  | some l' => some (l', goneO o key, mv)
  | none => none
def qeC (l o : List Ce) (mv : Int) (key : ByteArray) (h : Int) : Prop := OkT l o mv /\ 1 <= key.size /\ key.size <= 12 /\ 0 <= h
theorem qlR (ao a' : Option Addr) (l o : List Ce) (ca ca' : Nat) (mv : Int) (key : ByteArray) (h : Int) (w : World) (hl : l.length <= 1048576) (hl' : o.length <= 1048576) (hk : key.size <= 1048576) (hA : RdJ w ao l) (hA' : RdJ w a' o) :
  Calls Tryz.prog 138 #[tbV ao l.length ca a' o.length ca' mv, .string key, .int .i64 h] w fun e w' => MadeT w w' e (qeC l o mv key h) (qcJ l o mv key h) := by
 have CK := hI (fun w => qlO key w)
 have CB := hI (fun w' (hb : Below w.heap.size w w') => qdH ao a' l o ca ca' mv w' hl hl' (hA.later hb) (hA'.later hb))
 have F0 := hI (qsG w #[.slice ao l.length ca, .slice a' o.length ca', .int .i64 mv] #[.slice none 0 0, .slice none 0 0, .int .i64 0] 29)
 clear hA hA'
 unfold tbV at CB ⊢
 go_enter Tryz.func138, Tryz.ntmps138
 go_wp2_with fail
 generalize ((w.alloc (.cells #[.slice ao l.length ca, .slice a' o.length ca', .int .i64 mv] 29)).alloc (.cells #[.slice none 0 0, .slice none 0 0, .int .i64 0] 29)) = w0 at F0 ⊢
 obtain ⟨K0, R0, B0⟩ := F0.out
 have R0 := hI R0
 have B0 := hI B0
 clear F0 K0
 refine (CB.out w0 B0.out).mono ?_
 rintro e w1 ⟨hr, hb1⟩
 have R1 := bRn R0 hb1
 have B1 := tRn B0 hb1
 have S1 := hI hb1.size
 have HRS := hI R0.out.lt
 clear hb1 CB R0
 have hrs : w.heap.size + 1 < w0.heap.size := HRS.out
 rcases hr with ⟨b, g, m, rfl, hm, hok, hbr⟩ | ⟨v, rfl, hn⟩
 ·subst hm
  have HOK := hI hok
  have HF := hI hok.fit
  have HLN := hI hok.len
  have D1 := hI hbr
  clear hok hbr
  go_wp2_with fail
  refine (CK.out w1).mono ?_
  rintro e w2 ⟨rfl, hw2⟩
  rw [hw2]
  clear hw2 w2
  cases hky : qgQ key with
  | false =>
   have HK := hI hky
   clear hky
   have HNP := hI (show ¬ qeC l o (m : Int) key h from fun hp => by have := (qfV key).2 ⟨hp.2.1, hp.2.2.1⟩; rw [HK.out] at this; cases this)
   have HN := hI (MadeT.no (r := w.heap.size + 1) (R := qcJ l o (m : Int) key h) (ok := qeC l o (m : Int) key h) B1.out (by omega) (fun hp => HNP.out hp.1) (.slice none 0 0) (.slice none 0 0) (.int .i64 0))
   have HH := hI (qaI R1.out (.slice none 0 0) (.slice none 0 0) (.int .i64 0))
   have y0 : w1.cell? ⟨w.heap.size + 1, 0, none⟩ = _ := cRn (R1.out.cell 0) rfl
   have y1 : w1.cell? ⟨w.heap.size + 1, 1, none⟩ = _ := cRn (R1.out.cell 1) rfl
   have y2 : w1.cell? ⟨w.heap.size + 1, 2, none⟩ = _ := cRn (R1.out.cell 2) rfl
   have yf (j) : w1.frozen? ⟨w.heap.size + 1, j, none⟩ = false := R1.out.froz j
   unfold qeS at HN HH
   go_wp2
   refine bodyPost_ret (qgG Tryz.results138 _ _ (w.heap.size + 1) 29 #[.slice none 0 0, .slice none 0 0, .int .i64 0] (0, 0) _ rfl HH.out Tryz.underlying29 rfl (by kernel_rfl)) rfl ?_
   exact HN.out
  | true =>
   have HK := hI ((qfV key).1 hky)
   have hne := quJ hky
   have HNE := hI hne
   clear hky hne
   by_cases ch : h < 0
   ·have qh : decide (h < 0) = true := decide_eq_true ch
    have HNP := hI (show ¬ qeC l o (m : Int) key h from fun hp => by have := hp.2.2.2; omega)
    clear ch
    have HN := hI (MadeT.no (r := w.heap.size + 1) (R := qcJ l o (m : Int) key h) (ok := qeC l o (m : Int) key h) B1.out (by omega) (fun hp => HNP.out hp.1) (.slice none 0 0) (.slice none 0 0) (.int .i64 0))
    have HH := hI (qaI R1.out (.slice none 0 0) (.slice none 0 0) (.int .i64 0))
    have y0 : w1.cell? ⟨w.heap.size + 1, 0, none⟩ = _ := cRn (R1.out.cell 0) rfl
    have y1 : w1.cell? ⟨w.heap.size + 1, 1, none⟩ = _ := cRn (R1.out.cell 1) rfl
    have y2 : w1.cell? ⟨w.heap.size + 1, 2, none⟩ = _ := cRn (R1.out.cell 2) rfl
    have yf (j) : w1.frozen? ⟨w.heap.size + 1, j, none⟩ = false := R1.out.froz j
    unfold qeS at HN HH
    go_wp2
    refine bodyPost_ret (qgG Tryz.results138 _ _ (w.heap.size + 1) 29 #[.slice none 0 0, .slice none 0 0, .int .i64 0] (0, 0) _ rfl HH.out Tryz.underlying29 rfl (by kernel_rfl)) rfl ?_
    exact HN.out
   ·have qh : decide (h < 0) = false := decide_eq_false ch
    have HP := hI (show qeC l o (m : Int) key h from ⟨HOK.out, HK.out.1, HK.out.2, by omega⟩)
    have x0 : w1.cell? ⟨b, 0, none⟩ = some (.slice (some ⟨g, 0, none⟩) l.length l.length) := D1.out.hd.cell 0
    have CP := hI (qdB (some ⟨g, 0, none⟩) l l.length key w1 hl hk D1.out.cells)
    clear ch
    go_wp2_with fail
    refine CP.out.mono ?_
    rintro e w2 ⟨rfl, hb2⟩
    have D2 := hI (D1.out.later hb2)
    have R2 := bRn R1 hb2
    have B2 := tRn B1 hb2
    have S2 := hI (Nat.le_trans S1.out hb2.size)
    clear hb2 CP x0 D1 R1
    rcases hs : (qaP l key).1 with _ | k
    ·have HS := hI hs
     have CL := hI (zcB D2.out ⟨key, h⟩ S2.out hl HLN.out.2.2 hk)
     unfold ceV at CL
     simp only at CL
     have HLP := hI (quI HF.out.1 hs h)
     have HSK := hI (show qaZ l key = none by rw [<- qaJ HF.out.1 HNE.out, hs])
     unfold qdC
     clear hs
     go_wp2_with fail
     refine CL.out.mono ?_
     rintro e w3 ⟨hr, hb3⟩
     have R3 := hI (R2.out.below hb3 hrs)
     have B3 := hI (B2.out.trans (hb3.mono B0.out.size))
     have S3 := hI (Nat.le_trans S2.out hb3.size)
     clear hb3 CL R2
     rcases hr with ⟨l', hlay, rfl, hbr⟩ | ⟨hlay, rfl, hbr⟩
     ·have hll : l'.length = l.length := qtC hlay
      have HPT := hI (show putC l key h = some l' by rw [<- HLP.out]; exact hlay)
      have D3 := hI hbr
      have CO := hI (qkS hbr key S3.out hl' hk)
      have x1 : w3.cell? ⟨b, 1, none⟩ = _ := cRn (hbr.hd.cell 1) rfl
      generalize hop : qmY g l'.length o.length = op at *
      clear hbr hlay hop
      go_wp2_with fail
      refine CO.out.mono ?_
      rintro e w4 ⟨hr, hb4⟩
      have R4 := hI (R3.out.below hb4 hrs)
      have B4 := hI (B3.out.trans (hb4.mono B0.out.size))
      clear hb4 CO x1 R3
      have hl2 : l'.length <= 1048576 := by omega
      rcases hr with ⟨k, hs, rfl, hbr⟩ | ⟨hs, rfl, hbr⟩
      ·have HVAL := hI (show qcJ l o (m : Int) key h = some (l', o.set k gC, (m : Int)) by
        rw [qcJ, HSK.out]
        simp only []
        rw [HPT.out]
        simp only [goneO]
        rw [<- qaJ HF.out.2 HNE.out, hs])
       have hl3 : (o.set k gC).length <= 1048576 := by rw [List.length_set]; exact hl'
       have D4 := hI hbr
       clear hs hbr hll
       have CT := hI (qdY (some ⟨g, 0, none⟩) (qmY g (l').length (o.set k gC).length) (l') (o.set k gC) _ _ _ D4.out.hd (hl2) (hl3) D4.out.cells D4.out.olds)
       have hrr : w.heap.size + 1 < w4.heap.size := R4.out.lt
       go_wp2_with fail
       refine CT.out.mono ?_
       rintro e w5 ⟨v, rfl, b3, c3, b4, c4, rfl, ho3, ho4, hne, hb3⟩
       have R9 := bRn R4 hb3
       have HN := hI (MadeT.yes (r := w.heap.size + 1) (ok := qeC l o (m : Int) key h) (R := qcJ l o (m : Int) key h) B4.out (by omega) hrr ho3 ho4 hne hb3 (HP.out) (HVAL.out) (.slice (some ⟨b3, 0, none⟩) (l').length c3) (.slice (some ⟨b4, 0, none⟩) (o.set k gC).length c4) (.int .i64 ((m : Int))))
       have HH := hI (qaI R9.out (.slice (some ⟨b3, 0, none⟩) (l').length c3) (.slice (some ⟨b4, 0, none⟩) (o.set k gC).length c4) (.int .i64 ((m : Int))))
       have y0 : w5.cell? ⟨w.heap.size + 1, 0, none⟩ = _ := cRn (R9.out.cell 0) rfl
       have y1 : w5.cell? ⟨w.heap.size + 1, 1, none⟩ = _ := cRn (R9.out.cell 1) rfl
       have y2 : w5.cell? ⟨w.heap.size + 1, 2, none⟩ = _ := cRn (R9.out.cell 2) rfl
       have yf (j) : w5.frozen? ⟨w.heap.size + 1, j, none⟩ = false := R9.out.froz j
       unfold qeS at HN HH
       unfold tbV
       generalize (l').length = nL at *
       generalize (o.set k gC).length = nO at *
       clear ho3 ho4 hb3 CT
       go_wp2
       refine bodyPost_ret (qgG Tryz.results138 _ _ (w.heap.size + 1) 29 #[.slice (some ⟨b3, 0, none⟩) nL c3, .slice (some ⟨b4, 0, none⟩) nO c4, .int .i64 ((m : Int))] (0, 0) _ rfl HH.out Tryz.underlying29 rfl (by kernel_rfl)) rfl ?_
       exact HN.out
      ·have HVAL := hI (show qcJ l o (m : Int) key h = some (l', o, (m : Int)) by
        rw [qcJ, HSK.out]
        simp only []
        rw [HPT.out]
        simp only [goneO]
        rw [<- qaJ HF.out.2 HNE.out, hs])
       have D4 := hI hbr
       clear hs hbr hll
       have CT := hI (qdY (some ⟨g, 0, none⟩) (qmY g (l').length (o).length) (l') (o) _ _ _ D4.out.hd (hl2) (hl') D4.out.cells D4.out.olds)
       have hrr : w.heap.size + 1 < w4.heap.size := R4.out.lt
       go_wp2_with fail
       refine CT.out.mono ?_
       rintro e w5 ⟨v, rfl, b3, c3, b4, c4, rfl, ho3, ho4, hne, hb3⟩
       have R9 := bRn R4 hb3
       have HN := hI (MadeT.yes (r := w.heap.size + 1) (ok := qeC l o (m : Int) key h) (R := qcJ l o (m : Int) key h) B4.out (by omega) hrr ho3 ho4 hne hb3 (HP.out) (HVAL.out) (.slice (some ⟨b3, 0, none⟩) (l').length c3) (.slice (some ⟨b4, 0, none⟩) (o).length c4) (.int .i64 ((m : Int))))
       have HH := hI (qaI R9.out (.slice (some ⟨b3, 0, none⟩) (l').length c3) (.slice (some ⟨b4, 0, none⟩) (o).length c4) (.int .i64 ((m : Int))))
       have y0 : w5.cell? ⟨w.heap.size + 1, 0, none⟩ = _ := cRn (R9.out.cell 0) rfl
       have y1 : w5.cell? ⟨w.heap.size + 1, 1, none⟩ = _ := cRn (R9.out.cell 1) rfl
       have y2 : w5.cell? ⟨w.heap.size + 1, 2, none⟩ = _ := cRn (R9.out.cell 2) rfl
       have yf (j) : w5.frozen? ⟨w.heap.size + 1, j, none⟩ = false := R9.out.froz j
       unfold qeS at HN HH
       unfold tbV
       generalize (l').length = nL at *
       generalize (o).length = nO at *
       clear ho3 ho4 hb3 CT
       go_wp2
       refine bodyPost_ret (qgG Tryz.results138 _ _ (w.heap.size + 1) 29 #[.slice (some ⟨b3, 0, none⟩) nL c3, .slice (some ⟨b4, 0, none⟩) nO c4, .int .i64 ((m : Int))] (0, 0) _ rfl HH.out Tryz.underlying29 rfl (by kernel_rfl)) rfl ?_
       exact HN.out
     ·have HNP := hI (show ¬ ∃ x, qcJ l o (m : Int) key h = some x from fun ⟨x, hx⟩ => by
       rw [qcJ, HSK.out] at hx
       simp only [] at hx
       rw [<- HLP.out, hlay] at hx
       cases hx)
      clear hlay hbr
      have HN := hI (MadeT.no (r := w.heap.size + 1) (R := qcJ l o (m : Int) key h) (ok := qeC l o (m : Int) key h) B3.out (by omega) (fun hp => HNP.out hp.2) (.slice none 0 0) (.slice none 0 0) (.int .i64 0))
      have HH := hI (qaI R3.out (.slice none 0 0) (.slice none 0 0) (.int .i64 0))
      have y0 : w3.cell? ⟨w.heap.size + 1, 0, none⟩ = _ := cRn (R3.out.cell 0) rfl
      have y1 : w3.cell? ⟨w.heap.size + 1, 1, none⟩ = _ := cRn (R3.out.cell 1) rfl
      have y2 : w3.cell? ⟨w.heap.size + 1, 2, none⟩ = _ := cRn (R3.out.cell 2) rfl
      have yf (j) : w3.frozen? ⟨w.heap.size + 1, j, none⟩ = false := R3.out.froz j
      unfold qeS at HN HH
      go_wp2
      refine bodyPost_ret (qgG Tryz.results138 _ _ (w.heap.size + 1) 29 #[.slice none 0 0, .slice none 0 0, .int .i64 0] (0, 0) _ rfl HH.out Tryz.underlying29 rfl (by kernel_rfl)) rfl ?_
      exact HN.out
    ·have hkl := qfD hs
     have k1 : (k : Int) < (l.length : Int) := by omega
     have q : ((k : Int) != (-1 : Int)) = true := by simp
     have hkey := qxA hs hkl
     have HVAL := hI (show qcJ l o (m : Int) key h = some (l.set k ⟨key, h⟩, o, (m : Int)) by rw [qcJ, <- qaJ HF.out.1 HNE.out, hs])
     have x0 : w2.cell? ⟨b, 0, none⟩ = some (.slice (some ⟨g, 0, none⟩) l.length l.length) := D2.out.hd.cell 0
     have z1 : w2.cell? ⟨g, k * 2 + 1, none⟩ = some (.int .i64 l[k].h) := by have := (Blk.segat (A := []) (L := l) (C := o) (of := 0) D2.out.tl rfl hkl).2; rw [Nat.zero_add] at this; exact this
     have zf := D2.out.tl.froz (k * 2 + 1)
     have D3 := hI (D2.out.setH hkl h)
     rw [hkey] at D3
     have R3 : Hid (Blk (w2.setCell ⟨g, k * 2 + 1, none⟩ (.int .i64 h)) (w.heap.size + 1) 29 [.slice none 0 0, .slice none 0 0, .int .i64 0]) := R2.out.far _ _ (by have := D2.out.lg; dsimp only; omega)
     have B3 : Hid (Below w.heap.size w (w2.setCell ⟨g, k * 2 + 1, none⟩ (.int .i64 h))) := B2.out.setCell (p := ⟨g, k * 2 + 1, none⟩) (by have := D2.out.lg; have := B0.out.size; dsimp only; omega) _
     have hl2 : (l.set k ⟨key, h⟩).length <= 1048576 := by rw [List.length_set]; exact hl
     generalize l[k].h = xh at *
     unfold qdC
     clear hs hkey D2 R2
     go_upto_region 7 with fail
     generalize (w2.setCell ⟨g, k * 2 + 1, none⟩ (.int .i64 h)) = w3 at D3 R3 B3 ⊢
     clear x0 z1 zf
     have CT := hI (qdY (some ⟨g, 0, none⟩) (qmY g (l.set k ⟨key, h⟩).length (o).length) (l.set k ⟨key, h⟩) (o) _ _ _ D3.out.hd (hl2) (hl') D3.out.cells D3.out.olds)
     have hrr : w.heap.size + 1 < w3.heap.size := R3.out.lt
     go_wp2_with fail
     refine CT.out.mono ?_
     rintro e w4 ⟨v, rfl, b3, c3, b4, c4, rfl, ho3, ho4, hne, hb3⟩
     have R9 := bRn R3 hb3
     have HN := hI (MadeT.yes (r := w.heap.size + 1) (ok := qeC l o (m : Int) key h) (R := qcJ l o (m : Int) key h) B3.out (by omega) hrr ho3 ho4 hne hb3 (HP.out) (HVAL.out) (.slice (some ⟨b3, 0, none⟩) (l.set k ⟨key, h⟩).length c3) (.slice (some ⟨b4, 0, none⟩) (o).length c4) (.int .i64 ((m : Int))))
     have HH := hI (qaI R9.out (.slice (some ⟨b3, 0, none⟩) (l.set k ⟨key, h⟩).length c3) (.slice (some ⟨b4, 0, none⟩) (o).length c4) (.int .i64 ((m : Int))))
     have y0 : w4.cell? ⟨w.heap.size + 1, 0, none⟩ = _ := cRn (R9.out.cell 0) rfl
     have y1 : w4.cell? ⟨w.heap.size + 1, 1, none⟩ = _ := cRn (R9.out.cell 1) rfl
     have y2 : w4.cell? ⟨w.heap.size + 1, 2, none⟩ = _ := cRn (R9.out.cell 2) rfl
     have yf (j) : w4.frozen? ⟨w.heap.size + 1, j, none⟩ = false := R9.out.froz j
     unfold qeS at HN HH
     unfold tbV
     generalize (l.set k ⟨key, h⟩).length = nL at *
     generalize (o).length = nO at *
     clear ho3 ho4 hb3 CT
     go_wp2
     refine bodyPost_ret (qgG Tryz.results138 _ _ (w.heap.size + 1) 29 #[.slice (some ⟨b3, 0, none⟩) nL c3, .slice (some ⟨b4, 0, none⟩) nO c4, .int .i64 ((m : Int))] (0, 0) _ rfl HH.out Tryz.underlying29 rfl (by kernel_rfl)) rfl ?_
     exact HN.out
 ·have HNO := hI hn
  clear hn
  have HN := hI (MadeT.no (r := w.heap.size + 1) (R := qcJ l o mv key h) (ok := qeC l o mv key h) B1.out (by omega) (fun hp => HNO.out hp.1.1) (.slice none 0 0) (.slice none 0 0) (.int .i64 0))
  have HH := hI (qaI R1.out (.slice none 0 0) (.slice none 0 0) (.int .i64 0))
  have y0 : w1.cell? ⟨w.heap.size + 1, 0, none⟩ = _ := cRn (R1.out.cell 0) rfl
  have y1 : w1.cell? ⟨w.heap.size + 1, 1, none⟩ = _ := cRn (R1.out.cell 1) rfl
  have y2 : w1.cell? ⟨w.heap.size + 1, 2, none⟩ = _ := cRn (R1.out.cell 2) rfl
  have yf (j) : w1.frozen? ⟨w.heap.size + 1, j, none⟩ = false := R1.out.froz j
  unfold qeS at HN HH
  go_wp2
  refine bodyPost_ret (qgG Tryz.results138 _ _ (w.heap.size + 1) 29 #[.slice none 0 0, .slice none 0 0, .int .i64 0] (0, 0) _ rfl HH.out Tryz.underlying29 rfl (by kernel_rfl)) rfl ?_
  exact HN.out
theorem zcS (w : World) (ty : TypeId) (b : Addr) (ao : Option Addr) (m c : Nat) (nb : List Ce) (hm : nb.length = m) (h0 : 0 < m) (hA : RdJ w ao nb) (hlen : m <= 1048576) :
  ∃ c' w', (Builtin.append_ #[27, 27] ty #[.slice (some b) 0 0, .slice ao m c]).run Tryz.prog w = .ok (.slice (some ⟨w.heap.size, 0, none⟩) m c') w' /\ w'.ownsRow w.heap.size 132 2 (.slice (some ⟨w.heap.size, 0, none⟩) m c') m (ces nb) /\ Below w.heap.size w w' := by
 obtain ⟨i0, hi, hz0, hz1, hz2⟩ := info_parts Tryz.infoCell
 obtain ⟨g, o, rfl, hg, _⟩ := hA 0 (by omega)
 have hAt : ∀ i (h : i < nb.length), cellO w g o i nb[i] := fun i hi => by obtain ⟨b', o', e, _, h⟩ := hA i hi; simp at e; obtain ⟨rfl, rfl⟩ := e; exact h
 have hl : (ces nb).length = m * i0.size := by rw [qaV, hz1, hm]
 have hr := run_append_grow (P := Tryz.prog) w 27 ty 132 i0 (ceV zC) Tryz.underlying27 hi hz0 b 0 0 [] (by simp) (fun j v h => by cases h) ⟨g, o, none⟩ m c (ces nb) hl (fun j v hv => by rw [Addr.add_lit]; exact qqL hAt j v hv) (by omega) (by omega) (by rw [Nat.zero_add, nextslicecap_zero h0, hz2]; omega)
 rw [Nat.zero_add] at hr
 have hge := grownCap_ge w m 0 132
 refine ⟨_, _, hr, ⟨by rw [qaV, hm], .inr ⟨w.heap.size, _, _, rfl, Nat.le_refl _, heap_alloc_new w.drew _, hge, grownCap_le_maxLen w m 0 132 (by unfold maxLen; omega), ?_, ?_⟩⟩, (Below.refl _ _).drew.alloc (Nat.le_refl _) _⟩
 ·have e : (ceV zC).cells.size = 2 := rfl
  simp only [Array.size_append, List.size_toArray, List.length_nil, size_zeroCells, hl, hz1, e, Nat.zero_add]
  generalize grownCap w m 0 132 = G at hge ⊢
  omega
 ·simp only [Array.toList_append, List.nil_append]
  rw [List.take_left' (by rw [qaV, hm])]
theorem zaR (w : World) (ty : TypeId) (b : Addr) (ao : Option Addr) (c : Nat) :
  (Builtin.append_ #[27, 27] ty #[.slice (some b) 0 0, .slice ao 0 c]).run Tryz.prog w = .ok (.slice (some b) 0 0) w := by
 obtain ⟨i0, hi, hz0, hz1, hz2⟩ := info_parts Tryz.infoCell
 cases ao <;> simp [Builtin.append_, run_underlying Tryz.underlying27, sizeOf, typeInfo, hi, Builtin.lenOf, Builtin.firstCells, loadCells, loadCellsFrom, storeCells]
theorem qnQ {ops : Array Oper} {o : Oper} {a : Act} {w : World} {K : Act -> World -> Prop} {Q : Exit -> Act -> World -> Prop} {E : Prop} (hgd : o.guard = none) (s x : Operand)
  (ho : o.op = .call { callee := .builtin .append, args := #[s, x], argTypes := #[27, 27] }) (b : Addr) (ao : Option Addr) (m c : Nat) (nb : List Ce)
  (hs : a.eval s = .slice (some b) 0 0) (hx : a.eval x = .slice ao m c) (hm : nb.length = m) (h0 : 0 < m) (hA : RdJ w ao nb) (hlen : m <= 1048576)
  (h : ∀ b' c' w', w.heap.size <= b' -> w'.ownsRow w.heap.size 132 2 (.slice (some ⟨b', 0, none⟩) m c') m (ces nb) -> Below w.heap.size w w' -> K (a.put o.dst (.slice (some ⟨b', 0, none⟩) m c')) w') :
  if Region.wanted o (yielded ops a.tmps) = true then Oper.wp Tryz.prog o a w K Q else E := by
 have hw : Region.wanted o (yielded ops a.tmps) = true := by simp [Region.wanted, hgd]
 rw [if_pos hw]
 obtain ⟨c', w', hrun, h1, h2⟩ := zcS w o.type b ao m c nb hm h0 hA hlen
 unfold Oper.wp
 simp only [execOp, ho, resolve, invoke, builtin, Sem.run_bind, Sem.run_pure, Result.andThen_ok, List.map_toArray, List.map_cons, List.map_nil, hs, hx, hrun]
 exact h _ c' w' (Nat.le_refl _) h1 h2
theorem qwY {ops : Array Oper} {o : Oper} {a : Act} {w : World} {K : Act -> World -> Prop} {Q : Exit -> Act -> World -> Prop} {E : Prop} (hgd : o.guard = none) (s x : Operand)
  (ho : o.op = .call { callee := .builtin .append, args := #[s, x], argTypes := #[27, 27] }) (b : Addr) (ao : Option Addr) (c : Nat)
  (hs : a.eval s = .slice (some b) 0 0) (hx : a.eval x = .slice ao 0 c)
  (h : K (a.put o.dst (.slice (some b) 0 0)) w) :
  if Region.wanted o (yielded ops a.tmps) = true then Oper.wp Tryz.prog o a w K Q else E := by
 have hw : Region.wanted o (yielded ops a.tmps) = true := by simp [Region.wanted, hgd]
 rw [if_pos hw]
 have hrun := zaR w o.type b ao c
 unfold Oper.wp
 simp only [execOp, ho, resolve, invoke, builtin, Sem.run_bind, Sem.run_pure, Result.andThen_ok, List.map_toArray, List.map_cons, List.map_nil, hs, hx, hrun]
 exact h
theorem qmI (ao a' : Option Addr) (l o : List Ce) (ca ca' : Nat) (mv : Int) (w : World) (hl : l.length <= 1048576) (hl' : o.length <= 1048576) (h0 : 0 < l.length) (h0' : 0 < o.length) (hA : RdJ w ao l) (hA' : RdJ w a' o) :
  Calls Tryz.prog 85 #[tbV ao l.length ca a' o.length ca' mv] w fun e w' => ∃ v, e = .returned v /\ qtS w w' v l o mv := by
 have F0 := hI (qsG w #[.slice ao l.length ca, .slice a' o.length ca', .int .i64 mv] #[.slice none 0 0, .slice none 0 0, .int .i64 0] 29)
 have HA := hI hA
 have HA' := hI hA'
 clear hA hA'
 unfold tbV
 go_enter Tryz.func85, Tryz.ntmps85
 go_wp2_with fail
 generalize ((w.alloc (.cells #[.slice ao l.length ca, .slice a' o.length ca', .int .i64 mv] 29)).alloc (.cells #[.slice none 0 0, .slice none 0 0, .int .i64 0] 29)) = w0 at F0 ⊢
 obtain ⟨K0, R0, B0⟩ := F0.out
 have x0 : w0.cell? ⟨w.heap.size, 0, none⟩ = _ := cRn (K0.cell 0) rfl
 have x1 : w0.cell? ⟨w.heap.size, 1, none⟩ = _ := cRn (K0.cell 1) rfl
 have x2 : w0.cell? ⟨w.heap.size, 2, none⟩ = _ := cRn (K0.cell 2) rfl
 have X := hI (And.intro x0 (And.intro x1 x2))
 have hs0 : w.heap.size < w0.heap.size := K0.lt
 have hs1 : w.heap.size + 1 < w0.heap.size := R0.lt
 have R0 := hI R0
 have B0 := hI B0
 have A0 := hI (HA.out.later B0.out)
 have A0' := hI (HA'.out.later B0.out)
 clear F0 K0
 go_region_held3 (fun w' => w'.cell? ⟨w.heap.size, 0, none⟩ = some (.slice ao l.length ca) /\ w'.cell? ⟨w.heap.size, 1, none⟩ = some (.slice a' o.length ca') /\ w'.cell? ⟨w.heap.size, 2, none⟩ = some (.int .i64 mv)) (first | go_keep | exact ⟨(DL.out.cell hs0).trans X.out.1, (DL.out.cell hs0).trans X.out.2.1, (DL.out.cell hs0).trans X.out.2.2⟩ | exact ⟨(D1.out.cell hs0).trans X.out.1, (D1.out.cell hs0).trans X.out.2.1, (D1.out.cell hs0).trans X.out.2.2⟩) ((first | (refine qnQ rfl (.tmp 7) (.tmp 9) rfl _ a' o.length ca' o rfl rfl rfl h0' (A0'.out.later (D1.out.trans ((show Below w1.heap.size w1 _ by go_grown).mono D1.out.size))) (by omega) ?_; intro b2 c2 w2 hbb ho2 hb2; have E2 : Hid (Below w1.heap.size w1 w2) := (show Below w1.heap.size w1 _ by go_grown).trans (hb2.mono (by go_size)); have DL : Hid (Below w0.heap.size w0 w2) := D1.out.trans (E2.out.mono D1.out.size); have O2 : Hid (w2.ownsRow w1.heap.size 132 2 (.slice (some ⟨b2, 0, none⟩) o.length c2) o.length (ces o)) := qaB ho2 (by go_size); clear ho2 hb2; have r4 := R0.out.below DL.out hs1; have y0 : w2.cell? ⟨w.heap.size + 1, 0, none⟩ = some (.slice none 0 0) := r4.cell 0; have y1 : w2.cell? ⟨w.heap.size + 1, 1, none⟩ = some (.slice none 0 0) := r4.cell 1; have y2 : w2.cell? ⟨w.heap.size + 1, 2, none⟩ = some (.int .i64 0) := r4.cell 2; have yf : ∀ j, w2.frozen? ⟨w.heap.size + 1, j, none⟩ = false := fun j => r4.froz j; have R4 := hI r4; clear r4) | (refine qnQ rfl (.tmp 3) (.tmp 5) rfl _ ao l.length ca l rfl rfl rfl h0 (A0.out.later (by go_grown)) (by omega) ?_; intro b1 c1 w1 hbb ho1 hb1; have D1 : Hid (Below w0.heap.size w0 w1) := (show Below w0.heap.size w0 _ by go_grown).trans (hb1.mono (by go_size)); have O1 : Hid (w1.ownsRow w0.heap.size 132 2 (.slice (some ⟨b1, 0, none⟩) l.length c1) l.length (ces l)) := qaB ho1 (by go_size); clear ho1 hb1)))
 all_goals go_wp2
 all_goals
  have hh : Blk (qeS w2 (w.heap.size + 1) (.slice (some ⟨b1, 0, none⟩) l.length c1) (.slice (some ⟨b2, 0, none⟩) o.length c2) (.int .i64 mv)) (w.heap.size + 1) 29 [.slice (some ⟨b1, 0, none⟩) l.length c1, .slice (some ⟨b2, 0, none⟩) o.length c2, .int .i64 mv] := qaI R4.out _ _ _
  have l1 := O1.out.lt b1 rfl
  have l2 := O2.out.lt b2 rfl
  have d1 := D1.out.size
  have f0 := B0.out.size
  refine bodyPost_ret (results_cell_row Tryz.results85 _ _ (w.heap.size + 1) 29 #[.slice (some ⟨b1, 0, none⟩) l.length c1, .slice (some ⟨b2, 0, none⟩) o.length c2, .int .i64 mv] (0, 0) _ rfl hh Tryz.underlying29 rfl (by kernel_rfl)) rfl ?_
  refine ⟨_, rfl, b1, c1, b2, c2, rfl, qaB (qeK (qaE O1.out E2.out) (fun k hk => ?_) _ _ _) f0, qaB (qeK O2.out (fun k hk => ?_) _ _ _) (by omega), by omega, qeW (B0.out.trans (DL.out.mono f0)) (by omega) _ _ _⟩
  ·have ek : b1 = k := Option.some.inj hk
   omega
  ·have ek : b2 = k := Option.some.inj hk
   omega
theorem qwL (w : World) (o1 o2 : Obj) : ((w.alloc o1).alloc o2).heap[w.heap.size + 1]? = some o2 := by
 have := heap_alloc_new (w.alloc o1) o2
 rw [World.size_alloc] at this
 exact this
theorem qzF {w : World} {B base : Nat} (h : w.heap[B]? = some (.cells #[] 132 (0, 0))) (hb : base <= B) : w.ownsRow base 132 2 (.slice (some ⟨B, 0, none⟩) 0 0) 0 (ces []) :=
 ⟨rfl, .inr ⟨B, 0, #[], rfl, hb, h, Nat.le_refl _, Nat.zero_le _, rfl, rfl⟩⟩
theorem zaX {w : World} {b1 c1 B2 base n : Nat} {xs : List Value} (O1 : w.ownsRow base 132 2 (.slice (some ⟨b1, 0, none⟩) n c1) n xs) (h0 : 0 < n) (hE : w.heap[B2]? = some (.cells #[] 132 (0, 0))) : b1 ≠ B2 := by
 rintro rfl
 rcases O1.2 with ⟨hv, _⟩ | ⟨g, cap, cur, hv, _, hh, h1, _, h3, _⟩
 ·cases hv
 ·injection hv with e1 e2 e3
  injection e1 with e1
  injection e1 with e1
  subst e1 e3
  rw [hE] at hh
  injection hh with hh
  injection hh with hh
  subst hh
  simp at h3
  omega
theorem qiR {w W : World} {b1 c1 B2 r : Nat} {l : List Ce} {mv : Int} (hB : Below w.heap.size w W) (hr : w.heap.size <= r) (O1 : W.ownsRow w.heap.size 132 2 (.slice (some ⟨b1, 0, none⟩) l.length c1) l.length (ces l)) (hE : W.heap[B2]? = some (.cells #[] 132 (0, 0))) (h1 : b1 ≠ B2) (r1 : b1 ≠ r) (r2 : B2 ≠ r) (hb : w.heap.size <= B2) (x y z : Value) :
  qtS w (qeS W r x y z) (tbV (some ⟨b1, 0, none⟩) l.length c1 (some ⟨B2, 0, none⟩) 0 0 mv) l [] mv :=
 ⟨b1, c1, B2, 0, rfl, qeK O1 (fun k hk => by rw [<- Option.some.inj hk]; exact r1) x y z, qeK (qzF hE hb) (fun k hk => by rw [<- Option.some.inj hk]; exact r2) x y z, h1, qeW hB hr x y z⟩
theorem qmJ (ao a' : Option Addr) (l : List Ce) (ca ca' : Nat) (mv : Int) (w : World) (hl : l.length <= 1048576) (h0 : 0 < l.length) (hA : RdJ w ao l) :
  Calls Tryz.prog 85 #[tbV ao l.length ca a' 0 ca' mv] w fun e w' => ∃ v, e = .returned v /\ qtS w w' v l [] mv := by
 have F0 := hI (qsG w #[.slice ao l.length ca, .slice a' 0 ca', .int .i64 mv] #[.slice none 0 0, .slice none 0 0, .int .i64 0] 29)
 have HA := hI hA
 clear hA
 unfold tbV
 go_enter Tryz.func85, Tryz.ntmps85
 go_wp2_with fail
 generalize ((w.alloc (.cells #[.slice ao l.length ca, .slice a' 0 ca', .int .i64 mv] 29)).alloc (.cells #[.slice none 0 0, .slice none 0 0, .int .i64 0] 29)) = w0 at F0 ⊢
 obtain ⟨K0, R0, B0⟩ := F0.out
 have x0 : w0.cell? ⟨w.heap.size, 0, none⟩ = _ := cRn (K0.cell 0) rfl
 have x1 : w0.cell? ⟨w.heap.size, 1, none⟩ = _ := cRn (K0.cell 1) rfl
 have x2 : w0.cell? ⟨w.heap.size, 2, none⟩ = _ := cRn (K0.cell 2) rfl
 have X := hI (And.intro x0 (And.intro x1 x2))
 have hs0 : w.heap.size < w0.heap.size := K0.lt
 have hs1 : w.heap.size + 1 < w0.heap.size := R0.lt
 have R0 := hI R0
 have B0 := hI B0
 have A0 := hI (HA.out.later B0.out)
 clear F0 K0
 go_region_held3 (fun w' => w'.cell? ⟨w.heap.size, 0, none⟩ = some (.slice ao l.length ca) /\ w'.cell? ⟨w.heap.size, 1, none⟩ = some (.slice a' 0 ca') /\ w'.cell? ⟨w.heap.size, 2, none⟩ = some (.int .i64 mv)) (first | go_keep | exact ⟨(D1.out.cell hs0).trans X.out.1, (D1.out.cell hs0).trans X.out.2.1, (D1.out.cell hs0).trans X.out.2.2⟩) ((first | (have DX := D1.out; refine qwY rfl (.tmp 7) (.tmp 9) rfl _ a' ca' rfl rfl ?_; clear DX; have r5 := Blk.more R4.out (.cells #[] 132); have u0 : (w1.alloc (.cells #[] 132)).cell? ⟨w.heap.size + 1, 0, none⟩ = some (.slice none 0 0) := r5.cell 0; have u1 : (w1.alloc (.cells #[] 132)).cell? ⟨w.heap.size + 1, 1, none⟩ = some (.slice none 0 0) := r5.cell 1; have u2 : (w1.alloc (.cells #[] 132)).cell? ⟨w.heap.size + 1, 2, none⟩ = some (.int .i64 0) := r5.cell 2; have uf : ∀ j, (w1.alloc (.cells #[] 132)).frozen? ⟨w.heap.size + 1, j, none⟩ = false := fun j => r5.froz j; have R5 := hI r5; clear r5) | (refine qnQ rfl (.tmp 3) (.tmp 5) rfl _ ao l.length ca l rfl rfl rfl h0 (A0.out.later (by go_grown)) (by omega) ?_; intro b1 c1 w1 hbb ho1 hb1; have D1 : Hid (Below w0.heap.size w0 w1) := (show Below w0.heap.size w0 _ by go_grown).trans (hb1.mono (by go_size)); have O1 : Hid (w1.ownsRow w0.heap.size 132 2 (.slice (some ⟨b1, 0, none⟩) l.length c1) l.length (ces l)) := qaB ho1 (by go_size); (try have N1 : Hid (w1.heap[w0.heap.size + 1]? = some (.cells #[] 132 (0, 0))) := (hb1.block _ (by go_size)).trans (qwL w0 _ _)); (try have N0 : Hid (w1.heap[w0.heap.size]? = some (.cells #[] 132 (0, 0))) := (hb1.block _ (by go_size)).trans ((Below.heap_alloc _ _ _ (by rw [World.size_alloc]; omega)).trans (heap_alloc_new w0 _))); clear ho1 hb1; have r4 := R0.out.below D1.out hs1; have y0 : w1.cell? ⟨w.heap.size + 1, 0, none⟩ = some (.slice none 0 0) := r4.cell 0; have y1 : w1.cell? ⟨w.heap.size + 1, 1, none⟩ = some (.slice none 0 0) := r4.cell 1; have y2 : w1.cell? ⟨w.heap.size + 1, 2, none⟩ = some (.int .i64 0) := r4.cell 2; have yf : ∀ j, w1.frozen? ⟨w.heap.size + 1, j, none⟩ = false := fun j => r4.froz j; have R4 := hI r4; clear r4)))
 all_goals go_wp2
 all_goals
  have l1 := O1.out.lt b1 rfl
  have d1 := D1.out.size
  have f0 := B0.out.size
  have BF := B0.out.trans (D1.out.mono f0)
  have OB := qaB O1.out f0
 ·have hh := qaI R5.out (.slice (some ⟨b1, 0, none⟩) l.length c1) (.slice (some ⟨w1.heap.size, 0, none⟩) 0 0) (.int .i64 mv)
  refine bodyPost_ret (results_cell_row Tryz.results85 _ _ (w.heap.size + 1) 29 #[.slice (some ⟨b1, 0, none⟩) l.length c1, .slice (some ⟨w1.heap.size, 0, none⟩) 0 0, .int .i64 mv] (0, 0) _ rfl hh Tryz.underlying29 rfl (by kernel_rfl)) rfl ?_
  exact ⟨_, rfl, qiR (BF.alloc (by omega) _) (by omega) (OB.alloc _) (heap_alloc_new w1 _) (by omega) (by omega) (by omega) (by omega) _ _ _⟩
 ·have hh := qaI R4.out (.slice (some ⟨b1, 0, none⟩) l.length c1) (.slice (some ⟨w0.heap.size + 1, 0, none⟩) 0 0) (.int .i64 mv)
  refine bodyPost_ret (results_cell_row Tryz.results85 _ _ (w.heap.size + 1) 29 #[.slice (some ⟨b1, 0, none⟩) l.length c1, .slice (some ⟨w0.heap.size + 1, 0, none⟩) 0 0, .int .i64 mv] (0, 0) _ rfl hh Tryz.underlying29 rfl (by kernel_rfl)) rfl ?_
  exact ⟨_, rfl, qiR BF (by omega) OB N1.out (zaX OB h0 N1.out) (by omega) (by omega) (by omega) _ _ _⟩
 ·have hh := qaI R4.out (.slice (some ⟨b1, 0, none⟩) l.length c1) (.slice (some ⟨w0.heap.size, 0, none⟩) 0 0) (.int .i64 mv)
  refine bodyPost_ret (results_cell_row Tryz.results85 _ _ (w.heap.size + 1) 29 #[.slice (some ⟨b1, 0, none⟩) l.length c1, .slice (some ⟨w0.heap.size, 0, none⟩) 0 0, .int .i64 mv] (0, 0) _ rfl hh Tryz.underlying29 rfl (by kernel_rfl)) rfl ?_
  exact ⟨_, rfl, qiR BF (by omega) OB N0.out (zaX OB h0 N0.out) (by omega) (by omega) (by omega) _ _ _⟩
theorem qfF (ao a' : Option Addr) (l o : List Ce) (ca ca' : Nat) (mv : Int) (w : World) (hl : l.length <= 1048576) (hl' : o.length <= 1048576) (h0 : 0 < l.length) (hA : RdJ w ao l) (hA' : RdJ w a' o) :
  Calls Tryz.prog 85 #[tbV ao l.length ca a' o.length ca' mv] w fun e w' => ∃ v, e = .returned v /\ qtS w w' v l o mv := by
 by_cases h : o.length = 0
 ·have e : o = [] := List.eq_nil_of_length_eq_zero h
  subst e
  exact qmJ ao a' l ca ca' mv w hl h0 hA
 ·exact qmI ao a' l o ca ca' mv w hl hl' h0 (by omega) hA hA'
end Go.Proofs.YtigpjmmfelndkaaGreatDoor
