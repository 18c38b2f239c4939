/- What the program answers: a key put, a table that begins to grow. -/
import Derived.Test.YtahglnojllkjdaaTabAA
namespace Go.Proofs.Ytahglnojllkjdaa
open Go.RowKit

theorem srchD_key {l : List Ce} {key : ByteArray} {p : Nat} : ∀ (d i : Nat) (f : Option Nat) (k : Nat), (srchD l key p i d f).1 = some k → ∃ x, l[k]? = some x ∧ x.key.toList = key.toList
  | 0, _, _, _, h => by cases h
  | d + 1, i, f, k, h => by
    rw [srchD] at h
    split at h
    · cases h
    · rename_i x hx
      split at h
      · rename_i hc
        injection h with h
        rw [← h]
        exact ⟨x, hx, hc.2⟩
      · split at h
        · cases h
        · exact srchD_key d (i + 1) _ k h
theorem srchC_key {l : List Ce} {key : ByteArray} {k : Nat} (h : (srchC l key).1 = some k) (hk : k < l.length) : l[k].key = key := by
  obtain ⟨x, hx, e⟩ := srchD_key _ _ _ _ h
  rw [List.getElem?_eq_getElem hk] at hx
  rw [Option.some.inj hx]
  exact bytes_eq e
/-- The old cells without a key. -/
def goneO (o : List Ce) (key : ByteArray) : List Ce :=
  match seekC o key with
  | some k => o.set k gC
  | none => o
theorem goneO_length (o : List Ce) (key : ByteArray) : (goneO o key).length = o.length := by
  unfold goneO
  split
  · rw [List.length_set]
  · rfl
/-- What is there when a key is put. -/
def putR (l o : List Ce) (mv : Int) (key : ByteArray) (h : Int) : Option (List Ce × List Ce × Int) :=
  match seekC l key with
  | some k => some (l.set k ⟨key, h⟩, o, mv)
  | none => match putC l key h with
    | some l' => some (l', goneO o key, mv)
    | none => none
def putOk (l o : List Ce) (mv : Int) (key : ByteArray) (h : Int) : Prop := OkT l o mv ∧ 1 ≤ key.size ∧ key.size ≤ 12 ∧ 0 ≤ h

set_option maxRecDepth 100000 in
set_option maxHeartbeats 4000000 in
theorem implPut_any (ao a' : Option Addr) (l o : List Ce) (ca ca' : Nat) (mv : Int) (key : ByteArray) (h : Int) (w : World) (hl : l.length ≤ 1048576) (hl' : o.length ≤ 1048576) (hk : key.size ≤ 1048576) (hA : RdJ w ao l) (hA' : RdJ w a' o) :
    Calls Try.prog 27 #[tbV ao l.length ca a' o.length ca' mv, .string key, .int .i64 h] w fun e w' => MadeT w w' e (putOk l o mv key h) (putR l o mv key h) := by
  have CK := hide1 (fun w => keyFits_any key w)
  have CB := hide1 (fun w' (hb : Below w.heap.size w w') => boardOf_any ao a' l o ca ca' mv w' hl hl' (hA.later hb) (hA'.later hb))
  have F0 := hide1 (boxes w #[.slice ao l.length ca, .slice a' o.length ca', .int .i64 mv] #[.slice none 0 0, .slice none 0 0, .int .i64 0] 26)
  clear hA hA'
  unfold tbV at CB ⊢
  go_enter Try.func27, Try.ntmps27
  go_wp2_with fail
  generalize ((w.alloc (.cells #[.slice ao l.length ca, .slice a' o.length ca', .int .i64 mv] 26)).alloc (.cells #[.slice none 0 0, .slice none 0 0, .int .i64 0] 26)) = w0 at F0 ⊢
  obtain ⟨K0, R0, B0⟩ := F0.out
  have R0 := hide1 R0
  have B0 := hide1 B0
  clear F0 K0
  refine (CB.out w0 B0.out).mono ?_
  rintro e w1 ⟨hr, hb1⟩
  have R1 := hide1 (R0.out.below hb1 R0.out.lt)
  have B1 := hide1 (B0.out.trans (hb1.mono B0.out.size))
  have S1 := hide1 hb1.size
  have HRS := hide1 R0.out.lt
  clear hb1 CB R0
  have hrs : w.heap.size + 1 < w0.heap.size := HRS.out
  rcases hr with ⟨b, g, m, rfl, hm, hok, hbr⟩ | ⟨v, rfl, hn⟩
  · subst hm
    have HOK := hide1 hok
    have HF := hide1 hok.fit
    have HLN := hide1 hok.len
    have D1 := hide1 hbr
    clear hok hbr
    go_wp2_with fail
    refine (CK.out w1).mono ?_
    rintro e w2 ⟨rfl, hw2⟩
    rw [hw2]
    clear hw2 w2
    cases hky : keyOk key with
    | false =>
      have HK := hide1 hky
      clear hky
      have HNP := hide1 (show ¬ putOk l o (m : Int) key h from fun hp => by have := (keyOk_iff key).2 ⟨hp.2.1, hp.2.2.1⟩; rw [HK.out] at this; cases this)
      have HN := hide1 (MadeT.no (r := w.heap.size + 1) (R := putR l o (m : Int) key h) (ok := putOk l o (m : Int) key h) B1.out (by omega) (fun hp => HNP.out hp.1) (.slice none 0 0) (.slice none 0 0) (.int .i64 0))
      have HH := hide1 (put3_blk R1.out (.slice none 0 0) (.slice none 0 0) (.int .i64 0))
      have y0 : w1.cell? ⟨w.heap.size + 1, 0, none⟩ = some (.slice none 0 0) := R1.out.cell 0
      have y1 : w1.cell? ⟨w.heap.size + 1, 1, none⟩ = some (.slice none 0 0) := R1.out.cell 1
      have y2 : w1.cell? ⟨w.heap.size + 1, 2, none⟩ = some (.int .i64 0) := R1.out.cell 2
      have yf : ∀ j, w1.frozen? ⟨w.heap.size + 1, j, none⟩ = false := fun j => R1.out.froz j
      unfold put3 at HN HH
      go_wp2
      refine bodyPost_ret (res2 Try.results27 _ _ (w.heap.size + 1) 26 #[.slice none 0 0, .slice none 0 0, .int .i64 0] (0, 0) _ rfl HH.out Try.underlying26 rfl (by kernel_rfl)) rfl ?_
      exact HN.out
    | true =>
      have HK := hide1 ((keyOk_iff key).1 hky)
      have hne := keyOk_ne hky
      have HNE := hide1 hne
      clear hky hne
      by_cases ch : h < 0
      · have qh : decide (h < 0) = true := decide_eq_true ch
        have HNP := hide1 (show ¬ putOk l o (m : Int) key h from fun hp => by have := hp.2.2.2; omega)
        clear ch
        have HN := hide1 (MadeT.no (r := w.heap.size + 1) (R := putR l o (m : Int) key h) (ok := putOk l o (m : Int) key h) B1.out (by omega) (fun hp => HNP.out hp.1) (.slice none 0 0) (.slice none 0 0) (.int .i64 0))
        have HH := hide1 (put3_blk R1.out (.slice none 0 0) (.slice none 0 0) (.int .i64 0))
        have y0 : w1.cell? ⟨w.heap.size + 1, 0, none⟩ = some (.slice none 0 0) := R1.out.cell 0
        have y1 : w1.cell? ⟨w.heap.size + 1, 1, none⟩ = some (.slice none 0 0) := R1.out.cell 1
        have y2 : w1.cell? ⟨w.heap.size + 1, 2, none⟩ = some (.int .i64 0) := R1.out.cell 2
        have yf : ∀ j, w1.frozen? ⟨w.heap.size + 1, j, none⟩ = false := fun j => R1.out.froz j
        unfold put3 at HN HH
        go_wp2
        refine bodyPost_ret (res2 Try.results27 _ _ (w.heap.size + 1) 26 #[.slice none 0 0, .slice none 0 0, .int .i64 0] (0, 0) _ rfl HH.out Try.underlying26 rfl (by kernel_rfl)) rfl ?_
        exact HN.out
      · have qh : decide (h < 0) = false := decide_eq_false ch
        have HP := hide1 (show putOk l o (m : Int) key h from ⟨HOK.out, HK.out.1, HK.out.2, by omega⟩)
        have x0 : w1.cell? ⟨b, 0, none⟩ = some (.slice (some ⟨g, 0, none⟩) l.length l.length) := D1.out.hd.cell 0
        have CP := hide1 (placeOf_any (some ⟨g, 0, none⟩) l l.length key w1 hl hk D1.out.cells)
        clear ch
        go_wp2_with fail
        refine CP.out.mono ?_
        rintro e w2 ⟨rfl, hb2⟩
        have D2 := hide1 (D1.out.later hb2)
        have R2 := hide1 (R1.out.below hb2 R1.out.lt)
        have B2 := hide1 (B1.out.trans (hb2.mono B1.out.size))
        have S2 := hide1 (Nat.le_trans S1.out hb2.size)
        clear hb2 CP x0 D1 R1
        rcases hs : (srchC l key).1 with _ | k
        · have HS := hide1 hs
          have CL := hide1 (lay_any D2.out ⟨key, h⟩ S2.out hl HLN.out.2.2 hk)
          unfold ceV at CL
          simp only at CL
          have HLP := hide1 (layC_put HF.out.1 hs h)
          have HSK := hide1 (show seekC l key = none by rw [← srchC_seek HF.out.1 HNE.out, hs])
          unfold optI
          clear hs
          go_wp2_with fail
          refine CL.out.mono ?_
          rintro e w3 ⟨hr, hb3⟩
          have R3 := hide1 (R2.out.below hb3 hrs)
          have B3 := hide1 (B2.out.trans (hb3.mono B0.out.size))
          have S3 := hide1 (Nat.le_trans S2.out hb3.size)
          clear hb3 CL R2
          rcases hr with ⟨l', hlay, rfl, hbr⟩ | ⟨hlay, rfl, hbr⟩
          · have hll : l'.length = l.length := layC_length hlay
            have HPT := hide1 (show putC l key h = some l' by rw [← HLP.out]; exact hlay)
            have D3 := hide1 hbr
            have CO := hide1 (takeOld_any hbr key S3.out hl' hk)
            have x1 : w3.cell? ⟨b, 1, none⟩ = some (.slice (oldP g l'.length o.length) o.length o.length) := hbr.hd.cell 1
            generalize hop : oldP g l'.length o.length = op at *
            clear hbr hlay hop
            go_wp2_with fail
            refine CO.out.mono ?_
            rintro e w4 ⟨hr, hb4⟩
            have R4 := hide1 (R3.out.below hb4 hrs)
            have B4 := hide1 (B3.out.trans (hb4.mono B0.out.size))
            clear hb4 CO x1 R3
            have hl2 : l'.length ≤ 1048576 := by omega
            rcases hr with ⟨k, hs, rfl, hbr⟩ | ⟨hs, rfl, hbr⟩
            · have HVAL := hide1 (show putR l o (m : Int) key h = some (l', o.set k gC, (m : Int)) by
                rw [putR, HSK.out]
                simp only []
                rw [HPT.out]
                simp only [goneO]
                rw [← srchC_seek HF.out.2 HNE.out, hs])
              have hl3 : (o.set k gC).length ≤ 1048576 := by rw [List.length_set]; exact hl'
              have D4 := hide1 hbr
              clear hs hbr hll
              have CT := hide1 (table_any (some ⟨g, 0, none⟩) (oldP g (l').length (o.set k gC).length) (l') (o.set k gC) _ _ _ D4.out.hd (hl2) (hl3) D4.out.cells D4.out.olds)
              have hrr : w.heap.size + 1 < w4.heap.size := R4.out.lt
              go_wp2_with fail
              refine CT.out.mono ?_
              rintro e w5 ⟨v, rfl, b3, c3, b4, c4, rfl, ho3, ho4, hne, hb3⟩
              have R9 := hide1 (R4.out.below hb3 R4.out.lt)
              have HN := hide1 (MadeT.yes (r := w.heap.size + 1) (ok := putOk l o (m : Int) key h) (R := putR l o (m : Int) key h) B4.out (by omega) hrr ho3 ho4 hne hb3 (HP.out) (HVAL.out) (.slice (some ⟨b3, 0, none⟩) (l').length c3) (.slice (some ⟨b4, 0, none⟩) (o.set k gC).length c4) (.int .i64 ((m : Int))))
              have HH := hide1 (put3_blk R9.out (.slice (some ⟨b3, 0, none⟩) (l').length c3) (.slice (some ⟨b4, 0, none⟩) (o.set k gC).length c4) (.int .i64 ((m : Int))))
              have y0 : w5.cell? ⟨w.heap.size + 1, 0, none⟩ = some (.slice none 0 0) := R9.out.cell 0
              have y1 : w5.cell? ⟨w.heap.size + 1, 1, none⟩ = some (.slice none 0 0) := R9.out.cell 1
              have y2 : w5.cell? ⟨w.heap.size + 1, 2, none⟩ = some (.int .i64 0) := R9.out.cell 2
              have yf : ∀ j, w5.frozen? ⟨w.heap.size + 1, j, none⟩ = false := fun j => R9.out.froz j
              unfold put3 at HN HH
              unfold tbV
              generalize (l').length = nL at *
              generalize (o.set k gC).length = nO at *
              clear ho3 ho4 hb3 CT
              go_wp2
              refine bodyPost_ret (res2 Try.results27 _ _ (w.heap.size + 1) 26 #[.slice (some ⟨b3, 0, none⟩) nL c3, .slice (some ⟨b4, 0, none⟩) nO c4, .int .i64 ((m : Int))] (0, 0) _ rfl HH.out Try.underlying26 rfl (by kernel_rfl)) rfl ?_
              exact HN.out
            · have HVAL := hide1 (show putR l o (m : Int) key h = some (l', o, (m : Int)) by
                rw [putR, HSK.out]
                simp only []
                rw [HPT.out]
                simp only [goneO]
                rw [← srchC_seek HF.out.2 HNE.out, hs])
              have D4 := hide1 hbr
              clear hs hbr hll
              have CT := hide1 (table_any (some ⟨g, 0, none⟩) (oldP g (l').length (o).length) (l') (o) _ _ _ D4.out.hd (hl2) (hl') D4.out.cells D4.out.olds)
              have hrr : w.heap.size + 1 < w4.heap.size := R4.out.lt
              go_wp2_with fail
              refine CT.out.mono ?_
              rintro e w5 ⟨v, rfl, b3, c3, b4, c4, rfl, ho3, ho4, hne, hb3⟩
              have R9 := hide1 (R4.out.below hb3 R4.out.lt)
              have HN := hide1 (MadeT.yes (r := w.heap.size + 1) (ok := putOk l o (m : Int) key h) (R := putR l o (m : Int) key h) B4.out (by omega) hrr ho3 ho4 hne hb3 (HP.out) (HVAL.out) (.slice (some ⟨b3, 0, none⟩) (l').length c3) (.slice (some ⟨b4, 0, none⟩) (o).length c4) (.int .i64 ((m : Int))))
              have HH := hide1 (put3_blk R9.out (.slice (some ⟨b3, 0, none⟩) (l').length c3) (.slice (some ⟨b4, 0, none⟩) (o).length c4) (.int .i64 ((m : Int))))
              have y0 : w5.cell? ⟨w.heap.size + 1, 0, none⟩ = some (.slice none 0 0) := R9.out.cell 0
              have y1 : w5.cell? ⟨w.heap.size + 1, 1, none⟩ = some (.slice none 0 0) := R9.out.cell 1
              have y2 : w5.cell? ⟨w.heap.size + 1, 2, none⟩ = some (.int .i64 0) := R9.out.cell 2
              have yf : ∀ j, w5.frozen? ⟨w.heap.size + 1, j, none⟩ = false := fun j => R9.out.froz j
              unfold put3 at HN HH
              unfold tbV
              generalize (l').length = nL at *
              generalize (o).length = nO at *
              clear ho3 ho4 hb3 CT
              go_wp2
              refine bodyPost_ret (res2 Try.results27 _ _ (w.heap.size + 1) 26 #[.slice (some ⟨b3, 0, none⟩) nL c3, .slice (some ⟨b4, 0, none⟩) nO c4, .int .i64 ((m : Int))] (0, 0) _ rfl HH.out Try.underlying26 rfl (by kernel_rfl)) rfl ?_
              exact HN.out
          · have HNP := hide1 (show ¬ ∃ x, putR l o (m : Int) key h = some x from fun ⟨x, hx⟩ => by
              rw [putR, HSK.out] at hx
              simp only [] at hx
              rw [← HLP.out, hlay] at hx
              cases hx)
            clear hlay hbr
            have HN := hide1 (MadeT.no (r := w.heap.size + 1) (R := putR l o (m : Int) key h) (ok := putOk l o (m : Int) key h) B3.out (by omega) (fun hp => HNP.out hp.2) (.slice none 0 0) (.slice none 0 0) (.int .i64 0))
            have HH := hide1 (put3_blk R3.out (.slice none 0 0) (.slice none 0 0) (.int .i64 0))
            have y0 : w3.cell? ⟨w.heap.size + 1, 0, none⟩ = some (.slice none 0 0) := R3.out.cell 0
            have y1 : w3.cell? ⟨w.heap.size + 1, 1, none⟩ = some (.slice none 0 0) := R3.out.cell 1
            have y2 : w3.cell? ⟨w.heap.size + 1, 2, none⟩ = some (.int .i64 0) := R3.out.cell 2
            have yf : ∀ j, w3.frozen? ⟨w.heap.size + 1, j, none⟩ = false := fun j => R3.out.froz j
            unfold put3 at HN HH
            go_wp2
            refine bodyPost_ret (res2 Try.results27 _ _ (w.heap.size + 1) 26 #[.slice none 0 0, .slice none 0 0, .int .i64 0] (0, 0) _ rfl HH.out Try.underlying26 rfl (by kernel_rfl)) rfl ?_
            exact HN.out
        · have hkl := srchC_lt hs
          have k1 : (k : Int) < (l.length : Int) := by omega
          have q : ((k : Int) != (-1 : Int)) = true := by simp
          have hkey := srchC_key hs hkl
          have HVAL := hide1 (show putR l o (m : Int) key h = some (l.set k ⟨key, h⟩, o, (m : Int)) by rw [putR, ← srchC_seek HF.out.1 HNE.out, hs])
          have x0 : w2.cell? ⟨b, 0, none⟩ = some (.slice (some ⟨g, 0, none⟩) l.length l.length) := D2.out.hd.cell 0
          have z1 : w2.cell? ⟨g, k * 2 + 1, none⟩ = some (.int .i64 l[k].h) := by have := (Blk.segat (A := []) (L := l) (C := o) (of := 0) D2.out.tl rfl hkl).2; rw [Nat.zero_add] at this; exact this
          have zf := D2.out.tl.froz (k * 2 + 1)
          have D3 := hide1 (D2.out.setH hkl h)
          rw [hkey] at D3
          have R3 : Hid (Blk (w2.setCell ⟨g, k * 2 + 1, none⟩ (.int .i64 h)) (w.heap.size + 1) 26 [.slice none 0 0, .slice none 0 0, .int .i64 0]) := R2.out.far _ _ (by have := D2.out.lg; dsimp only; omega)
          have B3 : Hid (Below w.heap.size w (w2.setCell ⟨g, k * 2 + 1, none⟩ (.int .i64 h))) := B2.out.setCell (p := ⟨g, k * 2 + 1, none⟩) (by have := D2.out.lg; have := B0.out.size; dsimp only; omega) _
          have hl2 : (l.set k ⟨key, h⟩).length ≤ 1048576 := by rw [List.length_set]; exact hl
          generalize l[k].h = xh at *
          unfold optI
          clear hs hkey D2 R2
          go_upto_region 7 with fail
          generalize (w2.setCell ⟨g, k * 2 + 1, none⟩ (.int .i64 h)) = w3 at D3 R3 B3 ⊢
          clear x0 z1 zf
          have CT := hide1 (table_any (some ⟨g, 0, none⟩) (oldP g (l.set k ⟨key, h⟩).length (o).length) (l.set k ⟨key, h⟩) (o) _ _ _ D3.out.hd (hl2) (hl') D3.out.cells D3.out.olds)
          have hrr : w.heap.size + 1 < w3.heap.size := R3.out.lt
          go_wp2_with fail
          refine CT.out.mono ?_
          rintro e w4 ⟨v, rfl, b3, c3, b4, c4, rfl, ho3, ho4, hne, hb3⟩
          have R9 := hide1 (R3.out.below hb3 R3.out.lt)
          have HN := hide1 (MadeT.yes (r := w.heap.size + 1) (ok := putOk l o (m : Int) key h) (R := putR l o (m : Int) key h) B3.out (by omega) hrr ho3 ho4 hne hb3 (HP.out) (HVAL.out) (.slice (some ⟨b3, 0, none⟩) (l.set k ⟨key, h⟩).length c3) (.slice (some ⟨b4, 0, none⟩) (o).length c4) (.int .i64 ((m : Int))))
          have HH := hide1 (put3_blk R9.out (.slice (some ⟨b3, 0, none⟩) (l.set k ⟨key, h⟩).length c3) (.slice (some ⟨b4, 0, none⟩) (o).length c4) (.int .i64 ((m : Int))))
          have y0 : w4.cell? ⟨w.heap.size + 1, 0, none⟩ = some (.slice none 0 0) := R9.out.cell 0
          have y1 : w4.cell? ⟨w.heap.size + 1, 1, none⟩ = some (.slice none 0 0) := R9.out.cell 1
          have y2 : w4.cell? ⟨w.heap.size + 1, 2, none⟩ = some (.int .i64 0) := R9.out.cell 2
          have yf : ∀ j, w4.frozen? ⟨w.heap.size + 1, j, none⟩ = false := fun j => R9.out.froz j
          unfold put3 at HN HH
          unfold tbV
          generalize (l.set k ⟨key, h⟩).length = nL at *
          generalize (o).length = nO at *
          clear ho3 ho4 hb3 CT
          go_wp2
          refine bodyPost_ret (res2 Try.results27 _ _ (w.heap.size + 1) 26 #[.slice (some ⟨b3, 0, none⟩) nL c3, .slice (some ⟨b4, 0, none⟩) nO c4, .int .i64 ((m : Int))] (0, 0) _ rfl HH.out Try.underlying26 rfl (by kernel_rfl)) rfl ?_
          exact HN.out
  · have HNO := hide1 hn
    clear hn
    have HN := hide1 (MadeT.no (r := w.heap.size + 1) (R := putR l o mv key h) (ok := putOk l o mv key h) B1.out (by omega) (fun hp => HNO.out hp.1.1) (.slice none 0 0) (.slice none 0 0) (.int .i64 0))
    have HH := hide1 (put3_blk R1.out (.slice none 0 0) (.slice none 0 0) (.int .i64 0))
    have y0 : w1.cell? ⟨w.heap.size + 1, 0, none⟩ = some (.slice none 0 0) := R1.out.cell 0
    have y1 : w1.cell? ⟨w.heap.size + 1, 1, none⟩ = some (.slice none 0 0) := R1.out.cell 1
    have y2 : w1.cell? ⟨w.heap.size + 1, 2, none⟩ = some (.int .i64 0) := R1.out.cell 2
    have yf : ∀ j, w1.frozen? ⟨w.heap.size + 1, j, none⟩ = false := fun j => R1.out.froz j
    unfold put3 at HN HH
    go_wp2
    refine bodyPost_ret (res2 Try.results27 _ _ (w.heap.size + 1) 26 #[.slice none 0 0, .slice none 0 0, .int .i64 0] (0, 0) _ rfl HH.out Try.underlying26 rfl (by kernel_rfl)) rfl ?_
    exact HN.out

end Go.Proofs.Ytahglnojllkjdaa
