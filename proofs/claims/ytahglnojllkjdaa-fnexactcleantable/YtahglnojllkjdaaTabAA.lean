/- What the program answers: whether a table is right, a key's handle, a key taken. -/
import Derived.Test.YtahglnojllkjdaaTabA
namespace Go.Proofs.Ytahglnojllkjdaa
open Go.RowKit

theorem OkT.fit {l o : List Ce} {mv : Int} (h : OkT l o mv) : FitC l ∧ FitC o := ⟨(ok_iff.1 h.cells.1).1, (ok_iff.1 h.olds.1).1⟩
theorem OkT.len {l o : List Ce} {mv : Int} (h : OkT l o mv) : l.length ≤ 64 ∧ o.length ≤ 64 ∧ 0 < l.length := by
  have := h.size
  have := h.half
  omega

set_option maxRecDepth 100000 in
set_option maxHeartbeats 1000000 in
theorem implTOk_any (ao a' : Option Addr) (l o : List Ce) (ca ca' : Nat) (mv : Int) (w : World) (hl : l.length ≤ 1048576) (hl' : o.length ≤ 1048576) (hA : RdJ w ao l) (hA' : RdJ w a' o) :
    Calls Try.prog 23 #[tbV ao l.length ca a' o.length ca' mv] w fun e w' => ∃ x : Bool, e = .returned (.bool x) ∧ (x = true ↔ OkT l o mv) ∧ Below w.heap.size w w' := by
  have CB := hide1 (fun o1 => boardOf_any ao a' l o ca ca' mv (w.alloc o1) hl hl' (hA.later ((Below.refl _ _).alloc (Nat.le_refl _) _)) (hA'.later ((Below.refl _ _).alloc (Nat.le_refl _) _)))
  have BB := hide1 (fun o1 w1 (h : Below (w.alloc o1).heap.size (w.alloc o1) w1) => ((Below.refl w.heap.size w).alloc (Nat.le_refl _) o1).trans (h.mono (by rw [World.size_alloc]; omega)))
  clear hA hA'
  unfold tbV at CB ⊢
  go_enter Try.func23, Try.ntmps23
  go_wp2_with fail
  refine (CB.out _).mono ?_
  rintro e w1 ⟨⟨b, g, m, rfl, hm, hok, hbr⟩ | ⟨v, rfl, hn⟩, hb1⟩
  · have HY := hide1 hok
    have B1 := hide1 (BB.out _ _ hb1)
    clear hok hbr hb1 hm
    go_wp2
    go_ret
    exact ⟨true, rfl, ⟨(fun _ => HY.out), fun _ => rfl⟩, B1.out⟩
  · have HN := hide1 hn
    have B1 := hide1 (BB.out _ _ hb1)
    clear hn hb1
    go_wp2
    go_ret
    exact ⟨false, rfl, ⟨(fun h => by cases h), fun h => absurd h HN.out⟩, B1.out⟩

set_option maxRecDepth 100000 in
set_option maxHeartbeats 2000000 in
theorem implSeek_any (ao a' : Option Addr) (l o : List Ce) (ca ca' : Nat) (mv : Int) (key : ByteArray) (w : World) (hl : l.length ≤ 1048576) (hl' : o.length ≤ 1048576) (hk : key.size ≤ 1048576) (hA : RdJ w ao l) (hA' : RdJ w a' o) :
    Calls Try.prog 25 #[tbV ao l.length ca a' o.length ca' mv, .string key] w fun e w' => ∃ (h : Int) (t : Bool), e = .returned (.tuple #[.int .i64 h, .bool t]) ∧ SeekA l o mv key h t ∧ Below w.heap.size w w' := by
  have CB := hide1 (fun o1 => boardOf_any ao a' l o ca ca' mv (w.alloc o1) hl hl' (hA.later ((Below.refl _ _).alloc (Nat.le_refl _) _)) (hA'.later ((Below.refl _ _).alloc (Nat.le_refl _) _)))
  have BB := hide1 (fun o1 w1 (h : Below (w.alloc o1).heap.size (w.alloc o1) w1) => ((Below.refl w.heap.size w).alloc (Nat.le_refl _) o1).trans (h.mono (by rw [World.size_alloc]; omega)))
  clear hA hA'
  unfold tbV at CB ⊢
  go_enter Try.func25, Try.ntmps25
  go_wp2_with fail
  refine (CB.out _).mono ?_
  rintro e w1 ⟨⟨b, g, m, rfl, hm, hok, hbr⟩ | ⟨v, rfl, hn⟩, hb1⟩
  · have HOK := hide1 hok
    have HF := hide1 hok.fit
    have B1 := hide1 (BB.out _ _ hb1)
    have D1 := hide1 hbr
    have x0 : w1.cell? ⟨b, 0, none⟩ = some (.slice (some ⟨g, 0, none⟩) l.length l.length) := hbr.hd.cell 0
    have CP := hide1 (placeOf_any (some ⟨g, 0, none⟩) l l.length key w1 hl hk hbr.cells)
    clear hok hbr hb1 hm
    go_wp2_with fail
    refine CP.out.mono ?_
    rintro e w2 ⟨rfl, hb2⟩
    have D2 := hide1 (D1.out.later hb2)
    have B2 := hide1 (B1.out.trans (hb2.mono B1.out.size))
    clear hb2 CP D1 x0
    rcases hs : (srchC l key).1 with _ | k
    · have x1 : w2.cell? ⟨b, 1, none⟩ = some (.slice (oldP g l.length o.length) o.length o.length) := D2.out.hd.cell 1
      have CP := hide1 (placeOf_any (oldP g l.length o.length) o o.length key w2 hl' hk D2.out.olds)
      have HS := hide1 hs
      generalize oldP g l.length o.length = op at *
      unfold optI
      clear hs
      go_wp2_with fail
      refine CP.out.mono ?_
      rintro e w3 ⟨rfl, hb3⟩
      have B3 := hide1 (B2.out.trans (hb3.mono B2.out.size))
      have D3 := hide1 (D2.out.later hb3)
      clear hb3 CP x1
      rcases hs : (srchC o key).1 with _ | k
      · have HN := hide1 (show SeekA l o mv key 0 false from .inr ⟨rfl, rfl, fun h => by
          obtain ⟨x, hx⟩ := h.2.2
          rw [seekT, ← srchC_seek HF.out.1 h.2.1, HS.out] at hx
          simp only [] at hx
          rw [← srchC_seek HF.out.2 h.2.1, hs] at hx
          cases hx⟩)
        unfold optI
        clear hs
        go_wp2
        go_ret2
        exact ⟨0, false, rfl, HN.out, B3.out⟩
      · have hkl := srchC_lt hs
        have k1 : (k : Int) < (o.length : Int) := by omega
        have hne : key.toList ≠ [] := fun e => by rw [srchC_none e] at hs; cases hs
        have HN := hide1 (show SeekA l o mv key o[k].h true from .inl ⟨rfl, HOK.out, hne, by
          rw [seekT, ← srchC_seek HF.out.1 hne, HS.out]
          simp only []
          rw [← srchC_seek HF.out.2 hne, hs]
          simp only []
          rw [List.getElem?_eq_getElem hkl]
          rfl⟩)
        obtain ⟨bb, oo, hop, hbl, hc⟩ := D3.out.olds k hkl
        have x1 : w3.cell? ⟨b, 1, none⟩ = some (.slice (oldP g l.length o.length) o.length o.length) := D3.out.hd.cell 1
        have z1 := hc.2
        rw [hop] at x1
        have q : ((k : Int) != (-1 : Int)) = true := by simp
        generalize o[k].h = hv at *
        unfold optI
        clear hs hne hc hop
        go_wp2
        go_ret2
        exact ⟨hv, true, rfl, HN.out, B3.out⟩
    · have hkl := srchC_lt hs
      have k1 : (k : Int) < (l.length : Int) := by omega
      have hne : key.toList ≠ [] := fun e => by rw [srchC_none e] at hs; cases hs
      have HN := hide1 (show SeekA l o mv key l[k].h true from .inl ⟨rfl, HOK.out, hne, by
        rw [seekT, ← srchC_seek HF.out.1 hne, hs]
        simp only []
        rw [List.getElem?_eq_getElem hkl]
        rfl⟩)
      have x0 : w2.cell? ⟨b, 0, none⟩ = some (.slice (some ⟨g, 0, none⟩) l.length l.length) := D2.out.hd.cell 0
      have z1 : w2.cell? ⟨g, k * 2 + 1, none⟩ = some (.int .i64 l[k].h) := by have := (Blk.segat (A := []) (L := l) (C := o) (of := 0) D2.out.tl rfl hkl).2; rw [Nat.zero_add] at this; exact this
      have q : ((k : Int) != (-1 : Int)) = true := by simp
      generalize l[k].h = hv at *
      unfold optI
      clear hs hne
      go_wp2
      go_ret2
      exact ⟨hv, true, rfl, HN.out, B2.out⟩
  · have HN := hide1 (show SeekA l o mv key 0 false from .inr ⟨rfl, rfl, fun h => hn h.1⟩)
    have B1 := hide1 (BB.out _ _ hb1)
    clear hn hb1
    go_wp2
    go_ret2
    exact ⟨0, false, rfl, HN.out, B1.out⟩

/-- What is left when a key is taken. -/
def takeR (l o : List Ce) (mv : Int) (key : ByteArray) : Option (List Ce × List Ce × Int) :=
  match seekC l key with
  | some k => some (l.set k gC, o, mv)
  | none => match seekC o key with
    | some k => some (l, o.set k gC, mv)
    | none => none

set_option maxRecDepth 100000 in
set_option maxHeartbeats 2000000 in
theorem implTake_any (ao a' : Option Addr) (l o : List Ce) (ca ca' : Nat) (mv : Int) (key : ByteArray) (w : World) (hl : l.length ≤ 1048576) (hl' : o.length ≤ 1048576) (hk : key.size ≤ 1048576) (hA : RdJ w ao l) (hA' : RdJ w a' o) :
    Calls Try.prog 29 #[tbV ao l.length ca a' o.length ca' mv, .string key] w fun e w' => MadeT w w' e (OkT l o mv ∧ key.toList ≠ []) (takeR l o mv key) := by
  have CB := hide1 (fun w' (hb : Below w.heap.size w w') => boardOf_any ao a' l o ca ca' mv w' hl hl' (hA.later hb) (hA'.later hb))
  have F0 := hide1 (boxes w #[.slice ao l.length ca, .slice a' o.length ca', .int .i64 mv] #[.slice none 0 0, .slice none 0 0, .int .i64 0] 26)
  clear hA hA'
  unfold tbV at CB ⊢
  go_enter Try.func29, Try.ntmps29
  go_wp2_with fail
  generalize ((w.alloc (.cells #[.slice ao l.length ca, .slice a' o.length ca', .int .i64 mv] 26)).alloc (.cells #[.slice none 0 0, .slice none 0 0, .int .i64 0] 26)) = w0 at F0 ⊢
  obtain ⟨K0, R0, B0⟩ := F0.out
  have R0 := hide1 R0
  have B0 := hide1 B0
  clear F0 K0
  refine (CB.out w0 B0.out).mono ?_
  rintro e w1 ⟨hr, hb1⟩
  have R1 := hide1 (R0.out.below hb1 R0.out.lt)
  have B1 := hide1 (B0.out.trans (hb1.mono B0.out.size))
  have S1 := hide1 hb1.size
  have HRS := hide1 R0.out.lt
  clear hb1 CB R0
  rcases hr with ⟨b, g, m, rfl, hm, hok, hbr⟩ | ⟨v, rfl, hn⟩
  · subst hm
    have HOK := hide1 hok
    have HF := hide1 hok.fit
    have D1 := hide1 hbr
    have x0 : w1.cell? ⟨b, 0, none⟩ = some (.slice (some ⟨g, 0, none⟩) l.length l.length) := hbr.hd.cell 0
    have C1 := hide1 (takeCells_any hbr key S1.out hl hk)
    have hrs : w.heap.size + 1 < w0.heap.size := HRS.out
    clear hok hbr
    go_wp2_with fail
    refine C1.out.mono ?_
    rintro e w2 ⟨hr, hb2⟩
    have R2 := hide1 (R1.out.below hb2 hrs)
    have B2 := hide1 (B1.out.trans (hb2.mono B0.out.size))
    have S2 := hide1 (Nat.le_trans S1.out hb2.size)
    clear hb2 C1 x0 R1
    rcases hr with ⟨k, hs, rfl, hbr⟩ | ⟨hs, rfl, hbr⟩
    · have hkl := srchC_lt hs
      have hne : key.toList ≠ [] := fun e => by rw [srchC_none e] at hs; cases hs
      have HVAL := hide1 (show takeR l o (m : Int) key = some (l.set k gC, o, (m : Int)) by rw [takeR, ← srchC_seek HF.out.1 hne, hs])
      have HNE := hide1 hne
      have hl2 : (l.set k gC).length ≤ 1048576 := by rw [List.length_set]; exact hl
      have D2 := hide1 hbr
      clear hs hne hbr
      have CT := hide1 (table_any (some ⟨g, 0, none⟩) (oldP g (l.set k gC).length (o).length) (l.set k gC) (o) _ _ _ D2.out.hd (hl2) (hl') D2.out.cells D2.out.olds)
      have hrr : w.heap.size + 1 < w2.heap.size := R2.out.lt
      go_wp2_with fail
      refine CT.out.mono ?_
      rintro e w3 ⟨v, rfl, b3, c3, b4, c4, rfl, ho3, ho4, hne, hb3⟩
      have R9 := hide1 (R2.out.below hb3 R2.out.lt)
      have HN := hide1 (MadeT.yes (r := w.heap.size + 1) (ok := OkT l o (m : Int) ∧ key.toList ≠ []) (R := takeR l o (m : Int) key) B2.out (by omega) hrr ho3 ho4 hne hb3 (⟨HOK.out, HNE.out⟩) (HVAL.out) (.slice (some ⟨b3, 0, none⟩) (l.set k gC).length c3) (.slice (some ⟨b4, 0, none⟩) (o).length c4) (.int .i64 ((m : Int))))
      have HH := hide1 (put3_blk R9.out (.slice (some ⟨b3, 0, none⟩) (l.set k gC).length c3) (.slice (some ⟨b4, 0, none⟩) (o).length c4) (.int .i64 ((m : Int))))
      have y0 : w3.cell? ⟨w.heap.size + 1, 0, none⟩ = some (.slice none 0 0) := R9.out.cell 0
      have y1 : w3.cell? ⟨w.heap.size + 1, 1, none⟩ = some (.slice none 0 0) := R9.out.cell 1
      have y2 : w3.cell? ⟨w.heap.size + 1, 2, none⟩ = some (.int .i64 0) := R9.out.cell 2
      have yf : ∀ j, w3.frozen? ⟨w.heap.size + 1, j, none⟩ = false := fun j => R9.out.froz j
      unfold put3 at HN HH
      unfold tbV
      generalize (l.set k gC).length = nL at *
      generalize (o).length = nO at *
      clear ho3 ho4 hb3 CT
      go_wp2
      refine bodyPost_ret (res2 Try.results29 _ _ (w.heap.size + 1) 26 #[.slice (some ⟨b3, 0, none⟩) nL c3, .slice (some ⟨b4, 0, none⟩) nO c4, .int .i64 ((m : Int))] (0, 0) _ rfl HH.out Try.underlying26 rfl (by kernel_rfl)) rfl ?_
      exact HN.out
    · have HS := hide1 hs
      have x1 : w2.cell? ⟨b, 1, none⟩ = some (.slice (oldP g l.length o.length) o.length o.length) := hbr.hd.cell 1
      have C2 := hide1 (takeOld_any hbr key S2.out hl' hk)
      clear hbr hs
      generalize oldP g l.length o.length = op at *
      go_wp2_with fail
      refine C2.out.mono ?_
      rintro e w3 ⟨hr, hb3⟩
      have R3 := hide1 (R2.out.below hb3 hrs)
      have B3 := hide1 (B2.out.trans (hb3.mono B0.out.size))
      clear hb3 C2 x1 R2
      rcases hr with ⟨k, hs, rfl, hbr⟩ | ⟨hs, rfl, hbr⟩
      · have hkl := srchC_lt hs
        have hne : key.toList ≠ [] := fun e => by rw [srchC_none e] at hs; cases hs
        have HVAL := hide1 (show takeR l o (m : Int) key = some (l, o.set k gC, (m : Int)) by
          rw [takeR, ← srchC_seek HF.out.1 hne, HS.out]
          simp only []
          rw [← srchC_seek HF.out.2 hne, hs])
        have HNE := hide1 hne
        have hl2 : (o.set k gC).length ≤ 1048576 := by rw [List.length_set]; exact hl'
        have D3 := hide1 hbr
        clear hs hne hbr
        have CT := hide1 (table_any (some ⟨g, 0, none⟩) (oldP g (l).length (o.set k gC).length) (l) (o.set k gC) _ _ _ D3.out.hd (hl) (hl2) D3.out.cells D3.out.olds)
        have hrr : w.heap.size + 1 < w3.heap.size := R3.out.lt
        go_wp2_with fail
        refine CT.out.mono ?_
        rintro e w4 ⟨v, rfl, b3, c3, b4, c4, rfl, ho3, ho4, hne, hb3⟩
        have R9 := hide1 (R3.out.below hb3 R3.out.lt)
        have HN := hide1 (MadeT.yes (r := w.heap.size + 1) (ok := OkT l o (m : Int) ∧ key.toList ≠ []) (R := takeR l o (m : Int) key) B3.out (by omega) hrr ho3 ho4 hne hb3 (⟨HOK.out, HNE.out⟩) (HVAL.out) (.slice (some ⟨b3, 0, none⟩) (l).length c3) (.slice (some ⟨b4, 0, none⟩) (o.set k gC).length c4) (.int .i64 ((m : Int))))
        have HH := hide1 (put3_blk R9.out (.slice (some ⟨b3, 0, none⟩) (l).length c3) (.slice (some ⟨b4, 0, none⟩) (o.set k gC).length c4) (.int .i64 ((m : Int))))
        have y0 : w4.cell? ⟨w.heap.size + 1, 0, none⟩ = some (.slice none 0 0) := R9.out.cell 0
        have y1 : w4.cell? ⟨w.heap.size + 1, 1, none⟩ = some (.slice none 0 0) := R9.out.cell 1
        have y2 : w4.cell? ⟨w.heap.size + 1, 2, none⟩ = some (.int .i64 0) := R9.out.cell 2
        have yf : ∀ j, w4.frozen? ⟨w.heap.size + 1, j, none⟩ = false := fun j => R9.out.froz j
        unfold put3 at HN HH
        unfold tbV
        generalize (l).length = nL at *
        generalize (o.set k gC).length = nO at *
        clear ho3 ho4 hb3 CT
        go_wp2
        refine bodyPost_ret (res2 Try.results29 _ _ (w.heap.size + 1) 26 #[.slice (some ⟨b3, 0, none⟩) nL c3, .slice (some ⟨b4, 0, none⟩) nO c4, .int .i64 ((m : Int))] (0, 0) _ rfl HH.out Try.underlying26 rfl (by kernel_rfl)) rfl ?_
        exact HN.out
      · have HS3 := hide1 hs
        clear hs hbr
        have HN := hide1 (MadeT.no (r := w.heap.size + 1) (R := takeR l o (m : Int) key) (ok := OkT l o (m : Int) ∧ key.toList ≠ []) B3.out (by omega) (fun h => by obtain ⟨x, hx⟩ := h.2; rw [takeR, ← srchC_seek HF.out.1 h.1.2, HS.out] at hx; simp only [] at hx; rw [← srchC_seek HF.out.2 h.1.2, HS3.out] at hx; cases hx) (.slice none 0 0) (.slice none 0 0) (.int .i64 0))
        have HH := hide1 (put3_blk R3.out (.slice none 0 0) (.slice none 0 0) (.int .i64 0))
        have y0 : w3.cell? ⟨w.heap.size + 1, 0, none⟩ = some (.slice none 0 0) := R3.out.cell 0
        have y1 : w3.cell? ⟨w.heap.size + 1, 1, none⟩ = some (.slice none 0 0) := R3.out.cell 1
        have y2 : w3.cell? ⟨w.heap.size + 1, 2, none⟩ = some (.int .i64 0) := R3.out.cell 2
        have yf : ∀ j, w3.frozen? ⟨w.heap.size + 1, j, none⟩ = false := fun j => R3.out.froz j
        unfold put3 at HN HH
        go_wp2
        refine bodyPost_ret (res2 Try.results29 _ _ (w.heap.size + 1) 26 #[.slice none 0 0, .slice none 0 0, .int .i64 0] (0, 0) _ rfl HH.out Try.underlying26 rfl (by kernel_rfl)) rfl ?_
        exact HN.out
  · have HNO := hide1 hn
    clear hn
    have HN := hide1 (MadeT.no (r := w.heap.size + 1) (R := takeR l o mv key) (ok := OkT l o mv ∧ key.toList ≠ []) B1.out (by omega) (fun h => HNO.out h.1.1) (.slice none 0 0) (.slice none 0 0) (.int .i64 0))
    have HH := hide1 (put3_blk R1.out (.slice none 0 0) (.slice none 0 0) (.int .i64 0))
    have y0 : w1.cell? ⟨w.heap.size + 1, 0, none⟩ = some (.slice none 0 0) := R1.out.cell 0
    have y1 : w1.cell? ⟨w.heap.size + 1, 1, none⟩ = some (.slice none 0 0) := R1.out.cell 1
    have y2 : w1.cell? ⟨w.heap.size + 1, 2, none⟩ = some (.int .i64 0) := R1.out.cell 2
    have yf : ∀ j, w1.frozen? ⟨w.heap.size + 1, j, none⟩ = false := fun j => R1.out.froz j
    unfold put3 at HN HH
    go_wp2
    refine bodyPost_ret (res2 Try.results29 _ _ (w.heap.size + 1) 26 #[.slice none 0 0, .slice none 0 0, .int .i64 0] (0, 0) _ rfl HH.out Try.underlying26 rfl (by kernel_rfl)) rfl ?_
    exact HN.out

end Go.Proofs.Ytahglnojllkjdaa
