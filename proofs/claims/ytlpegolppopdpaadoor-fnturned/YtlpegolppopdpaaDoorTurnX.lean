/- The walk of the law on a text with one byte turned. -/
import Derived.Test.YtlpegolppopdpaaDoorTurnP
import Derived.Test.YtlpegolppopdpaaDoorDrawP
import Derived.Deep.RegionWith
namespace Go.Proofs.YtlpegolppopdpaaDoor
open Go.RowKit

/-- '[]byte(s)': its cells. -/
theorem conv_bytes {P : Program} (w : World) (src dst e : TypeId) (s : ByteArray) (hs : P.underlying src = some .string) (hd : P.underlying dst = some (.slice e)) (he : P.underlying e = some (.int .u8)) :
    ∃ cap w1, (convert src dst (.string s)).run P w = .ok (.slice (some ⟨w.heap.size, 0, none⟩) s.size cap) w1 ∧ Below w.heap.size w w1 ∧ w.heap.size < w1.heap.size ∧
      (∀ j, j < s.size → w1.cell? ⟨w.heap.size, j, none⟩ = some (.int .u8 (byt s j : Int))) ∧ (∀ j, j < s.size → w1.frozen? ⟨w.heap.size, j, none⟩ = false) := by
  have key : ∀ j, j < s.size → (bytesRow s (grownCap w s.size 0 e))[j]? = some (.int .u8 (byt s j : Int)) := by
    intro j hj
    have hj' : j < s.data.size := hj
    have := bytesRow_at s (grownCap w s.size 0 e) j hj'
    rw [this, ← get_byt s j hj]
    rfl
  refine ⟨_, _, run_bytes_of_string w src dst e s hs hd he, (Below.refl _ _).drew.alloc (Nat.le_refl _) _, ?_, ?_, ?_⟩
  · rw [World.size_alloc]; show w.heap.size < w.heap.size + 1; omega
  · intro j hj
    exact (World.cell?_alloc_mark w.drew _ _ _ j).trans (key j hj)
  · intro j hj
    have hlt : j < (bytesRow s (grownCap w s.size 0 e)).size := (Array.getElem?_eq_some_iff.1 (key j hj)).1
    refine (World.frozen?_alloc_mark w.drew _ _ _ _ j).trans ?_
    simp; omega
theorem Code.mono {B B' : Nat} {w : World} {a : Option Addr} {len : Nat} (h : Code B w a len) (hB : B ≤ B') : Code B' w a len :=
  ⟨h.le, fun j hj => by
    obtain ⟨b, o, v, h1, h2, h3, h4⟩ := h.cells j hj
    exact ⟨b, o, v, h1, Nat.lt_of_lt_of_le h2 hB, h3, h4⟩⟩

set_option maxRecDepth 100000 in
set_option maxHeartbeats 4000000 in
theorem walk_FnTurned (a : Option Addr) (len cap : Nat) (w : World) (hr : RowB w a len) (ht : Tabs w) :
    Calls Tryd.prog 3 #[.slice a len cap] w fun e w' => e = .returned (.bool true) ∧ Below w.heap.size w w' := by
  by_cases hlen : len ≤ 1048576
  · have HC := hide1 (hr.code hlen)
    have HT := hide1 ht
    clear hr ht
    go_enter Tryd.func3, Tryd.ntmps3
    go_wp2_with fail
    refine (big1_no a len cap w hlen).mono ?_
    rintro e _ ⟨rfl, rfl⟩
    go_wp2_with fail
    refine (drawSumOf_any w a len cap HC.out).mono ?_
    rintro e w1 ⟨s, rfl, hs, hb1⟩
    have B1 := hide1 hb1
    have HC1 := hide1 ((HC.out.below hb1 (Nat.le_refl _)).mono hb1.size)
    clear hb1
    go_wp2_with fail
    refine (drawPlaces_any w1 a len cap HC1.out).mono ?_
    rintro e w2 ⟨x0, x1, p, c, h0, h1, rfl, hp1, hp2, k0, k1, hb2⟩
    have B2 := hide1 (B1.out.trans (hb2.mono B1.out.size))
    have cs := implSealed_any s (by omega) w2 (HT.out.later B2.out)
    rw [seal_yes s (by omega)] at cs
    have hts := sealS_size s
    have hun := unseal_seal s (by omega)
    have hturn := hide1 (unseal_turned s)
    generalize sealS s = t at cs hts hun hturn
    have CS := hide1 cs
    clear cs hb2 HC HC1 B1
    go_wp2_with fail
    refine CS.out.mono ?_
    rintro e w3 ⟨rfl, hb3⟩
    have B3 := hide1 (B2.out.trans (hb3.mono B2.out.size))
    have k0' := (hb3.cell (p := ⟨p, 0, none⟩) hp2).trans k0
    have k1' := (hb3.cell (p := ⟨p, 1, none⟩) hp2).trans k1
    have hp3 : p < w3.heap.size := Nat.lt_of_lt_of_le hp2 hb3.size
    have cu := implUnsealed_any t (by omega) w3 (HT.out.later B3.out)
    rw [hun] at cu
    have CU := hide1 cu
    clear cu hun hb3 k0 k1 CS B2 hp2 hp1
    go_wp2_with fail
    refine CU.out.mono ?_
    rintro e w4 ⟨rfl, hb4⟩
    have B4 := hide1 (B3.out.trans (hb4.mono B3.out.size))
    have k0 := (hb4.cell (p := ⟨p, 0, none⟩) hp3).trans k0'
    have k1 := (hb4.cell (p := ⟨p, 1, none⟩) hp3).trans k1'
    have hp4 : p < w4.heap.size := Nat.lt_of_lt_of_le hp3 hb4.size
    clear hb4 k0' k1' CU B3 hp3
    have e1 : (s.toList == s.toList) = true := by simp
    have e2 : ((t.size : Int) == (s.size : Int) + 4) = true := by rw [beq_iff_eq]; omega
    obtain ⟨cp, w5, r5, hb5, hsz5, hcell, hfro⟩ := conv_bytes (P := Tryd.prog) w4 9 22 5 t Tryd.underlying9 Tryd.underlying22 Tryd.underlying5
    have B5 := hide1 (B4.out.trans (hb5.mono B4.out.size))
    have k2 := (hb5.cell (p := ⟨p, 0, none⟩) hp4).trans k0
    have k3 := (hb5.cell (p := ⟨p, 1, none⟩) hp4).trans k1
    have hg4 := hide1 (B4.out.size)
    have hpg : ¬ p = w4.heap.size := by omega
    generalize w4.heap.size = gb at *
    have hti : x0 % t.size < t.size := Nat.mod_lt _ (by omega)
    have hrem : (x0 : Int) % (t.size : Int) = ((x0 % t.size : Nat) : Int) := by rw [Int.natCast_emod]
    have hz : ((t.size : Int) == 0) = false := beq_eq_false_iff_ne.2 (by omega)
    have x2 := hcell (x0 % t.size) hti
    have f2 := hfro (x0 % t.size) hti
    have HCELL := hide1 hcell
    generalize x0 % t.size = i at *
    have hv := byt_le t i
    obtain ⟨d, hd⟩ : ∃ d : Nat, d = 1 + x1 % 255 := ⟨_, rfl⟩
    have q1 : (x1 : Int) % 255 = (d : Int) - 1 := by omega
    have q2 : IntKind.i64.wrap (1 + ((d : Int) - 1)) = (d : Int) := by rw [IntWalk.i64_in _ ⟨by omega, by omega⟩]; omega
    have q3 : IntKind.u8.wrap (d : Int) = (d : Int) := by rw [IntKind.wrap_u8']; omega
    have q4 := u8_xor_nat (byt t i) d (by omega) (by omega)
    have hyne : byt t i ^^^ d ≠ byt t i := xor_ne (by omega)
    have hyl : byt t i ^^^ d < 256 := Nat.xor_lt_two_pow (n := 8) (by omega) (by omega)
    have HD := hide1 hd
    generalize hy : byt t i ^^^ d = y at *
    have hi' : (i : Int) < (t.size : Int) := by omega
    have ht43 : t.size ≤ 43 := by omega
    have HTS := hide1 hts
    clear hcell hfro hb5 k0 k1 hd hts
    go_wp2
    go_region
    obtain ⟨b, hbe, hbn⟩ := byte_of y (by omega)
    obtain ⟨l, hl⟩ : ∃ l : List UInt8, l = t.data.toList.set i b := ⟨_, rfl⟩
    have hll : l.length = t.size := by rw [hl, List.length_set, len_data]
    have hcv := run_convert_bytes_back (P := Tryd.prog) ((w5.setCell ⟨gb, i, none⟩ (.int .u8 (y : Int))).drew) 22 9 5 ⟨gb, 0, none⟩ cp l Tryd.underlying22 Tryd.underlying5 Tryd.underlying9 (by
      intro j hj
      rw [Addr.add_lit, Nat.zero_add]
      show (w5.setCell ⟨gb, i, none⟩ (.int .u8 (y : Int))).cell? ⟨gb, j, none⟩ = _
      have hj2 : j < t.size := by omega
      have hjl : j < t.data.toList.length := by rw [len_data]; exact hj2
      subst hl
      by_cases hji : j = i
      · subst hji
        rw [World.cell?_setCell_same (w := w5) (a := ⟨gb, j, none⟩) (h := HCELL.out j hj2), List.getElem_set_self, hbn]
      · rw [World.cell?_setCell_other (w := w5) (a := ⟨gb, i, none⟩) (b := ⟨gb, j, none⟩) (h := fun h => hji (by injection h with _ h2 _; exact h2.symm)), HCELL.out j hj2, List.getElem_set_ne (fun h => hji h.symm)]
        unfold byt
        rw [List.getElem?_eq_getElem hjl]
        rfl)
    rw [hll] at hcv
    have hno := hturn.out ⟨l.toArray⟩ i b hti (by
      intro h
      have : byt t i = y := by unfold byt; rw [h]; exact hbn
      exact hyne this.symm) hl
    have hts2 : (⟨l.toArray⟩ : ByteArray).size ≤ 2097152 := by show l.toArray.size ≤ _; rw [List.size_toArray]; omega
    have B6 := hide1 ((B5.out.setCell (p := ⟨gb, i, none⟩) hg4.out (.int .u8 (y : Int))).drew)
    have cu := implUnsealed_any ⟨l.toArray⟩ hts2 _ (HT.out.later B6.out)
    rw [hno] at cu
    generalize ({ data := l.toArray } : ByteArray) = t' at hcv cu
    have CU := hide1 cu
    clear cu hno hl hll HCELL hbe hbn hts2
    go_wp2_with fail
    refine CU.out.mono ?_
    rintro e w7 ⟨rfl, hb7⟩
    have B7 := hide1 (B6.out.trans (hb7.mono B6.out.size))
    have T7 := HT.out.later B7.out
    have cA := implSumOf_any s (by omega) w7 T7
    have cB := implMore_any (sumOf s) (sumOf_lt s) ⟨#[120]⟩ (by decide) w7 T7
    have hz2 : (s ++ (⟨#[120]⟩ : ByteArray)).size = s.size + 1 := by rw [ByteArray.size_append]; rfl
    have cC := implSumOf_any (s ++ ⟨#[120]⟩) (by rw [hz2]; omega) w7 T7
    rw [show (⟨#[120]⟩ : ByteArray).size = 1 from rfl, sum_on] at cB
    generalize sumOf (s ++ (⟨#[120]⟩ : ByteArray)) = n2 at cB cC
    generalize sumOf s = n1 at cA cB
    have CA := hide1 cA
    have CB := hide1 cB
    have CC := hide1 cC
    have en : ((n2 : Int) == (n2 : Int)) = true := by simp
    clear cA cB cC T7 hb7
    go_wp2_with fail
    refine CA.out.mono ?_
    rintro e w8 ⟨rfl, rfl⟩
    go_wp2_with fail
    refine CB.out.mono ?_
    rintro e w8 ⟨rfl, rfl⟩
    go_wp2_with fail
    refine CC.out.mono ?_
    rintro e w8 ⟨rfl, rfl⟩
    go_wp2
    go_ret
    exact ⟨rfl, B7.out⟩
  · go_enter Tryd.func3, Tryd.ntmps3
    go_wp2_with (go_at_call 8; refine (big1_yes a len cap w hlen).mono ?_; rintro e w1 ⟨rfl, rfl⟩)
    go_ret
    exact ⟨rfl, Below.refl _ _⟩
end Go.Proofs.YtlpegolppopdpaaDoor
