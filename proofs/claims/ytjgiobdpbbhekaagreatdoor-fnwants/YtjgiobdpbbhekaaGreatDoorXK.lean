/- What the model answers: a new table, a key taken. -/
import Derived.Test.YtjgiobdpbbhekaaGreatDoorXJ
import Derived.Deep.SlicePairs
import Derived.Lib.SmallJoins
import Derived.ProofKit
import Derived.OpenShut
namespace Go.Proofs.YtjgiobdpbbhekaaGreatDoor
open Go.RowKit

theorem MadeT.fin {w W : World} {r n c m c' : Nat} {ao a' : Option Addr} {ok : Prop} {R : Option (List Ce × List Ce × Int)} {L O : List Ce} {M : Int} (hB : Below w.heap.size w W) (hr : w.heap.size ≤ r)
    (o1 : W.ownsRow w.heap.size 132 2 (.slice ao n c) n (ces L)) (hn : L.length = n) (o2 : W.ownsRow w.heap.size 132 2 (.slice a' m c') m (ces O)) (hm : O.length = m) (hap : apart2 (.slice ao n c) (.slice a' m c'))
    (r1 : ∀ k, (Value.slice ao n c).ownBlock = some k → k ≠ r) (r2 : ∀ k, (Value.slice a' m c').ownBlock = some k → k ≠ r) (hok : ok) (hR : R = some (L, O, M)) (x y z : Value) :
    MadeT w (put3 W r x y z) (.returned (.tuple #[.agg #[.slice ao n c, .slice a' m c', .int .i64 M], .bool true])) ok R := by
  subst hn hm
  exact ⟨ao, L, c, a', O, c', M, true, rfl, .inl ⟨hok, hR, rfl⟩, own_put3 o1 r1 x y z, own_put3 o2 r2 x y z, hap, put3_below hB hr x y z⟩
theorem apart_ne {b c b' c' n m : Nat} (h : b ≠ b') : apart2 (.slice (some ⟨b, 0, none⟩) n c) (.slice (some ⟨b', 0, none⟩) m c') := fun k hk hk' => h ((show b = k from Option.some.inj hk).trans (show b' = k from Option.some.inj hk').symm)

set_option maxRecDepth 100000 in
set_option maxHeartbeats 2000000 in
theorem specNewT_any (n : Int) (w : World) : Calls Tryz.prog 66 #[.int .i64 n] w fun e w' => MadeT w w' e (szOk n) (newR n) := by
  have CZ := hide1 (fun w => specSize_any n w)
  have F0 : Hid (Blk (w.alloc (.cells #[.slice none 0 0, .slice none 0 0, .int .i64 0] 29)) w.heap.size 29 [.slice none 0 0, .slice none 0 0, .int .i64 0] ∧ Below w.heap.size w (w.alloc (.cells #[.slice none 0 0, .slice none 0 0, .int .i64 0] 29))) := ⟨Blk.new w _ _, (Below.refl _ _).alloc (Nat.le_refl _) _⟩
  go_enter Tryz.func66, Tryz.ntmps66
  go_wp2_with fail
  generalize (w.alloc (.cells #[.slice none 0 0, .slice none 0 0, .int .i64 0] 29)) = w0 at F0 ⊢
  obtain ⟨R0, B0⟩ := F0.out
  have R0 := hide1 R0
  have B0 := hide1 B0
  clear F0
  refine (CZ.out w0).mono ?_
  rintro e w1 ⟨x, rfl, hx, rfl⟩
  have HX := hide1 hx
  clear hx CZ
  rcases x with _ | _
  · have HN := hide1 (MadeT.no (R := newR n) (ok := szOk n) B0.out (Nat.le_refl _) (fun h => by have := HX.out.2 h.1; cases this) (.slice none 0 0) (.slice none 0 0) (.int .i64 0))
    have HH := hide1 (put3_blk R0.out (.slice none 0 0) (.slice none 0 0) (.int .i64 0))
    have y0 : w0.cell? ⟨w.heap.size, 0, none⟩ = some (.slice none 0 0) := R0.out.cell 0
    have y1 : w0.cell? ⟨w.heap.size, 1, none⟩ = some (.slice none 0 0) := R0.out.cell 1
    have y2 : w0.cell? ⟨w.heap.size, 2, none⟩ = some (.int .i64 0) := R0.out.cell 2
    have yf : ∀ j, w0.frozen? ⟨w.heap.size, j, none⟩ = false := fun j => R0.out.froz j
    unfold put3 at HN HH
    clear HX
    go_wp2
    refine bodyPost_ret (res2 Tryz.results66 _ _ w.heap.size 29 #[.slice none 0 0, .slice none 0 0, .int .i64 0] (0, 0) _ rfl HH.out Tryz.underlying29 rfl (by kernel_rfl)) rfl ?_
    exact HN.out
  · have HSZ := hide1 (show szOk n from HX.out.1 rfl)
    obtain ⟨m, rfl⟩ := Int.eq_ofNat_of_zero_le (show 0 ≤ n by have := HX.out.1 rfl; omega)
    have hm : m ≤ 64 := by have := HX.out.1 rfl; omega
    have CN := hide1 (specCells_any m w0 (by omega))
    clear HX
    go_wp2_with fail
    refine CN.out.mono ?_
    rintro e w2 ⟨b, c, rfl, ho2, hb2⟩
    have R2 := hide1 (R0.out.below hb2 R0.out.lt)
    have hrl := R0.out.lt
    have B2 := hide1 (B0.out.trans (hb2.mono B0.out.size))
    have HN := hide1 (MadeT.fin (r := w.heap.size) (ok := szOk (m : Int)) (R := newR (m : Int)) B2.out (Nat.le_refl _) (own_base ho2 B0.out.size) (List.length_replicate ..) (World.ownsRow_nil w2 w.heap.size 132 2) (O := []) rfl (fun k _ hk => by cases hk) (fun k hk => by have := (ho2.lt k hk).1; omega) (fun k hk => by cases hk) HSZ.out rfl (.slice b m c) (.slice none 0 0) (.int .i64 0))
    have HH := hide1 (put3_blk R2.out (.slice b m c) (.slice none 0 0) (.int .i64 0))
    have y0 : w2.cell? ⟨w.heap.size, 0, none⟩ = some (.slice none 0 0) := R2.out.cell 0
    have y1 : w2.cell? ⟨w.heap.size, 1, none⟩ = some (.slice none 0 0) := R2.out.cell 1
    have y2 : w2.cell? ⟨w.heap.size, 2, none⟩ = some (.int .i64 0) := R2.out.cell 2
    have yf : ∀ j, w2.frozen? ⟨w.heap.size, j, none⟩ = false := fun j => R2.out.froz j
    unfold put3 at HN HH
    clear ho2 hb2 CN
    go_wp2
    refine bodyPost_ret (res2 Tryz.results66 _ _ w.heap.size 29 #[.slice b m c, .slice none 0 0, .int .i64 0] (0, 0) _ rfl HH.out Tryz.underlying29 rfl (by kernel_rfl)) rfl ?_
    exact HN.out

set_option maxRecDepth 100000 in
set_option maxHeartbeats 4000000 in
theorem specTake_any (ao a' : Option Addr) (l o : List Ce) (ca ca' : Nat) (mv : Int) (key : ByteArray) (w : World) (hl : l.length ≤ 1048576) (hl' : o.length ≤ 1048576) (hk : key.size ≤ 1048576) (hA : RdC w ao l) (hA' : RdC w a' o) :
    Calls Tryz.prog 101 #[tbV ao l.length ca a' o.length ca' mv, .string key] w fun e w' => MadeT w w' e (OkT l o mv ∧ key.toList ≠ []) (takeR l o mv key) := by
  have CB := hide1 (fun w' (hb : Below w.heap.size w w') => specTOk_any ao a' l o ca ca' mv w' hl hl' (hA.later hb) (hA'.later hb))
  have HA := hide1 hA
  have HA' := hide1 hA'
  have F0 := hide1 (boxes w #[.slice ao l.length ca, .slice a' o.length ca', .int .i64 mv] #[.slice none 0 0, .slice none 0 0, .int .i64 0] 29)
  clear hA hA'
  unfold tbV at CB ⊢
  go_enter Tryz.func101, Tryz.ntmps101
  go_wp2_with fail
  generalize ((w.alloc (.cells #[.slice ao l.length ca, .slice a' o.length ca', .int .i64 mv] 29)).alloc (.cells #[.slice none 0 0, .slice none 0 0, .int .i64 0] 29)) = w0 at F0 ⊢
  obtain ⟨K0, R0, B0⟩ := F0.out
  have hs0 : w.heap.size < w0.heap.size := K0.lt
  have hs1 : w.heap.size + 1 < w0.heap.size := R0.lt
  have K0 := hide1 K0
  have R0 := hide1 R0
  have B0 := hide1 B0
  clear F0
  refine (CB.out w0 B0.out).mono ?_
  rintro e w1 ⟨x, rfl, hx, hb1⟩
  have HX := hide1 hx
  have K1 := hide1 (K0.out.below hb1 hs0)
  have R1 := hide1 (R0.out.below hb1 hs1)
  have B1 := hide1 (B0.out.trans (hb1.mono B0.out.size))
  have S1 := hide1 hb1.size
  clear hb1 CB hx K0 R0
  rcases x with _ | _
  · have HNO := hide1 (show ¬ OkT l o mv from fun h => by have := HX.out.2 h; cases this)
    clear HX
    have HN := hide1 (MadeT.no (r := w.heap.size + 1) (R := takeR l o mv key) (ok := OkT l o mv ∧ key.toList ≠ []) B1.out (by omega) (fun h => HNO.out h.1.1) (.slice none 0 0) (.slice none 0 0) (.int .i64 0))
    have HH := hide1 (put3_blk R1.out (.slice none 0 0) (.slice none 0 0) (.int .i64 0))
    have y0 : w1.cell? ⟨w.heap.size + 1, 0, none⟩ = some (.slice none 0 0) := R1.out.cell 0
    have y1 : w1.cell? ⟨w.heap.size + 1, 1, none⟩ = some (.slice none 0 0) := R1.out.cell 1
    have y2 : w1.cell? ⟨w.heap.size + 1, 2, none⟩ = some (.int .i64 0) := R1.out.cell 2
    have yf : ∀ j, w1.frozen? ⟨w.heap.size + 1, j, none⟩ = false := fun j => R1.out.froz j
    unfold put3 at HN HH
    go_wp2
    refine bodyPost_ret (res2 Tryz.results101 _ _ (w.heap.size + 1) 29 #[.slice none 0 0, .slice none 0 0, .int .i64 0] (0, 0) _ rfl HH.out Tryz.underlying29 rfl (by kernel_rfl)) rfl ?_
    exact HN.out
  · have HOK := hide1 (HX.out.1 rfl)
    have HLN := hide1 HOK.out.len
    clear HX
    by_cases d1 : key.toList = []
    · have b1 : key.toList.isEmpty = true := by rw [d1]; rfl
      have HD := hide1 d1
      have HN := hide1 (MadeT.no (r := w.heap.size + 1) (R := takeR l o mv key) (ok := OkT l o mv ∧ key.toList ≠ []) B1.out (by omega) (fun h => h.1.2 HD.out) (.slice none 0 0) (.slice none 0 0) (.int .i64 0))
      have HH := hide1 (put3_blk R1.out (.slice none 0 0) (.slice none 0 0) (.int .i64 0))
      have y0 : w1.cell? ⟨w.heap.size + 1, 0, none⟩ = some (.slice none 0 0) := R1.out.cell 0
      have y1 : w1.cell? ⟨w.heap.size + 1, 1, none⟩ = some (.slice none 0 0) := R1.out.cell 1
      have y2 : w1.cell? ⟨w.heap.size + 1, 2, none⟩ = some (.int .i64 0) := R1.out.cell 2
      have yf : ∀ j, w1.frozen? ⟨w.heap.size + 1, j, none⟩ = false := fun j => R1.out.froz j
      unfold put3 at HN HH
      go_wp2
      refine bodyPost_ret (res2 Tryz.results101 _ _ (w.heap.size + 1) 29 #[.slice none 0 0, .slice none 0 0, .int .i64 0] (0, 0) _ rfl HH.out Tryz.underlying29 rfl (by kernel_rfl)) rfl ?_
      exact HN.out
    · have b1 : key.toList.isEmpty = false := by cases h : key.toList with | nil => exact absurd h d1 | cons a b => rfl
      have HD := hide1 d1
      clear d1
      have CY := hide1 (specCopyT_any ao a' l o ca ca' mv w1 hl hl' HLN.out.2.2 (HA.out.later B1.out).toJ (HA'.out.later B1.out).toJ)
      have x0 : w1.cell? ⟨w.heap.size, 0, none⟩ = some (.slice ao l.length ca) := K1.out.cell 0
      have x1 : w1.cell? ⟨w.heap.size, 1, none⟩ = some (.slice a' o.length ca') := K1.out.cell 1
      have x2 : w1.cell? ⟨w.heap.size, 2, none⟩ = some (.int .i64 mv) := K1.out.cell 2
      unfold tbV at CY
      go_wp2_with fail
      refine CY.out.mono ?_
      rintro e w2 ⟨v, rfl, b, c, b', c', rfl, ho1, ho2, hne, hb2⟩
      have F3 : Hid (Blk (w2.alloc (.cells #[.slice (some ⟨b, 0, none⟩) l.length c, .slice (some ⟨b', 0, none⟩) o.length c', .int .i64 mv] 29)) w2.heap.size 29 [.slice (some ⟨b, 0, none⟩) l.length c, .slice (some ⟨b', 0, none⟩) o.length c', .int .i64 mv] ∧ Blk (w2.alloc (.cells #[.slice (some ⟨b, 0, none⟩) l.length c, .slice (some ⟨b', 0, none⟩) o.length c', .int .i64 mv] 29)) w.heap.size 29 [.slice ao l.length ca, .slice a' o.length ca', .int .i64 mv] ∧ Blk (w2.alloc (.cells #[.slice (some ⟨b, 0, none⟩) l.length c, .slice (some ⟨b', 0, none⟩) o.length c', .int .i64 mv] 29)) (w.heap.size + 1) 29 [.slice none 0 0, .slice none 0 0, .int .i64 0] ∧ (w2.alloc (.cells #[.slice (some ⟨b, 0, none⟩) l.length c, .slice (some ⟨b', 0, none⟩) o.length c', .int .i64 mv] 29)).ownsRow w1.heap.size 132 2 (.slice (some ⟨b, 0, none⟩) l.length c) l.length (ces l) ∧ (w2.alloc (.cells #[.slice (some ⟨b, 0, none⟩) l.length c, .slice (some ⟨b', 0, none⟩) o.length c', .int .i64 mv] 29)).ownsRow w1.heap.size 132 2 (.slice (some ⟨b', 0, none⟩) o.length c') o.length (ces o) ∧ Below w.heap.size w (w2.alloc (.cells #[.slice (some ⟨b, 0, none⟩) l.length c, .slice (some ⟨b', 0, none⟩) o.length c', .int .i64 mv] 29)) ∧ w2.heap.size < (w2.alloc (.cells #[.slice (some ⟨b, 0, none⟩) l.length c, .slice (some ⟨b', 0, none⟩) o.length c', .int .i64 mv] 29)).heap.size) :=
        ⟨Blk.new w2 _ _, (K1.out.below hb2 K1.out.lt).more _, (R1.out.below hb2 R1.out.lt).more _, ho1.alloc _, ho2.alloc _, (B1.out.trans (hb2.mono B1.out.size)).alloc (Nat.le_trans B1.out.size hb2.size) _, by rw [World.size_alloc]; omega⟩
      have lb := ho1.lt b rfl
      have lb' := ho2.lt b' rfl
      have s12 := hb2.size
      have s01 := S1.out
      clear ho1 ho2 hb2 x0 x1 x2 CY
      unfold tbV
      go_upto_region 4 with fail
      generalize (w2.alloc (.cells #[.slice (some ⟨b, 0, none⟩) l.length c, .slice (some ⟨b', 0, none⟩) o.length c', .int .i64 mv] 29)) = w3 at F3 ⊢
      obtain ⟨Q3, K3, R3, O3, P3, B3, hq3⟩ := F3.out
      have CS := hide1 (specSeek_any ao l ca key w3 hl hk (HA.out.later B3))
      have CS2 := hide1 (fun w' (hb : Below w.heap.size w w') => specSeek_any a' o ca' key w' hl' hk (HA'.out.later hb))
      have F3' := hide1 (And.intro Q3 (And.intro K3 (And.intro R3 (And.intro O3 (And.intro P3 B3)))))
      have hr3 := R3.lt
      have hk3 := K3.lt
      have x0 : w3.cell? ⟨w.heap.size, 0, none⟩ = some (.slice ao l.length ca) := K3.cell 0
      clear F3 Q3 K3 R3 O3 P3 B3
      go_wp2_with fail
      refine CS.out.mono ?_
      rintro e w4 ⟨rfl, hb4⟩
      have F4 : Hid (Blk w4 w2.heap.size 29 [.slice (some ⟨b, 0, none⟩) l.length c, .slice (some ⟨b', 0, none⟩) o.length c', .int .i64 mv] ∧ Blk w4 w.heap.size 29 [.slice ao l.length ca, .slice a' o.length ca', .int .i64 mv] ∧ Blk w4 (w.heap.size + 1) 29 [.slice none 0 0, .slice none 0 0, .int .i64 0] ∧ w4.ownsRow w1.heap.size 132 2 (.slice (some ⟨b, 0, none⟩) l.length c) l.length (ces l) ∧ w4.ownsRow w1.heap.size 132 2 (.slice (some ⟨b', 0, none⟩) o.length c') o.length (ces o) ∧ Below w.heap.size w w4) := by
        obtain ⟨Q3, K3, R3, O3, P3, B3⟩ := F3'.out
        exact ⟨Q3.below hb4 hq3, K3.below hb4 hk3, R3.below hb4 hr3, own_kept O3 hb4, own_kept P3 hb4, B3.trans (hb4.mono B3.size)⟩
      clear hb4 CS F3' x0
      have f0 := B0.out.size
      rcases hq : seekC l key with _ | k
      · have HQ := hide1 hq
        unfold optI
        clear hq
        have x1 : w4.cell? ⟨w.heap.size, 1, none⟩ = some (.slice a' o.length ca') := F4.out.2.1.cell 1
        have CSB := hide1 (CS2.out w4 F4.out.2.2.2.2.2)
        go_wp2_with fail
        refine CSB.out.mono ?_
        rintro e w5 ⟨rfl, hb5⟩
        have hs4 : w.heap.size + 1 < w4.heap.size := F4.out.2.2.1.lt
        have hq4 : w2.heap.size < w4.heap.size := F4.out.1.lt
        have R5 := hide1 (F4.out.2.2.1.below hb5 hs4)
        have Q5 := hide1 (F4.out.1.below hb5 hq4)
        have O5 := hide1 (own_kept F4.out.2.2.2.1 hb5)
        have P5 := hide1 (own_kept F4.out.2.2.2.2.1 hb5)
        have B5 := hide1 (F4.out.2.2.2.2.2.trans (hb5.mono F4.out.2.2.2.2.2.size))
        clear hb5 CSB F4 x1
        rcases hq2 : seekC o key with _ | k
        · have HQ2 := hide1 hq2
          unfold optI
          clear hq2
          have HN := hide1 (MadeT.no (r := w.heap.size + 1) (R := takeR l o mv key) (ok := OkT l o mv ∧ key.toList ≠ []) B5.out (by omega) (fun h => by obtain ⟨x, hx⟩ := h.2; rw [takeR, HQ.out] at hx; simp only [] at hx; rw [HQ2.out] at hx; cases hx) (.slice none 0 0) (.slice none 0 0) (.int .i64 0))
          have HH := hide1 (put3_blk R5.out (.slice none 0 0) (.slice none 0 0) (.int .i64 0))
          have y0 : w5.cell? ⟨w.heap.size + 1, 0, none⟩ = some (.slice none 0 0) := R5.out.cell 0
          have y1 : w5.cell? ⟨w.heap.size + 1, 1, none⟩ = some (.slice none 0 0) := R5.out.cell 1
          have y2 : w5.cell? ⟨w.heap.size + 1, 2, none⟩ = some (.int .i64 0) := R5.out.cell 2
          have yf : ∀ j, w5.frozen? ⟨w.heap.size + 1, j, none⟩ = false := fun j => R5.out.froz j
          unfold put3 at HN HH
          go_wp2
          refine bodyPost_ret (res2 Tryz.results101 _ _ (w.heap.size + 1) 29 #[.slice none 0 0, .slice none 0 0, .int .i64 0] (0, 0) _ rfl HH.out Tryz.underlying29 rfl (by kernel_rfl)) rfl ?_
          exact HN.out
        · have hkl : k < o.length := seekD_lt _ _ _ hq2
          have k1 : (k : Int) < (o.length : Int) := by omega
          have q : decide ((k : Int) < 0) = false := by simp
          have HVAL := hide1 (show takeR l o mv key = some (l, o.set k gC, mv) by rw [takeR, HQ.out]; simp only []; rw [hq2])
          have z1 : w5.cell? ⟨w2.heap.size, 1, none⟩ = some (.slice (some ⟨b', 0, none⟩) o.length c') := Q5.out.cell 1
          obtain ⟨v0, t0⟩ := own_some P5.out (k * 2) (by omega)
          obtain ⟨v1, t1⟩ := own_some P5.out (k * 2 + 1) (by omega)
          have g0 := P5.out.frozenAt (k * 2)
          have g1 := P5.out.frozenAt (k * 2 + 1)
          have F6 : Hid (Blk ((w5.setCell ⟨b', k * 2, none⟩ (.string ⟨#[]⟩)).setCell ⟨b', k * 2 + 1, none⟩ (.int .i64 (-2))) w2.heap.size 29 [.slice (some ⟨b, 0, none⟩) l.length c, .slice (some ⟨b', 0, none⟩) o.length c', .int .i64 mv] ∧ Blk ((w5.setCell ⟨b', k * 2, none⟩ (.string ⟨#[]⟩)).setCell ⟨b', k * 2 + 1, none⟩ (.int .i64 (-2))) (w.heap.size + 1) 29 [.slice none 0 0, .slice none 0 0, .int .i64 0] ∧ ((w5.setCell ⟨b', k * 2, none⟩ (.string ⟨#[]⟩)).setCell ⟨b', k * 2 + 1, none⟩ (.int .i64 (-2))).ownsRow w1.heap.size 132 2 (.slice (some ⟨b, 0, none⟩) l.length c) l.length (ces l) ∧ ((w5.setCell ⟨b', k * 2, none⟩ (.string ⟨#[]⟩)).setCell ⟨b', k * 2 + 1, none⟩ (.int .i64 (-2))).ownsRow w1.heap.size 132 2 (.slice (some ⟨b', 0, none⟩) o.length c') o.length (ces (o.set k gC)) ∧ Below w.heap.size w ((w5.setCell ⟨b', k * 2, none⟩ (.string ⟨#[]⟩)).setCell ⟨b', k * 2 + 1, none⟩ (.int .i64 (-2)))) := by
            refine ⟨(Q5.out.far _ _ (by dsimp only; omega)).far _ _ (by dsimp only; omega), (R5.out.far _ _ (by dsimp only; omega)).far _ _ (by dsimp only; omega), own_far (own_far O5.out _ _ ?_) _ _ ?_, own_set2 P5.out rfl k hkl gC, below_set2 B5.out (by omega) k gC⟩
            all_goals
              intro j hj
              have e : b = j := Option.some.inj hj
              dsimp only
              omega
          unfold optI
          clear hq2 Q5 R5 O5 P5 B5
          go_upto_region 12 with fail
          clear z1 t0 t1 g0 g1
          generalize ((w5.setCell ⟨b', k * 2, none⟩ (.string ⟨#[]⟩)).setCell ⟨b', k * 2 + 1, none⟩ (.int .i64 (-2))) = w6 at F6 ⊢
          have HN := hide1 (MadeT.fin (r := w.heap.size + 1) (ok := OkT l o mv ∧ key.toList ≠ []) (R := takeR l o mv key) (M := mv) F6.out.2.2.2.2 (by omega) (own_base F6.out.2.2.1 (by omega)) (rfl) (own_base F6.out.2.2.2.1 (by omega)) (List.length_set ..) (apart_ne hne) (fun k hk => by have e : b = k := Option.some.inj hk; omega) (fun k hk => by have e : b' = k := Option.some.inj hk; omega) (⟨HOK.out, HD.out⟩) (HVAL.out) (.slice (some ⟨b, 0, none⟩) l.length c) (.slice (some ⟨b', 0, none⟩) o.length c') (.int .i64 mv))
          have HH := hide1 (put3_blk F6.out.2.1 (.slice (some ⟨b, 0, none⟩) l.length c) (.slice (some ⟨b', 0, none⟩) o.length c') (.int .i64 mv))
          have q0 : w6.cell? ⟨w2.heap.size, 0, none⟩ = some (.slice (some ⟨b, 0, none⟩) l.length c) := (F6.out.1).cell 0
          have q1 : w6.cell? ⟨w2.heap.size, 1, none⟩ = some (.slice (some ⟨b', 0, none⟩) o.length c') := (F6.out.1).cell 1
          have q2 : w6.cell? ⟨w2.heap.size, 2, none⟩ = some (.int .i64 mv) := (F6.out.1).cell 2
          have y0 : w6.cell? ⟨w.heap.size + 1, 0, none⟩ = some (.slice none 0 0) := (F6.out.2.1).cell 0
          have y1 : w6.cell? ⟨w.heap.size + 1, 1, none⟩ = some (.slice none 0 0) := (F6.out.2.1).cell 1
          have y2 : w6.cell? ⟨w.heap.size + 1, 2, none⟩ = some (.int .i64 0) := (F6.out.2.1).cell 2
          have yf : ∀ j, w6.frozen? ⟨w.heap.size + 1, j, none⟩ = false := fun j => (F6.out.2.1).froz j
          unfold put3 at HN HH
          go_wp2
          refine bodyPost_ret (res2 Tryz.results101 _ _ (w.heap.size + 1) 29 #[.slice (some ⟨b, 0, none⟩) l.length c, .slice (some ⟨b', 0, none⟩) o.length c', .int .i64 mv] (0, 0) _ rfl HH.out Tryz.underlying29 rfl (by kernel_rfl)) rfl ?_
          exact HN.out
      · have hkl : k < l.length := seekD_lt _ _ _ hq
        have k1 : (k : Int) < (l.length : Int) := by omega
        have q : decide ((0 : Int) ≤ (k : Int)) = true := by simp
        have HVAL := hide1 (show takeR l o mv key = some (l.set k gC, o, mv) by rw [takeR, hq])
        have z1 : w4.cell? ⟨w2.heap.size, 0, none⟩ = some (.slice (some ⟨b, 0, none⟩) l.length c) := F4.out.1.cell 0
        obtain ⟨v0, t0⟩ := own_some F4.out.2.2.2.1 (k * 2) (by omega)
        obtain ⟨v1, t1⟩ := own_some F4.out.2.2.2.1 (k * 2 + 1) (by omega)
        have g0 := F4.out.2.2.2.1.frozenAt (k * 2)
        have g1 := F4.out.2.2.2.1.frozenAt (k * 2 + 1)
        have F6 : Hid (Blk ((w4.setCell ⟨b, k * 2, none⟩ (.string ⟨#[]⟩)).setCell ⟨b, k * 2 + 1, none⟩ (.int .i64 (-2))) w2.heap.size 29 [.slice (some ⟨b, 0, none⟩) l.length c, .slice (some ⟨b', 0, none⟩) o.length c', .int .i64 mv] ∧ Blk ((w4.setCell ⟨b, k * 2, none⟩ (.string ⟨#[]⟩)).setCell ⟨b, k * 2 + 1, none⟩ (.int .i64 (-2))) (w.heap.size + 1) 29 [.slice none 0 0, .slice none 0 0, .int .i64 0] ∧ ((w4.setCell ⟨b, k * 2, none⟩ (.string ⟨#[]⟩)).setCell ⟨b, k * 2 + 1, none⟩ (.int .i64 (-2))).ownsRow w1.heap.size 132 2 (.slice (some ⟨b, 0, none⟩) l.length c) l.length (ces (l.set k gC)) ∧ ((w4.setCell ⟨b, k * 2, none⟩ (.string ⟨#[]⟩)).setCell ⟨b, k * 2 + 1, none⟩ (.int .i64 (-2))).ownsRow w1.heap.size 132 2 (.slice (some ⟨b', 0, none⟩) o.length c') o.length (ces o) ∧ Below w.heap.size w ((w4.setCell ⟨b, k * 2, none⟩ (.string ⟨#[]⟩)).setCell ⟨b, k * 2 + 1, none⟩ (.int .i64 (-2)))) := by
          refine ⟨(F4.out.1.far _ _ (by dsimp only; omega)).far _ _ (by dsimp only; omega), (F4.out.2.2.1.far _ _ (by dsimp only; omega)).far _ _ (by dsimp only; omega), own_set2 F4.out.2.2.2.1 rfl k hkl gC, own_far (own_far F4.out.2.2.2.2.1 _ _ ?_) _ _ ?_, below_set2 F4.out.2.2.2.2.2 (by omega) k gC⟩
          all_goals
            intro j hj
            have e : b' = j := Option.some.inj hj
            dsimp only
            omega
        unfold optI
        clear hq F4
        go_upto_region 7 with fail
        clear z1 t0 t1 g0 g1
        generalize ((w4.setCell ⟨b, k * 2, none⟩ (.string ⟨#[]⟩)).setCell ⟨b, k * 2 + 1, none⟩ (.int .i64 (-2))) = w6 at F6 ⊢
        have HN := hide1 (MadeT.fin (r := w.heap.size + 1) (ok := OkT l o mv ∧ key.toList ≠ []) (R := takeR l o mv key) (M := mv) F6.out.2.2.2.2 (by omega) (own_base F6.out.2.2.1 (by omega)) (List.length_set ..) (own_base F6.out.2.2.2.1 (by omega)) (rfl) (apart_ne hne) (fun k hk => by have e : b = k := Option.some.inj hk; omega) (fun k hk => by have e : b' = k := Option.some.inj hk; omega) (⟨HOK.out, HD.out⟩) (HVAL.out) (.slice (some ⟨b, 0, none⟩) l.length c) (.slice (some ⟨b', 0, none⟩) o.length c') (.int .i64 mv))
        have HH := hide1 (put3_blk F6.out.2.1 (.slice (some ⟨b, 0, none⟩) l.length c) (.slice (some ⟨b', 0, none⟩) o.length c') (.int .i64 mv))
        have q0 : w6.cell? ⟨w2.heap.size, 0, none⟩ = some (.slice (some ⟨b, 0, none⟩) l.length c) := (F6.out.1).cell 0
        have q1 : w6.cell? ⟨w2.heap.size, 1, none⟩ = some (.slice (some ⟨b', 0, none⟩) o.length c') := (F6.out.1).cell 1
        have q2 : w6.cell? ⟨w2.heap.size, 2, none⟩ = some (.int .i64 mv) := (F6.out.1).cell 2
        have y0 : w6.cell? ⟨w.heap.size + 1, 0, none⟩ = some (.slice none 0 0) := (F6.out.2.1).cell 0
        have y1 : w6.cell? ⟨w.heap.size + 1, 1, none⟩ = some (.slice none 0 0) := (F6.out.2.1).cell 1
        have y2 : w6.cell? ⟨w.heap.size + 1, 2, none⟩ = some (.int .i64 0) := (F6.out.2.1).cell 2
        have yf : ∀ j, w6.frozen? ⟨w.heap.size + 1, j, none⟩ = false := fun j => (F6.out.2.1).froz j
        unfold put3 at HN HH
        go_wp2
        refine bodyPost_ret (res2 Tryz.results101 _ _ (w.heap.size + 1) 29 #[.slice (some ⟨b, 0, none⟩) l.length c, .slice (some ⟨b', 0, none⟩) o.length c', .int .i64 mv] (0, 0) _ rfl HH.out Tryz.underlying29 rfl (by kernel_rfl)) rfl ?_
        exact HN.out

end Go.Proofs.YtjgiobdpbbhekaaGreatDoor
namespace Go.Proofs.YtjgiobdpbbhekaaGreatDoor
open Go.RowKit

theorem seekD_key {l : List Ce} {key : ByteArray} {p : Nat} : ∀ (d i k : Nat), seekD l key p i d = some k → ∃ x, l[k]? = some x ∧ x.key.toList = key.toList
  | 0, _, _, h => by cases h
  | d + 1, i, k, h => by
    rw [seekD] at h
    have hs : ∀ r, stepS l key ((p + i) % l.length) = some (some r) → ∃ x, l[r]? = some x ∧ x.key.toList = key.toList := by
      intro r hr
      unfold stepS at hr
      split at hr
      · rename_i x hx
        split at hr
        · rename_i hc
          injection hr with hr
          injection hr with hr
          rw [← hr]
          exact ⟨x, hx, hc.1⟩
        · split at hr <;> cases hr
      · cases hr
    split at h
    · rename_i r hr; subst h; exact hs k hr
    · exact seekD_key d (i + 1) k h
theorem seekC_key {l : List Ce} {key : ByteArray} {k : Nat} (h : seekC l key = some k) (hk : k < l.length) : l[k].key = key := by
  obtain ⟨x, hx, e⟩ := seekD_key _ _ _ h
  rw [List.getElem?_eq_getElem hk] at hx
  rw [Option.some.inj hx]
  exact bytes_eq e

theorem putC_length {l l' : List Ce} {key : ByteArray} {h : Int} (e : putC l key h = some l') : l'.length = l.length := by
  unfold putC at e
  split at e
  · split at e
    · split at e
      · cases e
      · injection e with e; rw [← e, List.length_set]
    · cases e
  · cases e

set_option maxRecDepth 100000 in
set_option maxHeartbeats 4000000 in
theorem specPutKey_any (ao a' : Option Addr) (l o : List Ce) (ca ca' : Nat) (mv : Int) (key : ByteArray) (h : Int) (w : World) (hl : l.length ≤ 1048576) (hl' : o.length ≤ 1048576) (hk : key.size ≤ 1048576) (hA : RdC w ao l) (hA' : RdC w a' o) :
    Calls Tryz.prog 43 #[tbV ao l.length ca a' o.length ca' mv, .string key, .int .i64 h] w fun e w' => MadeT w w' e (putOk l o mv key h) (putR l o mv key h) := by
  have CI := hide1 (fun w => in_any (key.size : Int) 1 12 w)
  have CB := hide1 (fun w' (hb : Below w.heap.size w w') => specTOk_any ao a' l o ca ca' mv w' hl hl' (hA.later hb) (hA'.later hb))
  have HA := hide1 hA
  have HA' := hide1 hA'
  have F0 := hide1 (boxes w #[.slice ao l.length ca, .slice a' o.length ca', .int .i64 mv] #[.slice none 0 0, .slice none 0 0, .int .i64 0] 29)
  clear hA hA'
  unfold tbV at CB ⊢
  go_enter Tryz.func43, Tryz.ntmps43
  go_wp2_with fail
  generalize ((w.alloc (.cells #[.slice ao l.length ca, .slice a' o.length ca', .int .i64 mv] 29)).alloc (.cells #[.slice none 0 0, .slice none 0 0, .int .i64 0] 29)) = w0 at F0 ⊢
  obtain ⟨K0, R0, B0⟩ := F0.out
  have hs0 : w.heap.size < w0.heap.size := K0.lt
  have hs1 : w.heap.size + 1 < w0.heap.size := R0.lt
  have K0 := hide1 K0
  have R0 := hide1 R0
  have B0 := hide1 B0
  clear F0
  refine (CB.out w0 B0.out).mono ?_
  rintro e w1 ⟨x, rfl, hx, hb1⟩
  have HX := hide1 hx
  have K1 := hide1 (K0.out.below hb1 hs0)
  have R1 := hide1 (R0.out.below hb1 hs1)
  have B1 := hide1 (B0.out.trans (hb1.mono B0.out.size))
  have S1 := hide1 hb1.size
  clear hb1 CB hx K0 R0
  rcases x with _ | _
  · have HNO := hide1 (show ¬ OkT l o mv from fun h => by have := HX.out.2 h; cases this)
    clear HX
    have HN := hide1 (MadeT.no (r := w.heap.size + 1) (R := putR l o mv key h) (ok := putOk l o mv key h) B1.out (by omega) (fun h => HNO.out h.1.1) (.slice none 0 0) (.slice none 0 0) (.int .i64 0))
    have HH := hide1 (put3_blk R1.out (.slice none 0 0) (.slice none 0 0) (.int .i64 0))
    have y0 : w1.cell? ⟨w.heap.size + 1, 0, none⟩ = some (.slice none 0 0) := R1.out.cell 0
    have y1 : w1.cell? ⟨w.heap.size + 1, 1, none⟩ = some (.slice none 0 0) := R1.out.cell 1
    have y2 : w1.cell? ⟨w.heap.size + 1, 2, none⟩ = some (.int .i64 0) := R1.out.cell 2
    have yf : ∀ j, w1.frozen? ⟨w.heap.size + 1, j, none⟩ = false := fun j => R1.out.froz j
    unfold put3 at HN HH
    go_wp2
    refine bodyPost_ret (res2 Tryz.results43 _ _ (w.heap.size + 1) 29 #[.slice none 0 0, .slice none 0 0, .int .i64 0] (0, 0) _ rfl HH.out Tryz.underlying29 rfl (by kernel_rfl)) rfl ?_
    exact HN.out
  · have HOK := hide1 (HX.out.1 rfl)
    have HLN := hide1 HOK.out.len
    clear HX
    go_wp2_with fail
    refine (CI.out w1).mono ?_
    rintro e w9 ⟨rfl, hw9⟩
    rw [show w9 = w1 by first | exact hw9 | exact hw9.symm]
    clear hw9 w9
    by_cases c1 : 1 ≤ key.size ∧ key.size ≤ 12
    · have qi : (decide ((1 : Int) ≤ (key.size : Int)) && decide ((key.size : Int) ≤ 12)) = true := by simp; omega
      rw [qi]
      clear qi
      by_cases ch : h < 0
      · have qh : decide (h < 0) = true := decide_eq_true ch
        have HNP := hide1 (show ¬ putOk l o mv key h from fun hp => by have := hp.2.2.2; omega)
        clear ch c1
        have HN := hide1 (MadeT.no (r := w.heap.size + 1) (R := putR l o mv key h) (ok := putOk l o mv key h) B1.out (by omega) (fun hp => HNP.out hp.1) (.slice none 0 0) (.slice none 0 0) (.int .i64 0))
        have HH := hide1 (put3_blk R1.out (.slice none 0 0) (.slice none 0 0) (.int .i64 0))
        have y0 : w1.cell? ⟨w.heap.size + 1, 0, none⟩ = some (.slice none 0 0) := R1.out.cell 0
        have y1 : w1.cell? ⟨w.heap.size + 1, 1, none⟩ = some (.slice none 0 0) := R1.out.cell 1
        have y2 : w1.cell? ⟨w.heap.size + 1, 2, none⟩ = some (.int .i64 0) := R1.out.cell 2
        have yf : ∀ j, w1.frozen? ⟨w.heap.size + 1, j, none⟩ = false := fun j => R1.out.froz j
        unfold put3 at HN HH
        go_wp2
        refine bodyPost_ret (res2 Tryz.results43 _ _ (w.heap.size + 1) 29 #[.slice none 0 0, .slice none 0 0, .int .i64 0] (0, 0) _ rfl HH.out Tryz.underlying29 rfl (by kernel_rfl)) rfl ?_
        exact HN.out
      · have qh : decide (h < 0) = false := decide_eq_false ch
        have HP := hide1 (show putOk l o mv key h from ⟨HOK.out, c1.1, c1.2, by omega⟩)
        clear ch c1
        have CY := hide1 (specCopyT_any ao a' l o ca ca' mv w1 hl hl' HLN.out.2.2 (HA.out.later B1.out).toJ (HA'.out.later B1.out).toJ)
        have x0 : w1.cell? ⟨w.heap.size, 0, none⟩ = some (.slice ao l.length ca) := K1.out.cell 0
        have x1 : w1.cell? ⟨w.heap.size, 1, none⟩ = some (.slice a' o.length ca') := K1.out.cell 1
        have x2 : w1.cell? ⟨w.heap.size, 2, none⟩ = some (.int .i64 mv) := K1.out.cell 2
        unfold tbV at CY
        go_wp2_with fail
        refine CY.out.mono ?_
        rintro e w2 ⟨v, rfl, b, c, b', c', rfl, ho1, ho2, hne, hb2⟩
        have F3 : Hid (Blk (w2.alloc (.cells #[.slice (some ⟨b, 0, none⟩) l.length c, .slice (some ⟨b', 0, none⟩) o.length c', .int .i64 mv] 29)) w2.heap.size 29 [.slice (some ⟨b, 0, none⟩) l.length c, .slice (some ⟨b', 0, none⟩) o.length c', .int .i64 mv] ∧ Blk (w2.alloc (.cells #[.slice (some ⟨b, 0, none⟩) l.length c, .slice (some ⟨b', 0, none⟩) o.length c', .int .i64 mv] 29)) w.heap.size 29 [.slice ao l.length ca, .slice a' o.length ca', .int .i64 mv] ∧ Blk (w2.alloc (.cells #[.slice (some ⟨b, 0, none⟩) l.length c, .slice (some ⟨b', 0, none⟩) o.length c', .int .i64 mv] 29)) (w.heap.size + 1) 29 [.slice none 0 0, .slice none 0 0, .int .i64 0] ∧ (w2.alloc (.cells #[.slice (some ⟨b, 0, none⟩) l.length c, .slice (some ⟨b', 0, none⟩) o.length c', .int .i64 mv] 29)).ownsRow w1.heap.size 132 2 (.slice (some ⟨b, 0, none⟩) l.length c) l.length (ces l) ∧ (w2.alloc (.cells #[.slice (some ⟨b, 0, none⟩) l.length c, .slice (some ⟨b', 0, none⟩) o.length c', .int .i64 mv] 29)).ownsRow w1.heap.size 132 2 (.slice (some ⟨b', 0, none⟩) o.length c') o.length (ces o) ∧ Below w.heap.size w (w2.alloc (.cells #[.slice (some ⟨b, 0, none⟩) l.length c, .slice (some ⟨b', 0, none⟩) o.length c', .int .i64 mv] 29)) ∧ w2.heap.size < (w2.alloc (.cells #[.slice (some ⟨b, 0, none⟩) l.length c, .slice (some ⟨b', 0, none⟩) o.length c', .int .i64 mv] 29)).heap.size) :=
          ⟨Blk.new w2 _ _, (K1.out.below hb2 K1.out.lt).more _, (R1.out.below hb2 R1.out.lt).more _, ho1.alloc _, ho2.alloc _, (B1.out.trans (hb2.mono B1.out.size)).alloc (Nat.le_trans B1.out.size hb2.size) _, by rw [World.size_alloc]; omega⟩
        have lb := ho1.lt b rfl
        have lb' := ho2.lt b' rfl
        have s12 := hb2.size
        have s01 := S1.out
        clear ho1 ho2 hb2 x0 x1 x2 CY
        unfold tbV
        go_upto_region 4 with fail
        generalize (w2.alloc (.cells #[.slice (some ⟨b, 0, none⟩) l.length c, .slice (some ⟨b', 0, none⟩) o.length c', .int .i64 mv] 29)) = w3 at F3 ⊢
        obtain ⟨Q3, K3, R3, O3, P3, B3, hq3⟩ := F3.out
        have CS := hide1 (specSeek_any ao l ca key w3 hl hk (HA.out.later B3))
        have CS2 := hide1 (fun w' (hb : Below w.heap.size w w') => specSeek_any a' o ca' key w' hl' hk (HA'.out.later hb))
        have F3' := hide1 (And.intro Q3 (And.intro K3 (And.intro R3 (And.intro O3 (And.intro P3 B3)))))
        have hr3 := R3.lt
        have hk3 := K3.lt
        have x0 : w3.cell? ⟨w.heap.size, 0, none⟩ = some (.slice ao l.length ca) := K3.cell 0
        clear F3 Q3 K3 R3 O3 P3 B3
        go_wp2_with fail
        refine CS.out.mono ?_
        rintro e w4 ⟨rfl, hb4⟩
        have F4 : Hid (Blk w4 w2.heap.size 29 [.slice (some ⟨b, 0, none⟩) l.length c, .slice (some ⟨b', 0, none⟩) o.length c', .int .i64 mv] ∧ Blk w4 w.heap.size 29 [.slice ao l.length ca, .slice a' o.length ca', .int .i64 mv] ∧ Blk w4 (w.heap.size + 1) 29 [.slice none 0 0, .slice none 0 0, .int .i64 0] ∧ w4.ownsRow w1.heap.size 132 2 (.slice (some ⟨b, 0, none⟩) l.length c) l.length (ces l) ∧ w4.ownsRow w1.heap.size 132 2 (.slice (some ⟨b', 0, none⟩) o.length c') o.length (ces o) ∧ Below w.heap.size w w4) := by
          obtain ⟨Q3, K3, R3, O3, P3, B3⟩ := F3'.out
          exact ⟨Q3.below hb4 hq3, K3.below hb4 hk3, R3.below hb4 hr3, own_kept O3 hb4, own_kept P3 hb4, B3.trans (hb4.mono B3.size)⟩
        clear hb4 CS F3' x0
        have f0 := B0.out.size
        have hl0 : 1 ≤ l.length := HLN.out.2.2
        rcases hq : seekC l key with _ | k
        · have HQ := hide1 hq
          unfold optI
          clear hq
          have x1 : w4.cell? ⟨w.heap.size, 1, none⟩ = some (.slice a' o.length ca') := F4.out.2.1.cell 1
          have CSB := hide1 (CS2.out w4 F4.out.2.2.2.2.2)
          go_wp2_with fail
          refine CSB.out.mono ?_
          rintro e w5 ⟨rfl, hb5⟩
          have hs4 : w.heap.size + 1 < w4.heap.size := F4.out.2.2.1.lt
          have hq4 : w2.heap.size < w4.heap.size := F4.out.1.lt
          have F5 : Hid (Blk w5 w2.heap.size 29 [.slice (some ⟨b, 0, none⟩) l.length c, .slice (some ⟨b', 0, none⟩) o.length c', .int .i64 mv] ∧ Blk w5 (w.heap.size + 1) 29 [.slice none 0 0, .slice none 0 0, .int .i64 0] ∧ w5.ownsRow w1.heap.size 132 2 (.slice (some ⟨b, 0, none⟩) l.length c) l.length (ces (l)) ∧ w5.ownsRow w1.heap.size 132 2 (.slice (some ⟨b', 0, none⟩) o.length c') o.length (ces (o)) ∧ Below w.heap.size w w5) := ⟨F4.out.1.below hb5 hq4, F4.out.2.2.1.below hb5 hs4, own_kept F4.out.2.2.2.1 hb5, own_kept F4.out.2.2.2.2.1 hb5, F4.out.2.2.2.2.2.trans (hb5.mono F4.out.2.2.2.2.2.size)⟩
          clear hb5 CSB F4 x1
          rcases hq2 : seekC o key with _ | k
          · have HG := hide1 (show goneO o key = o by rw [goneO, hq2])
            unfold optI
            clear hq2
            have CPUT := hide1 (specPut_any b c w1.heap.size l key h w5 hl (by omega) hk F5.out.2.2.1)
            have z0 : w5.cell? ⟨w2.heap.size, 0, none⟩ = some (.slice (some ⟨b, 0, none⟩) l.length c) := F5.out.1.cell 0
            have hwq : w2.heap.size < w5.heap.size := F5.out.1.lt
            have hws : w.heap.size + 1 < w5.heap.size := F5.out.2.1.lt
            go_wp2_with fail
            refine CPUT.out.mono ?_
            rintro e w8 ⟨hr, hg8⟩
            have F8 : Hid (Blk w8 w2.heap.size 29 [.slice (some ⟨b, 0, none⟩) l.length c, .slice (some ⟨b', 0, none⟩) o.length c', .int .i64 mv] ∧ Blk w8 (w.heap.size + 1) 29 [.slice none 0 0, .slice none 0 0, .int .i64 0] ∧ w8.ownsRow w1.heap.size 132 2 (.slice (some ⟨b', 0, none⟩) o.length c') o.length (ces (o)) ∧ Below w.heap.size w w8) :=
              ⟨(hg8.block _ hwq (fun e => by have := Option.some.inj e; omega)).trans F5.out.1, (hg8.block _ hws (fun e => by have := Option.some.inj e; omega)).trans F5.out.2.1, F5.out.2.2.2.1.kept hg8 (.inr (fun e => hne (Option.some.inj e).symm)), F5.out.2.2.2.2.trans (gbelow hg8 (fun g e => by have := Option.some.inj e; omega) (by omega))⟩
            clear hg8 CPUT z0
            rcases hr with ⟨l', hput, rfl, ho8⟩ | ⟨hput, rfl, hww⟩
            · have HVAL := hide1 (show putR l o mv key h = some (l', o, mv) by rw [putR, HQ.out]; simp only []; rw [hput]; simp only []; rw [HG.out])
              have hll : l'.length = l.length := putC_length hput
              have O8 := hide1 ho8
              clear hput ho8
              have HN := hide1 (MadeT.fin (r := w.heap.size + 1) (ok := putOk l o mv key h) (R := putR l o mv key h) (M := mv) F8.out.2.2.2 (by omega) (own_base O8.out (by omega)) (hll) (own_base F8.out.2.2.1 (by omega)) (rfl) (apart_ne hne) (fun k hk => by have e : b = k := Option.some.inj hk; omega) (fun k hk => by have e : b' = k := Option.some.inj hk; omega) (HP.out) (HVAL.out) (.slice (some ⟨b, 0, none⟩) l.length c) (.slice (some ⟨b', 0, none⟩) o.length c') (.int .i64 mv))
              have HH := hide1 (put3_blk F8.out.2.1 (.slice (some ⟨b, 0, none⟩) l.length c) (.slice (some ⟨b', 0, none⟩) o.length c') (.int .i64 mv))
              have q0 : w8.cell? ⟨w2.heap.size, 0, none⟩ = some (.slice (some ⟨b, 0, none⟩) l.length c) := (F8.out.1).cell 0
              have q1 : w8.cell? ⟨w2.heap.size, 1, none⟩ = some (.slice (some ⟨b', 0, none⟩) o.length c') := (F8.out.1).cell 1
              have q2 : w8.cell? ⟨w2.heap.size, 2, none⟩ = some (.int .i64 mv) := (F8.out.1).cell 2
              have y0 : w8.cell? ⟨w.heap.size + 1, 0, none⟩ = some (.slice none 0 0) := (F8.out.2.1).cell 0
              have y1 : w8.cell? ⟨w.heap.size + 1, 1, none⟩ = some (.slice none 0 0) := (F8.out.2.1).cell 1
              have y2 : w8.cell? ⟨w.heap.size + 1, 2, none⟩ = some (.int .i64 0) := (F8.out.2.1).cell 2
              have yf : ∀ j, w8.frozen? ⟨w.heap.size + 1, j, none⟩ = false := fun j => (F8.out.2.1).froz j
              unfold put3 at HN HH
              go_wp2
              refine bodyPost_ret (res2 Tryz.results43 _ _ (w.heap.size + 1) 29 #[.slice (some ⟨b, 0, none⟩) l.length c, .slice (some ⟨b', 0, none⟩) o.length c', .int .i64 mv] (0, 0) _ rfl HH.out Tryz.underlying29 rfl (by kernel_rfl)) rfl ?_
              exact HN.out
            · have HPN := hide1 hput
              have R8 := hide1 F8.out.2.1
              have B8 := hide1 F8.out.2.2.2
              clear hput hww
              have HN := hide1 (MadeT.no (r := w.heap.size + 1) (R := putR l o mv key h) (ok := putOk l o mv key h) B8.out (by omega) (fun hp => by obtain ⟨x, hx⟩ := hp.2; rw [putR, HQ.out] at hx; simp only [] at hx; rw [HPN.out] at hx; cases hx) (.slice none 0 0) (.slice none 0 0) (.int .i64 0))
              have HH := hide1 (put3_blk R8.out (.slice none 0 0) (.slice none 0 0) (.int .i64 0))
              have y0 : w8.cell? ⟨w.heap.size + 1, 0, none⟩ = some (.slice none 0 0) := R8.out.cell 0
              have y1 : w8.cell? ⟨w.heap.size + 1, 1, none⟩ = some (.slice none 0 0) := R8.out.cell 1
              have y2 : w8.cell? ⟨w.heap.size + 1, 2, none⟩ = some (.int .i64 0) := R8.out.cell 2
              have yf : ∀ j, w8.frozen? ⟨w.heap.size + 1, j, none⟩ = false := fun j => R8.out.froz j
              unfold put3 at HN HH
              go_wp2
              refine bodyPost_ret (res2 Tryz.results43 _ _ (w.heap.size + 1) 29 #[.slice none 0 0, .slice none 0 0, .int .i64 0] (0, 0) _ rfl HH.out Tryz.underlying29 rfl (by kernel_rfl)) rfl ?_
              exact HN.out
          · have hkl : k < o.length := seekD_lt _ _ _ hq2
            have k1 : (k : Int) < (o.length : Int) := by omega
            have q : decide ((0 : Int) ≤ (k : Int)) = true := by simp
            have HG := hide1 (show goneO o key = o.set k gC by rw [goneO, hq2])
            have z1 : w5.cell? ⟨w2.heap.size, 1, none⟩ = some (.slice (some ⟨b', 0, none⟩) o.length c') := F5.out.1.cell 1
            obtain ⟨v0, t0⟩ := own_some F5.out.2.2.2.1 (k * 2) (by omega)
            obtain ⟨v1, t1⟩ := own_some F5.out.2.2.2.1 (k * 2 + 1) (by omega)
            have g0 := F5.out.2.2.2.1.frozenAt (k * 2)
            have g1 := F5.out.2.2.2.1.frozenAt (k * 2 + 1)
            have F6 : Hid (Blk ((w5.setCell ⟨b', k * 2, none⟩ (.string ⟨#[]⟩)).setCell ⟨b', k * 2 + 1, none⟩ (.int .i64 (-2))) w2.heap.size 29 [.slice (some ⟨b, 0, none⟩) l.length c, .slice (some ⟨b', 0, none⟩) o.length c', .int .i64 mv] ∧ Blk ((w5.setCell ⟨b', k * 2, none⟩ (.string ⟨#[]⟩)).setCell ⟨b', k * 2 + 1, none⟩ (.int .i64 (-2))) (w.heap.size + 1) 29 [.slice none 0 0, .slice none 0 0, .int .i64 0] ∧ ((w5.setCell ⟨b', k * 2, none⟩ (.string ⟨#[]⟩)).setCell ⟨b', k * 2 + 1, none⟩ (.int .i64 (-2))).ownsRow w1.heap.size 132 2 (.slice (some ⟨b, 0, none⟩) l.length c) l.length (ces (l)) ∧ ((w5.setCell ⟨b', k * 2, none⟩ (.string ⟨#[]⟩)).setCell ⟨b', k * 2 + 1, none⟩ (.int .i64 (-2))).ownsRow w1.heap.size 132 2 (.slice (some ⟨b', 0, none⟩) o.length c') o.length (ces (o.set k gC)) ∧ Below w.heap.size w ((w5.setCell ⟨b', k * 2, none⟩ (.string ⟨#[]⟩)).setCell ⟨b', k * 2 + 1, none⟩ (.int .i64 (-2)))) := by
              refine ⟨(F5.out.1.far _ _ (by dsimp only; omega)).far _ _ (by dsimp only; omega), (F5.out.2.1.far _ _ (by dsimp only; omega)).far _ _ (by dsimp only; omega), own_far (own_far F5.out.2.2.1 _ _ ?_) _ _ ?_, own_set2 F5.out.2.2.2.1 rfl k hkl gC, below_set2 F5.out.2.2.2.2 (by omega) k gC⟩
              all_goals
                intro j hj
                have e : b = j := Option.some.inj hj
                dsimp only
                omega
            unfold optI
            clear hq2 F5
            go_upto_region 11 with fail
            clear z1 t0 t1 g0 g1
            generalize ((w5.setCell ⟨b', k * 2, none⟩ (.string ⟨#[]⟩)).setCell ⟨b', k * 2 + 1, none⟩ (.int .i64 (-2))) = w6 at F6 ⊢
            have CPUT := hide1 (specPut_any b c w1.heap.size l key h w6 hl (by omega) hk F6.out.2.2.1)
            have z0 : w6.cell? ⟨w2.heap.size, 0, none⟩ = some (.slice (some ⟨b, 0, none⟩) l.length c) := F6.out.1.cell 0
            have hwq : w2.heap.size < w6.heap.size := F6.out.1.lt
            have hws : w.heap.size + 1 < w6.heap.size := F6.out.2.1.lt
            go_wp2_with fail
            refine CPUT.out.mono ?_
            rintro e w8 ⟨hr, hg8⟩
            have F8 : Hid (Blk w8 w2.heap.size 29 [.slice (some ⟨b, 0, none⟩) l.length c, .slice (some ⟨b', 0, none⟩) o.length c', .int .i64 mv] ∧ Blk w8 (w.heap.size + 1) 29 [.slice none 0 0, .slice none 0 0, .int .i64 0] ∧ w8.ownsRow w1.heap.size 132 2 (.slice (some ⟨b', 0, none⟩) o.length c') o.length (ces (o.set k gC)) ∧ Below w.heap.size w w8) :=
              ⟨(hg8.block _ hwq (fun e => by have := Option.some.inj e; omega)).trans F6.out.1, (hg8.block _ hws (fun e => by have := Option.some.inj e; omega)).trans F6.out.2.1, F6.out.2.2.2.1.kept hg8 (.inr (fun e => hne (Option.some.inj e).symm)), F6.out.2.2.2.2.trans (gbelow hg8 (fun g e => by have := Option.some.inj e; omega) (by omega))⟩
            clear hg8 CPUT z0
            rcases hr with ⟨l', hput, rfl, ho8⟩ | ⟨hput, rfl, hww⟩
            · have HVAL := hide1 (show putR l o mv key h = some (l', o.set k gC, mv) by rw [putR, HQ.out]; simp only []; rw [hput]; simp only []; rw [HG.out])
              have hll : l'.length = l.length := putC_length hput
              have O8 := hide1 ho8
              clear hput ho8
              have HN := hide1 (MadeT.fin (r := w.heap.size + 1) (ok := putOk l o mv key h) (R := putR l o mv key h) (M := mv) F8.out.2.2.2 (by omega) (own_base O8.out (by omega)) (hll) (own_base F8.out.2.2.1 (by omega)) (List.length_set ..) (apart_ne hne) (fun k hk => by have e : b = k := Option.some.inj hk; omega) (fun k hk => by have e : b' = k := Option.some.inj hk; omega) (HP.out) (HVAL.out) (.slice (some ⟨b, 0, none⟩) l.length c) (.slice (some ⟨b', 0, none⟩) o.length c') (.int .i64 mv))
              have HH := hide1 (put3_blk F8.out.2.1 (.slice (some ⟨b, 0, none⟩) l.length c) (.slice (some ⟨b', 0, none⟩) o.length c') (.int .i64 mv))
              have q0 : w8.cell? ⟨w2.heap.size, 0, none⟩ = some (.slice (some ⟨b, 0, none⟩) l.length c) := (F8.out.1).cell 0
              have q1 : w8.cell? ⟨w2.heap.size, 1, none⟩ = some (.slice (some ⟨b', 0, none⟩) o.length c') := (F8.out.1).cell 1
              have q2 : w8.cell? ⟨w2.heap.size, 2, none⟩ = some (.int .i64 mv) := (F8.out.1).cell 2
              have y0 : w8.cell? ⟨w.heap.size + 1, 0, none⟩ = some (.slice none 0 0) := (F8.out.2.1).cell 0
              have y1 : w8.cell? ⟨w.heap.size + 1, 1, none⟩ = some (.slice none 0 0) := (F8.out.2.1).cell 1
              have y2 : w8.cell? ⟨w.heap.size + 1, 2, none⟩ = some (.int .i64 0) := (F8.out.2.1).cell 2
              have yf : ∀ j, w8.frozen? ⟨w.heap.size + 1, j, none⟩ = false := fun j => (F8.out.2.1).froz j
              unfold put3 at HN HH
              go_wp2
              refine bodyPost_ret (res2 Tryz.results43 _ _ (w.heap.size + 1) 29 #[.slice (some ⟨b, 0, none⟩) l.length c, .slice (some ⟨b', 0, none⟩) o.length c', .int .i64 mv] (0, 0) _ rfl HH.out Tryz.underlying29 rfl (by kernel_rfl)) rfl ?_
              exact HN.out
            · have HPN := hide1 hput
              have R8 := hide1 F8.out.2.1
              have B8 := hide1 F8.out.2.2.2
              clear hput hww
              have HN := hide1 (MadeT.no (r := w.heap.size + 1) (R := putR l o mv key h) (ok := putOk l o mv key h) B8.out (by omega) (fun hp => by obtain ⟨x, hx⟩ := hp.2; rw [putR, HQ.out] at hx; simp only [] at hx; rw [HPN.out] at hx; cases hx) (.slice none 0 0) (.slice none 0 0) (.int .i64 0))
              have HH := hide1 (put3_blk R8.out (.slice none 0 0) (.slice none 0 0) (.int .i64 0))
              have y0 : w8.cell? ⟨w.heap.size + 1, 0, none⟩ = some (.slice none 0 0) := R8.out.cell 0
              have y1 : w8.cell? ⟨w.heap.size + 1, 1, none⟩ = some (.slice none 0 0) := R8.out.cell 1
              have y2 : w8.cell? ⟨w.heap.size + 1, 2, none⟩ = some (.int .i64 0) := R8.out.cell 2
              have yf : ∀ j, w8.frozen? ⟨w.heap.size + 1, j, none⟩ = false := fun j => R8.out.froz j
              unfold put3 at HN HH
              go_wp2
              refine bodyPost_ret (res2 Tryz.results43 _ _ (w.heap.size + 1) 29 #[.slice none 0 0, .slice none 0 0, .int .i64 0] (0, 0) _ rfl HH.out Tryz.underlying29 rfl (by kernel_rfl)) rfl ?_
              exact HN.out
        · have hkl : k < l.length := seekD_lt _ _ _ hq
          have k1 : (k : Int) < (l.length : Int) := by omega
          have q : decide ((0 : Int) ≤ (k : Int)) = true := by simp
          have HVAL := hide1 (show putR l o mv key h = some (l.set k ⟨key, h⟩, o, mv) by rw [putR, hq])
          have hkey := seekC_key hq hkl
          have z1 : w4.cell? ⟨w2.heap.size, 0, none⟩ = some (.slice (some ⟨b, 0, none⟩) l.length c) := F4.out.1.cell 0
          obtain ⟨v1, t1⟩ := own_some F4.out.2.2.2.1 (k * 2 + 1) (by omega)
          have g1 := F4.out.2.2.2.1.frozenAt (k * 2 + 1)
          have F6 : Hid (Blk (w4.setCell ⟨b, k * 2 + 1, none⟩ (.int .i64 h)) w2.heap.size 29 [.slice (some ⟨b, 0, none⟩) l.length c, .slice (some ⟨b', 0, none⟩) o.length c', .int .i64 mv] ∧ Blk (w4.setCell ⟨b, k * 2 + 1, none⟩ (.int .i64 h)) (w.heap.size + 1) 29 [.slice none 0 0, .slice none 0 0, .int .i64 0] ∧ (w4.setCell ⟨b, k * 2 + 1, none⟩ (.int .i64 h)).ownsRow w1.heap.size 132 2 (.slice (some ⟨b, 0, none⟩) l.length c) l.length (ces (l.set k ⟨key, h⟩)) ∧ (w4.setCell ⟨b, k * 2 + 1, none⟩ (.int .i64 h)).ownsRow w1.heap.size 132 2 (.slice (some ⟨b', 0, none⟩) o.length c') o.length (ces (o)) ∧ Below w.heap.size w (w4.setCell ⟨b, k * 2 + 1, none⟩ (.int .i64 h))) := by
            refine ⟨F4.out.1.far _ _ (by dsimp only; omega), F4.out.2.2.1.far _ _ (by dsimp only; omega), ?_, own_far F4.out.2.2.2.2.1 _ _ ?_, F4.out.2.2.2.2.2.setCell (p := ⟨b, k * 2 + 1, none⟩) (by dsimp only; omega) _⟩
            · have st := (World.ownsRow.stored F4.out.2.2.2.1 (k * 2 + 1) (.int .i64 h)).1
              rw [ces_setH hkl, hkey] at st
              exact st
            · intro j hj
              have e : b' = j := Option.some.inj hj
              dsimp only
              omega
          unfold optI
          clear hq F4 hkey
          go_upto_region 7 with fail
          clear z1 t1 g1
          generalize (w4.setCell ⟨b, k * 2 + 1, none⟩ (.int .i64 h)) = w6 at F6 ⊢
          have HN := hide1 (MadeT.fin (r := w.heap.size + 1) (ok := putOk l o mv key h) (R := putR l o mv key h) (M := mv) F6.out.2.2.2.2 (by omega) (own_base F6.out.2.2.1 (by omega)) (List.length_set ..) (own_base F6.out.2.2.2.1 (by omega)) (rfl) (apart_ne hne) (fun k hk => by have e : b = k := Option.some.inj hk; omega) (fun k hk => by have e : b' = k := Option.some.inj hk; omega) (HP.out) (HVAL.out) (.slice (some ⟨b, 0, none⟩) l.length c) (.slice (some ⟨b', 0, none⟩) o.length c') (.int .i64 mv))
          have HH := hide1 (put3_blk F6.out.2.1 (.slice (some ⟨b, 0, none⟩) l.length c) (.slice (some ⟨b', 0, none⟩) o.length c') (.int .i64 mv))
          have q0 : w6.cell? ⟨w2.heap.size, 0, none⟩ = some (.slice (some ⟨b, 0, none⟩) l.length c) := (F6.out.1).cell 0
          have q1 : w6.cell? ⟨w2.heap.size, 1, none⟩ = some (.slice (some ⟨b', 0, none⟩) o.length c') := (F6.out.1).cell 1
          have q2 : w6.cell? ⟨w2.heap.size, 2, none⟩ = some (.int .i64 mv) := (F6.out.1).cell 2
          have y0 : w6.cell? ⟨w.heap.size + 1, 0, none⟩ = some (.slice none 0 0) := (F6.out.2.1).cell 0
          have y1 : w6.cell? ⟨w.heap.size + 1, 1, none⟩ = some (.slice none 0 0) := (F6.out.2.1).cell 1
          have y2 : w6.cell? ⟨w.heap.size + 1, 2, none⟩ = some (.int .i64 0) := (F6.out.2.1).cell 2
          have yf : ∀ j, w6.frozen? ⟨w.heap.size + 1, j, none⟩ = false := fun j => (F6.out.2.1).froz j
          unfold put3 at HN HH
          go_wp2
          refine bodyPost_ret (res2 Tryz.results43 _ _ (w.heap.size + 1) 29 #[.slice (some ⟨b, 0, none⟩) l.length c, .slice (some ⟨b', 0, none⟩) o.length c', .int .i64 mv] (0, 0) _ rfl HH.out Tryz.underlying29 rfl (by kernel_rfl)) rfl ?_
          exact HN.out
    · have qi : (decide ((1 : Int) ≤ (key.size : Int)) && decide ((key.size : Int) ≤ 12)) = false := by rw [Bool.and_eq_false_iff]; simp; omega
      rw [qi]
      have HNP := hide1 (show ¬ putOk l o mv key h from fun hp => c1 ⟨hp.2.1, hp.2.2.1⟩)
      clear c1 qi
      have HN := hide1 (MadeT.no (r := w.heap.size + 1) (R := putR l o mv key h) (ok := putOk l o mv key h) B1.out (by omega) (fun hp => HNP.out hp.1) (.slice none 0 0) (.slice none 0 0) (.int .i64 0))
      have HH := hide1 (put3_blk R1.out (.slice none 0 0) (.slice none 0 0) (.int .i64 0))
      have y0 : w1.cell? ⟨w.heap.size + 1, 0, none⟩ = some (.slice none 0 0) := R1.out.cell 0
      have y1 : w1.cell? ⟨w.heap.size + 1, 1, none⟩ = some (.slice none 0 0) := R1.out.cell 1
      have y2 : w1.cell? ⟨w.heap.size + 1, 2, none⟩ = some (.int .i64 0) := R1.out.cell 2
      have yf : ∀ j, w1.frozen? ⟨w.heap.size + 1, j, none⟩ = false := fun j => R1.out.froz j
      unfold put3 at HN HH
      go_wp2
      refine bodyPost_ret (res2 Tryz.results43 _ _ (w.heap.size + 1) 29 #[.slice none 0 0, .slice none 0 0, .int .i64 0] (0, 0) _ rfl HH.out Tryz.underlying29 rfl (by kernel_rfl)) rfl ?_
      exact HN.out

end Go.Proofs.YtjgiobdpbbhekaaGreatDoor
namespace Go.Proofs.YtjgiobdpbbhekaaGreatDoor
open Go.RowKit

end Go.Proofs.YtjgiobdpbbhekaaGreatDoor
namespace Go.Proofs.YtjgiobdpbbhekaaGreatDoor
open Go.ChangeShapes Go.WideShapes Go.ChangeAt Go.RowKit Go.Deep Go.Joins

instance : Inhabited Ce := ⟨zC⟩

theorem RdC.below {w w' : World} {a : Option Addr} {l : List Ce} {B : Nat} (h : RdC w a l) (hb : Below B w w') (hB : ∀ b, a = some ⟨b, 0, none⟩ → b < B) : RdC w' a l := by
  rcases h with h | ⟨g, ha, hg, hc⟩
  · exact .inl h
  · exact .inr ⟨g, ha, Nat.lt_of_lt_of_le hg hb.size, fun i hi => (hc i hi).below hb (hB g ha)⟩
theorem RdJ.below {w w' : World} {a : Option Addr} {l : List Ce} {B : Nat} (h : RdJ w a l) (hb : Below B w w') (hB : ∀ b f, a = some ⟨b, f, none⟩ → l ≠ [] → b < B) : RdJ w' a l := by
  intro i hi
  obtain ⟨b, o, ha, hg, hc⟩ := h i hi
  exact ⟨b, o, ha, Nat.lt_of_lt_of_le hg hb.size, hc.below hb (hB b o ha (fun e => by subst e; simp at hi))⟩
/-- Two rows of a table that are the call's own, behind a bound. -/
def Own2 (w : World) (B : Nat) (ao : Option Addr) (c : Nat) (L : List Ce) (a' : Option Addr) (c' : Nat) (O : List Ce) : Prop := w.ownsRow B 132 2 (.slice ao L.length c) L.length (ces L) ∧ w.ownsRow B 132 2 (.slice a' O.length c') O.length (ces O) ∧ apart2 (.slice ao L.length c) (.slice a' O.length c')
theorem Own2.rd {w : World} {B c c' : Nat} {ao a' : Option Addr} {L O : List Ce} (h : Own2 w B ao c L a' c' O) : RdC w ao L ∧ RdC w a' O := ⟨rdC_of_own h.1, rdC_of_own h.2.1⟩
theorem Own2.later {w w' : World} {B c c' : Nat} {ao a' : Option Addr} {L O : List Ce} (h : Own2 w B ao c L a' c' O) (hb : Below w.heap.size w w') : Own2 w' B ao c L a' c' O := ⟨own_kept h.1 hb, own_kept h.2.1 hb, h.2.2⟩
theorem Own2.base {w : World} {B B' c c' : Nat} {ao a' : Option Addr} {L O : List Ce} (h : Own2 w B ao c L a' c' O) (hB : B' ≤ B) : Own2 w B' ao c L a' c' O := ⟨own_base h.1 hB, own_base h.2.1 hB, h.2.2⟩
/-- The blocks of two rows lie between two bounds. -/
theorem Own2.lt {w : World} {B c c' : Nat} {ao a' : Option Addr} {L O : List Ce} (h : Own2 w B ao c L a' c' O) : ∀ g, ((Value.slice ao L.length c).ownBlock = some g ∨ (Value.slice a' O.length c').ownBlock = some g) → B ≤ g ∧ g < w.heap.size := by
  rintro g (e | e)
  · exact h.1.lt g e
  · exact h.2.1.lt g e
/-- What a mark of a table leaves as it was: all but its rows. -/
structure Mk2 (w w' : World) (u v : Value) : Prop where
  block : ∀ j, j < w.heap.size → u.ownBlock ≠ some j → v.ownBlock ≠ some j → w'.heap[j]? = w.heap[j]?
  os : w'.os = w.os
  tape : w'.tape = w.tape
  output : w'.output = w.output
  size : w.heap.size ≤ w'.heap.size
theorem Mk2.below {w w' : World} {u v : Value} {B : Nat} (h : Mk2 w w' u v) (hB : ∀ g, (u.ownBlock = some g ∨ v.ownBlock = some g) → B ≤ g) (hs : B ≤ w.heap.size) : Below B w w' :=
  ⟨h.os, h.tape, h.output, h.size, fun k hk => h.block k (by omega) (fun e => by have := hB k (.inl e); omega) (fun e => by have := hB k (.inr e); omega)⟩
theorem Mk2.blk {w w' : World} {u v : Value} {r : Nat} {t : TypeId} {cs : List Value} (h : Mk2 w w' u v) (hB : Blk w r t cs) (h1 : u.ownBlock ≠ some r) (h2 : v.ownBlock ≠ some r) : Blk w' r t cs := (h.block r hB.lt h1 h2).trans hB
theorem Mk2.own {w w' : World} {u v x : Value} {base n : Nat} {xs : List Value} (h : Mk2 w w' u v) (hO : w.ownsRow base 132 2 x n xs) (h1 : ∀ k, x.ownBlock = some k → u.ownBlock ≠ some k) (h2 : ∀ k, x.ownBlock = some k → v.ownBlock ≠ some k) : w'.ownsRow base 132 2 x n xs := by
  refine ⟨hO.1, ?_⟩
  rcases hO.2 with ⟨hv, hn⟩ | ⟨g, cap, cur, hv, hb, hh, r⟩
  · exact .inl ⟨hv, hn⟩
  · have e : x.ownBlock = some g := by rw [hv]; rfl
    exact .inr ⟨g, cap, cur, hv, hb, (h.block g (Array.getElem?_eq_some_iff.1 hh).1 (h1 g e) (h2 g e)).trans hh, r⟩
end Go.Proofs.YtjgiobdpbbhekaaGreatDoor
