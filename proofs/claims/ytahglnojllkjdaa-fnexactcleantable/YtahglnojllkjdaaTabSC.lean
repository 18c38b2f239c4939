/- What the model answers: a new table, a key taken. -/
import Derived.Test.YtahglnojllkjdaaTabSB
namespace Go.Proofs.Ytahglnojllkjdaa
open Go.RowKit

theorem MadeT.fin {w W : World} {r n c m c' : Nat} {ao a' : Option Addr} {ok : Prop} {R : Option (List Ce × List Ce × Int)} {L O : List Ce} {M : Int} (hB : Below w.heap.size w W) (hr : w.heap.size ≤ r)
    (o1 : W.ownsRow w.heap.size 65 2 (.slice ao n c) n (ces L)) (hn : L.length = n) (o2 : W.ownsRow w.heap.size 65 2 (.slice a' m c') m (ces O)) (hm : O.length = m) (hap : apart2 (.slice ao n c) (.slice a' m c'))
    (r1 : ∀ k, (Value.slice ao n c).ownBlock = some k → k ≠ r) (r2 : ∀ k, (Value.slice a' m c').ownBlock = some k → k ≠ r) (hok : ok) (hR : R = some (L, O, M)) (x y z : Value) :
    MadeT w (put3 W r x y z) (.returned (.tuple #[.agg #[.slice ao n c, .slice a' m c', .int .i64 M], .bool true])) ok R := by
  subst hn hm
  exact ⟨ao, L, c, a', O, c', M, true, rfl, .inl ⟨hok, hR, rfl⟩, own_put3 o1 r1 x y z, own_put3 o2 r2 x y z, hap, put3_below hB hr x y z⟩
theorem apart_ne {b c b' c' n m : Nat} (h : b ≠ b') : apart2 (.slice (some ⟨b, 0, none⟩) n c) (.slice (some ⟨b', 0, none⟩) m c') := fun k hk hk' => h ((show b = k from Option.some.inj hk).trans (show b' = k from Option.some.inj hk').symm)

set_option maxRecDepth 100000 in
set_option maxHeartbeats 2000000 in
theorem specNewT_any (n : Int) (w : World) : Calls Try.prog 15 #[.int .i64 n] w fun e w' => MadeT w w' e (szOk n) (newR n) := by
  have CZ := hide1 (fun w => specSize_any n w)
  have F0 : Hid (Blk (w.alloc (.cells #[.slice none 0 0, .slice none 0 0, .int .i64 0] 26)) w.heap.size 26 [.slice none 0 0, .slice none 0 0, .int .i64 0] ∧ Below w.heap.size w (w.alloc (.cells #[.slice none 0 0, .slice none 0 0, .int .i64 0] 26))) := ⟨Blk.new w _ _, (Below.refl _ _).alloc (Nat.le_refl _) _⟩
  go_enter Try.func15, Try.ntmps15
  go_wp2_with fail
  generalize (w.alloc (.cells #[.slice none 0 0, .slice none 0 0, .int .i64 0] 26)) = w0 at F0 ⊢
  obtain ⟨R0, B0⟩ := F0.out
  have R0 := hide1 R0
  have B0 := hide1 B0
  clear F0
  refine (CZ.out w0).mono ?_
  rintro e w1 ⟨x, rfl, hx, rfl⟩
  have HX := hide1 hx
  clear hx CZ
  rcases x with _ | _
  · have HN := hide1 (MadeT.no (R := newR n) (ok := szOk n) B0.out (Nat.le_refl _) (fun h => by have := HX.out.2 h.1; cases this) (.slice none 0 0) (.slice none 0 0) (.int .i64 0))
    have HH := hide1 (put3_blk R0.out (.slice none 0 0) (.slice none 0 0) (.int .i64 0))
    have y0 : w0.cell? ⟨w.heap.size, 0, none⟩ = some (.slice none 0 0) := R0.out.cell 0
    have y1 : w0.cell? ⟨w.heap.size, 1, none⟩ = some (.slice none 0 0) := R0.out.cell 1
    have y2 : w0.cell? ⟨w.heap.size, 2, none⟩ = some (.int .i64 0) := R0.out.cell 2
    have yf : ∀ j, w0.frozen? ⟨w.heap.size, j, none⟩ = false := fun j => R0.out.froz j
    unfold put3 at HN HH
    clear HX
    go_wp2
    refine bodyPost_ret (res2 Try.results15 _ _ w.heap.size 26 #[.slice none 0 0, .slice none 0 0, .int .i64 0] (0, 0) _ rfl HH.out Try.underlying26 rfl (by kernel_rfl)) rfl ?_
    exact HN.out
  · have HSZ := hide1 (show szOk n from HX.out.1 rfl)
    obtain ⟨m, rfl⟩ := Int.eq_ofNat_of_zero_le (show 0 ≤ n by have := HX.out.1 rfl; omega)
    have hm : m ≤ 64 := by have := HX.out.1 rfl; omega
    have CN := hide1 (specCells_any m w0 (by omega))
    clear HX
    go_wp2_with fail
    refine CN.out.mono ?_
    rintro e w2 ⟨b, c, rfl, ho2, hb2⟩
    have R2 := hide1 (R0.out.below hb2 R0.out.lt)
    have hrl := R0.out.lt
    have B2 := hide1 (B0.out.trans (hb2.mono B0.out.size))
    have HN := hide1 (MadeT.fin (r := w.heap.size) (ok := szOk (m : Int)) (R := newR (m : Int)) B2.out (Nat.le_refl _) (own_base ho2 B0.out.size) (List.length_replicate ..) (World.ownsRow_nil w2 w.heap.size 65 2) (O := []) rfl (fun k _ hk => by cases hk) (fun k hk => by have := (ho2.lt k hk).1; omega) (fun k hk => by cases hk) HSZ.out rfl (.slice b m c) (.slice none 0 0) (.int .i64 0))
    have HH := hide1 (put3_blk R2.out (.slice b m c) (.slice none 0 0) (.int .i64 0))
    have y0 : w2.cell? ⟨w.heap.size, 0, none⟩ = some (.slice none 0 0) := R2.out.cell 0
    have y1 : w2.cell? ⟨w.heap.size, 1, none⟩ = some (.slice none 0 0) := R2.out.cell 1
    have y2 : w2.cell? ⟨w.heap.size, 2, none⟩ = some (.int .i64 0) := R2.out.cell 2
    have yf : ∀ j, w2.frozen? ⟨w.heap.size, j, none⟩ = false := fun j => R2.out.froz j
    unfold put3 at HN HH
    clear ho2 hb2 CN
    go_wp2
    refine bodyPost_ret (res2 Try.results15 _ _ w.heap.size 26 #[.slice b m c, .slice none 0 0, .int .i64 0] (0, 0) _ rfl HH.out Try.underlying26 rfl (by kernel_rfl)) rfl ?_
    exact HN.out

set_option maxRecDepth 100000 in
set_option maxHeartbeats 4000000 in
theorem specTake_any (ao a' : Option Addr) (l o : List Ce) (ca ca' : Nat) (mv : Int) (key : ByteArray) (w : World) (hl : l.length ≤ 1048576) (hl' : o.length ≤ 1048576) (hk : key.size ≤ 1048576) (hA : RdC w ao l) (hA' : RdC w a' o) :
    Calls Try.prog 28 #[tbV ao l.length ca a' o.length ca' mv, .string key] w fun e w' => MadeT w w' e (OkT l o mv ∧ key.toList ≠ []) (takeR l o mv key) := by
  have CB := hide1 (fun w' (hb : Below w.heap.size w w') => specTOk_any ao a' l o ca ca' mv w' hl hl' (hA.later hb) (hA'.later hb))
  have HA := hide1 hA
  have HA' := hide1 hA'
  have F0 := hide1 (boxes w #[.slice ao l.length ca, .slice a' o.length ca', .int .i64 mv] #[.slice none 0 0, .slice none 0 0, .int .i64 0] 26)
  clear hA hA'
  unfold tbV at CB ⊢
  go_enter Try.func28, Try.ntmps28
  go_wp2_with fail
  generalize ((w.alloc (.cells #[.slice ao l.length ca, .slice a' o.length ca', .int .i64 mv] 26)).alloc (.cells #[.slice none 0 0, .slice none 0 0, .int .i64 0] 26)) = w0 at F0 ⊢
  obtain ⟨K0, R0, B0⟩ := F0.out
  have hs0 : w.heap.size < w0.heap.size := K0.lt
  have hs1 : w.heap.size + 1 < w0.heap.size := R0.lt
  have K0 := hide1 K0
  have R0 := hide1 R0
  have B0 := hide1 B0
  clear F0
  refine (CB.out w0 B0.out).mono ?_
  rintro e w1 ⟨x, rfl, hx, hb1⟩
  have HX := hide1 hx
  have K1 := hide1 (K0.out.below hb1 hs0)
  have R1 := hide1 (R0.out.below hb1 hs1)
  have B1 := hide1 (B0.out.trans (hb1.mono B0.out.size))
  have S1 := hide1 hb1.size
  clear hb1 CB hx K0 R0
  rcases x with _ | _
  · have HNO := hide1 (show ¬ OkT l o mv from fun h => by have := HX.out.2 h; cases this)
    clear HX
    have HN := hide1 (MadeT.no (r := w.heap.size + 1) (R := takeR l o mv key) (ok := OkT l o mv ∧ key.toList ≠ []) B1.out (by omega) (fun h => HNO.out h.1.1) (.slice none 0 0) (.slice none 0 0) (.int .i64 0))
    have HH := hide1 (put3_blk R1.out (.slice none 0 0) (.slice none 0 0) (.int .i64 0))
    have y0 : w1.cell? ⟨w.heap.size + 1, 0, none⟩ = some (.slice none 0 0) := R1.out.cell 0
    have y1 : w1.cell? ⟨w.heap.size + 1, 1, none⟩ = some (.slice none 0 0) := R1.out.cell 1
    have y2 : w1.cell? ⟨w.heap.size + 1, 2, none⟩ = some (.int .i64 0) := R1.out.cell 2
    have yf : ∀ j, w1.frozen? ⟨w.heap.size + 1, j, none⟩ = false := fun j => R1.out.froz j
    unfold put3 at HN HH
    go_wp2
    refine bodyPost_ret (res2 Try.results28 _ _ (w.heap.size + 1) 26 #[.slice none 0 0, .slice none 0 0, .int .i64 0] (0, 0) _ rfl HH.out Try.underlying26 rfl (by kernel_rfl)) rfl ?_
    exact HN.out
  · have HOK := hide1 (HX.out.1 rfl)
    have HLN := hide1 HOK.out.len
    clear HX
    by_cases d1 : key.toList = []
    · have b1 : key.toList.isEmpty = true := by rw [d1]; rfl
      have HD := hide1 d1
      have HN := hide1 (MadeT.no (r := w.heap.size + 1) (R := takeR l o mv key) (ok := OkT l o mv ∧ key.toList ≠ []) B1.out (by omega) (fun h => h.1.2 HD.out) (.slice none 0 0) (.slice none 0 0) (.int .i64 0))
      have HH := hide1 (put3_blk R1.out (.slice none 0 0) (.slice none 0 0) (.int .i64 0))
      have y0 : w1.cell? ⟨w.heap.size + 1, 0, none⟩ = some (.slice none 0 0) := R1.out.cell 0
      have y1 : w1.cell? ⟨w.heap.size + 1, 1, none⟩ = some (.slice none 0 0) := R1.out.cell 1
      have y2 : w1.cell? ⟨w.heap.size + 1, 2, none⟩ = some (.int .i64 0) := R1.out.cell 2
      have yf : ∀ j, w1.frozen? ⟨w.heap.size + 1, j, none⟩ = false := fun j => R1.out.froz j
      unfold put3 at HN HH
      go_wp2
      refine bodyPost_ret (res2 Try.results28 _ _ (w.heap.size + 1) 26 #[.slice none 0 0, .slice none 0 0, .int .i64 0] (0, 0) _ rfl HH.out Try.underlying26 rfl (by kernel_rfl)) rfl ?_
      exact HN.out
    · have b1 : key.toList.isEmpty = false := by cases h : key.toList with | nil => exact absurd h d1 | cons a b => rfl
      have HD := hide1 d1
      clear d1
      have CY := hide1 (specCopyT_any ao a' l o ca ca' mv w1 hl hl' HLN.out.2.2 (HA.out.later B1.out).toJ (HA'.out.later B1.out).toJ)
      have x0 : w1.cell? ⟨w.heap.size, 0, none⟩ = some (.slice ao l.length ca) := K1.out.cell 0
      have x1 : w1.cell? ⟨w.heap.size, 1, none⟩ = some (.slice a' o.length ca') := K1.out.cell 1
      have x2 : w1.cell? ⟨w.heap.size, 2, none⟩ = some (.int .i64 mv) := K1.out.cell 2
      unfold tbV at CY
      go_wp2_with fail
      refine CY.out.mono ?_
      rintro e w2 ⟨v, rfl, b, c, b', c', rfl, ho1, ho2, hne, hb2⟩
      have F3 : Hid (Blk (w2.alloc (.cells #[.slice (some ⟨b, 0, none⟩) l.length c, .slice (some ⟨b', 0, none⟩) o.length c', .int .i64 mv] 26)) w2.heap.size 26 [.slice (some ⟨b, 0, none⟩) l.length c, .slice (some ⟨b', 0, none⟩) o.length c', .int .i64 mv] ∧ Blk (w2.alloc (.cells #[.slice (some ⟨b, 0, none⟩) l.length c, .slice (some ⟨b', 0, none⟩) o.length c', .int .i64 mv] 26)) w.heap.size 26 [.slice ao l.length ca, .slice a' o.length ca', .int .i64 mv] ∧ Blk (w2.alloc (.cells #[.slice (some ⟨b, 0, none⟩) l.length c, .slice (some ⟨b', 0, none⟩) o.length c', .int .i64 mv] 26)) (w.heap.size + 1) 26 [.slice none 0 0, .slice none 0 0, .int .i64 0] ∧ (w2.alloc (.cells #[.slice (some ⟨b, 0, none⟩) l.length c, .slice (some ⟨b', 0, none⟩) o.length c', .int .i64 mv] 26)).ownsRow w1.heap.size 65 2 (.slice (some ⟨b, 0, none⟩) l.length c) l.length (ces l) ∧ (w2.alloc (.cells #[.slice (some ⟨b, 0, none⟩) l.length c, .slice (some ⟨b', 0, none⟩) o.length c', .int .i64 mv] 26)).ownsRow w1.heap.size 65 2 (.slice (some ⟨b', 0, none⟩) o.length c') o.length (ces o) ∧ Below w.heap.size w (w2.alloc (.cells #[.slice (some ⟨b, 0, none⟩) l.length c, .slice (some ⟨b', 0, none⟩) o.length c', .int .i64 mv] 26)) ∧ w2.heap.size < (w2.alloc (.cells #[.slice (some ⟨b, 0, none⟩) l.length c, .slice (some ⟨b', 0, none⟩) o.length c', .int .i64 mv] 26)).heap.size) :=
        ⟨Blk.new w2 _ _, (K1.out.below hb2 K1.out.lt).more _, (R1.out.below hb2 R1.out.lt).more _, ho1.alloc _, ho2.alloc _, (B1.out.trans (hb2.mono B1.out.size)).alloc (Nat.le_trans B1.out.size hb2.size) _, by rw [World.size_alloc]; omega⟩
      have lb := ho1.lt b rfl
      have lb' := ho2.lt b' rfl
      have s12 := hb2.size
      have s01 := S1.out
      clear ho1 ho2 hb2 x0 x1 x2 CY
      unfold tbV
      go_upto_region 4 with fail
      generalize (w2.alloc (.cells #[.slice (some ⟨b, 0, none⟩) l.length c, .slice (some ⟨b', 0, none⟩) o.length c', .int .i64 mv] 26)) = w3 at F3 ⊢
      obtain ⟨Q3, K3, R3, O3, P3, B3, hq3⟩ := F3.out
      have CS := hide1 (specSeek_any ao l ca key w3 hl hk (HA.out.later B3))
      have CS2 := hide1 (fun w' (hb : Below w.heap.size w w') => specSeek_any a' o ca' key w' hl' hk (HA'.out.later hb))
      have F3' := hide1 (And.intro Q3 (And.intro K3 (And.intro R3 (And.intro O3 (And.intro P3 B3)))))
      have hr3 := R3.lt
      have hk3 := K3.lt
      have x0 : w3.cell? ⟨w.heap.size, 0, none⟩ = some (.slice ao l.length ca) := K3.cell 0
      clear F3 Q3 K3 R3 O3 P3 B3
      go_wp2_with fail
      refine CS.out.mono ?_
      rintro e w4 ⟨rfl, hb4⟩
      have F4 : Hid (Blk w4 w2.heap.size 26 [.slice (some ⟨b, 0, none⟩) l.length c, .slice (some ⟨b', 0, none⟩) o.length c', .int .i64 mv] ∧ Blk w4 w.heap.size 26 [.slice ao l.length ca, .slice a' o.length ca', .int .i64 mv] ∧ Blk w4 (w.heap.size + 1) 26 [.slice none 0 0, .slice none 0 0, .int .i64 0] ∧ w4.ownsRow w1.heap.size 65 2 (.slice (some ⟨b, 0, none⟩) l.length c) l.length (ces l) ∧ w4.ownsRow w1.heap.size 65 2 (.slice (some ⟨b', 0, none⟩) o.length c') o.length (ces o) ∧ Below w.heap.size w w4) := by
        obtain ⟨Q3, K3, R3, O3, P3, B3⟩ := F3'.out
        exact ⟨Q3.below hb4 hq3, K3.below hb4 hk3, R3.below hb4 hr3, own_kept O3 hb4, own_kept P3 hb4, B3.trans (hb4.mono B3.size)⟩
      clear hb4 CS F3' x0
      have f0 := B0.out.size
      rcases hq : seekC l key with _ | k
      · have HQ := hide1 hq
        unfold optI
        clear hq
        have x1 : w4.cell? ⟨w.heap.size, 1, none⟩ = some (.slice a' o.length ca') := F4.out.2.1.cell 1
        have CSB := hide1 (CS2.out w4 F4.out.2.2.2.2.2)
        go_wp2_with fail
        refine CSB.out.mono ?_
        rintro e w5 ⟨rfl, hb5⟩
        have hs4 : w.heap.size + 1 < w4.heap.size := F4.out.2.2.1.lt
        have hq4 : w2.heap.size < w4.heap.size := F4.out.1.lt
        have R5 := hide1 (F4.out.2.2.1.below hb5 hs4)
        have Q5 := hide1 (F4.out.1.below hb5 hq4)
        have O5 := hide1 (own_kept F4.out.2.2.2.1 hb5)
        have P5 := hide1 (own_kept F4.out.2.2.2.2.1 hb5)
        have B5 := hide1 (F4.out.2.2.2.2.2.trans (hb5.mono F4.out.2.2.2.2.2.size))
        clear hb5 CSB F4 x1
        rcases hq2 : seekC o key with _ | k
        · have HQ2 := hide1 hq2
          unfold optI
          clear hq2
          have HN := hide1 (MadeT.no (r := w.heap.size + 1) (R := takeR l o mv key) (ok := OkT l o mv ∧ key.toList ≠ []) B5.out (by omega) (fun h => by obtain ⟨x, hx⟩ := h.2; rw [takeR, HQ.out] at hx; simp only [] at hx; rw [HQ2.out] at hx; cases hx) (.slice none 0 0) (.slice none 0 0) (.int .i64 0))
          have HH := hide1 (put3_blk R5.out (.slice none 0 0) (.slice none 0 0) (.int .i64 0))
          have y0 : w5.cell? ⟨w.heap.size + 1, 0, none⟩ = some (.slice none 0 0) := R5.out.cell 0
          have y1 : w5.cell? ⟨w.heap.size + 1, 1, none⟩ = some (.slice none 0 0) := R5.out.cell 1
          have y2 : w5.cell? ⟨w.heap.size + 1, 2, none⟩ = some (.int .i64 0) := R5.out.cell 2
          have yf : ∀ j, w5.frozen? ⟨w.heap.size + 1, j, none⟩ = false := fun j => R5.out.froz j
          unfold put3 at HN HH
          go_wp2
          refine bodyPost_ret (res2 Try.results28 _ _ (w.heap.size + 1) 26 #[.slice none 0 0, .slice none 0 0, .int .i64 0] (0, 0) _ rfl HH.out Try.underlying26 rfl (by kernel_rfl)) rfl ?_
          exact HN.out
        · have hkl : k < o.length := seekD_lt _ _ _ hq2
          have k1 : (k : Int) < (o.length : Int) := by omega
          have q : decide ((k : Int) < 0) = false := by simp
          have HVAL := hide1 (show takeR l o mv key = some (l, o.set k gC, mv) by rw [takeR, HQ.out]; simp only []; rw [hq2])
          have z1 : w5.cell? ⟨w2.heap.size, 1, none⟩ = some (.slice (some ⟨b', 0, none⟩) o.length c') := Q5.out.cell 1
          obtain ⟨v0, t0⟩ := own_some P5.out (k * 2) (by omega)
          obtain ⟨v1, t1⟩ := own_some P5.out (k * 2 + 1) (by omega)
          have g0 := P5.out.frozenAt (k * 2)
          have g1 := P5.out.frozenAt (k * 2 + 1)
          have F6 : Hid (Blk ((w5.setCell ⟨b', k * 2, none⟩ (.string ⟨#[]⟩)).setCell ⟨b', k * 2 + 1, none⟩ (.int .i64 (-2))) w2.heap.size 26 [.slice (some ⟨b, 0, none⟩) l.length c, .slice (some ⟨b', 0, none⟩) o.length c', .int .i64 mv] ∧ Blk ((w5.setCell ⟨b', k * 2, none⟩ (.string ⟨#[]⟩)).setCell ⟨b', k * 2 + 1, none⟩ (.int .i64 (-2))) (w.heap.size + 1) 26 [.slice none 0 0, .slice none 0 0, .int .i64 0] ∧ ((w5.setCell ⟨b', k * 2, none⟩ (.string ⟨#[]⟩)).setCell ⟨b', k * 2 + 1, none⟩ (.int .i64 (-2))).ownsRow w1.heap.size 65 2 (.slice (some ⟨b, 0, none⟩) l.length c) l.length (ces l) ∧ ((w5.setCell ⟨b', k * 2, none⟩ (.string ⟨#[]⟩)).setCell ⟨b', k * 2 + 1, none⟩ (.int .i64 (-2))).ownsRow w1.heap.size 65 2 (.slice (some ⟨b', 0, none⟩) o.length c') o.length (ces (o.set k gC)) ∧ Below w.heap.size w ((w5.setCell ⟨b', k * 2, none⟩ (.string ⟨#[]⟩)).setCell ⟨b', k * 2 + 1, none⟩ (.int .i64 (-2)))) := by
            refine ⟨(Q5.out.far _ _ (by dsimp only; omega)).far _ _ (by dsimp only; omega), (R5.out.far _ _ (by dsimp only; omega)).far _ _ (by dsimp only; omega), own_far (own_far O5.out _ _ ?_) _ _ ?_, own_set2 P5.out rfl k hkl gC, below_set2 B5.out (by omega) k gC⟩
            all_goals
              intro j hj
              have e : b = j := Option.some.inj hj
              dsimp only
              omega
          unfold optI
          clear hq2 Q5 R5 O5 P5 B5
          go_upto_region 12 with fail
          clear z1 t0 t1 g0 g1
          generalize ((w5.setCell ⟨b', k * 2, none⟩ (.string ⟨#[]⟩)).setCell ⟨b', k * 2 + 1, none⟩ (.int .i64 (-2))) = w6 at F6 ⊢
          have HN := hide1 (MadeT.fin (r := w.heap.size + 1) (ok := OkT l o mv ∧ key.toList ≠ []) (R := takeR l o mv key) (M := mv) F6.out.2.2.2.2 (by omega) (own_base F6.out.2.2.1 (by omega)) (rfl) (own_base F6.out.2.2.2.1 (by omega)) (List.length_set ..) (apart_ne hne) (fun k hk => by have e : b = k := Option.some.inj hk; omega) (fun k hk => by have e : b' = k := Option.some.inj hk; omega) (⟨HOK.out, HD.out⟩) (HVAL.out) (.slice (some ⟨b, 0, none⟩) l.length c) (.slice (some ⟨b', 0, none⟩) o.length c') (.int .i64 mv))
          have HH := hide1 (put3_blk F6.out.2.1 (.slice (some ⟨b, 0, none⟩) l.length c) (.slice (some ⟨b', 0, none⟩) o.length c') (.int .i64 mv))
          have q0 : w6.cell? ⟨w2.heap.size, 0, none⟩ = some (.slice (some ⟨b, 0, none⟩) l.length c) := (F6.out.1).cell 0
          have q1 : w6.cell? ⟨w2.heap.size, 1, none⟩ = some (.slice (some ⟨b', 0, none⟩) o.length c') := (F6.out.1).cell 1
          have q2 : w6.cell? ⟨w2.heap.size, 2, none⟩ = some (.int .i64 mv) := (F6.out.1).cell 2
          have y0 : w6.cell? ⟨w.heap.size + 1, 0, none⟩ = some (.slice none 0 0) := (F6.out.2.1).cell 0
          have y1 : w6.cell? ⟨w.heap.size + 1, 1, none⟩ = some (.slice none 0 0) := (F6.out.2.1).cell 1
          have y2 : w6.cell? ⟨w.heap.size + 1, 2, none⟩ = some (.int .i64 0) := (F6.out.2.1).cell 2
          have yf : ∀ j, w6.frozen? ⟨w.heap.size + 1, j, none⟩ = false := fun j => (F6.out.2.1).froz j
          unfold put3 at HN HH
          go_wp2
          refine bodyPost_ret (res2 Try.results28 _ _ (w.heap.size + 1) 26 #[.slice (some ⟨b, 0, none⟩) l.length c, .slice (some ⟨b', 0, none⟩) o.length c', .int .i64 mv] (0, 0) _ rfl HH.out Try.underlying26 rfl (by kernel_rfl)) rfl ?_
          exact HN.out
      · have hkl : k < l.length := seekD_lt _ _ _ hq
        have k1 : (k : Int) < (l.length : Int) := by omega
        have q : decide ((0 : Int) ≤ (k : Int)) = true := by simp
        have HVAL := hide1 (show takeR l o mv key = some (l.set k gC, o, mv) by rw [takeR, hq])
        have z1 : w4.cell? ⟨w2.heap.size, 0, none⟩ = some (.slice (some ⟨b, 0, none⟩) l.length c) := F4.out.1.cell 0
        obtain ⟨v0, t0⟩ := own_some F4.out.2.2.2.1 (k * 2) (by omega)
        obtain ⟨v1, t1⟩ := own_some F4.out.2.2.2.1 (k * 2 + 1) (by omega)
        have g0 := F4.out.2.2.2.1.frozenAt (k * 2)
        have g1 := F4.out.2.2.2.1.frozenAt (k * 2 + 1)
        have F6 : Hid (Blk ((w4.setCell ⟨b, k * 2, none⟩ (.string ⟨#[]⟩)).setCell ⟨b, k * 2 + 1, none⟩ (.int .i64 (-2))) w2.heap.size 26 [.slice (some ⟨b, 0, none⟩) l.length c, .slice (some ⟨b', 0, none⟩) o.length c', .int .i64 mv] ∧ Blk ((w4.setCell ⟨b, k * 2, none⟩ (.string ⟨#[]⟩)).setCell ⟨b, k * 2 + 1, none⟩ (.int .i64 (-2))) (w.heap.size + 1) 26 [.slice none 0 0, .slice none 0 0, .int .i64 0] ∧ ((w4.setCell ⟨b, k * 2, none⟩ (.string ⟨#[]⟩)).setCell ⟨b, k * 2 + 1, none⟩ (.int .i64 (-2))).ownsRow w1.heap.size 65 2 (.slice (some ⟨b, 0, none⟩) l.length c) l.length (ces (l.set k gC)) ∧ ((w4.setCell ⟨b, k * 2, none⟩ (.string ⟨#[]⟩)).setCell ⟨b, k * 2 + 1, none⟩ (.int .i64 (-2))).ownsRow w1.heap.size 65 2 (.slice (some ⟨b', 0, none⟩) o.length c') o.length (ces o) ∧ Below w.heap.size w ((w4.setCell ⟨b, k * 2, none⟩ (.string ⟨#[]⟩)).setCell ⟨b, k * 2 + 1, none⟩ (.int .i64 (-2)))) := by
          refine ⟨(F4.out.1.far _ _ (by dsimp only; omega)).far _ _ (by dsimp only; omega), (F4.out.2.2.1.far _ _ (by dsimp only; omega)).far _ _ (by dsimp only; omega), own_set2 F4.out.2.2.2.1 rfl k hkl gC, own_far (own_far F4.out.2.2.2.2.1 _ _ ?_) _ _ ?_, below_set2 F4.out.2.2.2.2.2 (by omega) k gC⟩
          all_goals
            intro j hj
            have e : b' = j := Option.some.inj hj
            dsimp only
            omega
        unfold optI
        clear hq F4
        go_upto_region 7 with fail
        clear z1 t0 t1 g0 g1
        generalize ((w4.setCell ⟨b, k * 2, none⟩ (.string ⟨#[]⟩)).setCell ⟨b, k * 2 + 1, none⟩ (.int .i64 (-2))) = w6 at F6 ⊢
        have HN := hide1 (MadeT.fin (r := w.heap.size + 1) (ok := OkT l o mv ∧ key.toList ≠ []) (R := takeR l o mv key) (M := mv) F6.out.2.2.2.2 (by omega) (own_base F6.out.2.2.1 (by omega)) (List.length_set ..) (own_base F6.out.2.2.2.1 (by omega)) (rfl) (apart_ne hne) (fun k hk => by have e : b = k := Option.some.inj hk; omega) (fun k hk => by have e : b' = k := Option.some.inj hk; omega) (⟨HOK.out, HD.out⟩) (HVAL.out) (.slice (some ⟨b, 0, none⟩) l.length c) (.slice (some ⟨b', 0, none⟩) o.length c') (.int .i64 mv))
        have HH := hide1 (put3_blk F6.out.2.1 (.slice (some ⟨b, 0, none⟩) l.length c) (.slice (some ⟨b', 0, none⟩) o.length c') (.int .i64 mv))
        have q0 : w6.cell? ⟨w2.heap.size, 0, none⟩ = some (.slice (some ⟨b, 0, none⟩) l.length c) := (F6.out.1).cell 0
        have q1 : w6.cell? ⟨w2.heap.size, 1, none⟩ = some (.slice (some ⟨b', 0, none⟩) o.length c') := (F6.out.1).cell 1
        have q2 : w6.cell? ⟨w2.heap.size, 2, none⟩ = some (.int .i64 mv) := (F6.out.1).cell 2
        have y0 : w6.cell? ⟨w.heap.size + 1, 0, none⟩ = some (.slice none 0 0) := (F6.out.2.1).cell 0
        have y1 : w6.cell? ⟨w.heap.size + 1, 1, none⟩ = some (.slice none 0 0) := (F6.out.2.1).cell 1
        have y2 : w6.cell? ⟨w.heap.size + 1, 2, none⟩ = some (.int .i64 0) := (F6.out.2.1).cell 2
        have yf : ∀ j, w6.frozen? ⟨w.heap.size + 1, j, none⟩ = false := fun j => (F6.out.2.1).froz j
        unfold put3 at HN HH
        go_wp2
        refine bodyPost_ret (res2 Try.results28 _ _ (w.heap.size + 1) 26 #[.slice (some ⟨b, 0, none⟩) l.length c, .slice (some ⟨b', 0, none⟩) o.length c', .int .i64 mv] (0, 0) _ rfl HH.out Try.underlying26 rfl (by kernel_rfl)) rfl ?_
        exact HN.out

end Go.Proofs.Ytahglnojllkjdaa
