import Derived.Test.YtigpjmmfelndkaaGreatDoorLXJ
namespace Go.Proofs.YtigpjmmfelndkaaGreatDoor
open Go.RowKit
set_option maxRecDepth 100000
set_option maxHeartbeats 4000000
theorem MadeT.fin {w W : World} {r n c m c' : Nat} {ao a' : Option Addr} {ok : Prop} {R : Option (List Ce × List Ce × Int)} {L O : List Ce} {M : Int} (hB : Below w.heap.size w W) (hr : w.heap.size <= r)
  (o1 : W.ownsRow w.heap.size 132 2 (.slice ao n c) n (ces L)) (hn : L.length = n) (o2 : W.ownsRow w.heap.size 132 2 (.slice a' m c') m (ces O)) (hm : O.length = m) (hap : qvF (.slice ao n c) (.slice a' m c'))
  (r1 : ∀ k, (Value.slice ao n c).ownBlock = some k -> k ≠ r) (r2 : ∀ k, (Value.slice a' m c').ownBlock = some k -> k ≠ r) (hok : ok) (hR : R = some (L, O, M)) (x y z : Value) :
  MadeT w (qeS W r x y z) (.returned (.tuple #[.agg #[.slice ao n c, .slice a' m c', .int .i64 M], .bool true])) ok R := by
 subst hn hm
 exact ⟨ao, L, c, a', O, c', M, true, rfl, .inl ⟨hok, hR, rfl⟩, qeK o1 r1 x y z, qeK o2 r2 x y z, hap, qeW hB hr x y z⟩
theorem qiJ {b c b' c' n m : Nat} (h : b ≠ b') : qvF (.slice (some ⟨b, 0, none⟩) n c) (.slice (some ⟨b', 0, none⟩) m c') := fun k hk hk' => h ((show b = k from Option.some.inj hk).trans (show b' = k from Option.some.inj hk').symm)
theorem qpV (n : Int) (w : World) : Calls Tryz.prog 62 #[.int .i64 n] w fun e w' => MadeT w w' e (qwN n) (zbY n) := by
 have CZ := hI (fun w => qpP n w)
 have F0 : Hid (Blk (w.alloc (.cells #[.slice none 0 0, .slice none 0 0, .int .i64 0] 29)) w.heap.size 29 [.slice none 0 0, .slice none 0 0, .int .i64 0] /\ Below w.heap.size w (w.alloc (.cells #[.slice none 0 0, .slice none 0 0, .int .i64 0] 29))) := ⟨Blk.new w _ _, bAl _ _⟩
 go_enter Tryz.func62, Tryz.ntmps62
 go_wp2_with fail
 generalize (w.alloc (.cells #[.slice none 0 0, .slice none 0 0, .int .i64 0] 29)) = w0 at F0 ⊢
 obtain ⟨R0, B0⟩ := F0.out
 have R0 := hI R0
 have B0 := hI B0
 clear F0
 refine (CZ.out w0).mono ?_
 rintro e w1 ⟨x, rfl, hx, rfl⟩
 have HX := hI hx
 clear hx CZ
 rcases x with _ | _
 ·have HN := hI (MadeT.no (R := zbY n) (ok := qwN n) B0.out (Nat.le_refl _) (fun h => by have := HX.out.2 h.1; cases this) (.slice none 0 0) (.slice none 0 0) (.int .i64 0))
  have HH := hI (qaI R0.out (.slice none 0 0) (.slice none 0 0) (.int .i64 0))
  have y0 : w0.cell? ⟨w.heap.size, 0, none⟩ = _ := cRn (R0.out.cell 0) rfl
  have y1 : w0.cell? ⟨w.heap.size, 1, none⟩ = _ := cRn (R0.out.cell 1) rfl
  have y2 : w0.cell? ⟨w.heap.size, 2, none⟩ = _ := cRn (R0.out.cell 2) rfl
  have yf (j) : w0.frozen? ⟨w.heap.size, j, none⟩ = false := R0.out.froz j
  unfold qeS at HN HH
  clear HX
  go_wp2
  refine bodyPost_ret (qgG Tryz.results62 _ _ w.heap.size 29 #[.slice none 0 0, .slice none 0 0, .int .i64 0] (0, 0) _ rfl HH.out Tryz.underlying29 rfl (by kernel_rfl)) rfl ?_
  exact HN.out
 ·have HSZ := hI (show qwN n from HX.out.1 rfl)
  obtain ⟨m, rfl⟩ := Int.eq_ofNat_of_zero_le (show 0 <= n by have := HX.out.1 rfl; omega)
  have hm : m <= 64 := by have := HX.out.1 rfl; omega
  have CN := hI (qhQ m w0 (by omega))
  clear HX
  go_wp2_with fail
  refine CN.out.mono ?_
  rintro e w2 ⟨b, c, rfl, ho2, hb2⟩
  have R2 := bRn R0 hb2
  have hrl := R0.out.lt
  have B2 := tRn B0 hb2
  have HN := hI (MadeT.fin (r := w.heap.size) (ok := qwN (m : Int)) (R := zbY (m : Int)) B2.out (Nat.le_refl _) (qaB ho2 B0.out.size) (List.length_replicate ..) (World.ownsRow_nil w2 w.heap.size 132 2) (O := []) rfl (fun k _ hk => by cases hk) (fun k hk => by have := (ho2.lt k hk).1; omega) (fun k hk => by cases hk) HSZ.out rfl (.slice b m c) (.slice none 0 0) (.int .i64 0))
  have HH := hI (qaI R2.out (.slice b m c) (.slice none 0 0) (.int .i64 0))
  have y0 : w2.cell? ⟨w.heap.size, 0, none⟩ = _ := cRn (R2.out.cell 0) rfl
  have y1 : w2.cell? ⟨w.heap.size, 1, none⟩ = _ := cRn (R2.out.cell 1) rfl
  have y2 : w2.cell? ⟨w.heap.size, 2, none⟩ = _ := cRn (R2.out.cell 2) rfl
  have yf (j) : w2.frozen? ⟨w.heap.size, j, none⟩ = false := R2.out.froz j
  unfold qeS at HN HH
  clear ho2 hb2 CN
  go_wp2
  refine bodyPost_ret (qgG Tryz.results62 _ _ w.heap.size 29 #[.slice b m c, .slice none 0 0, .int .i64 0] (0, 0) _ rfl HH.out Tryz.underlying29 rfl (by kernel_rfl)) rfl ?_
  exact HN.out
theorem qpO (ao a' : Option Addr) (l o : List Ce) (ca ca' : Nat) (mv : Int) (key : ByteArray) (w : World) (hl : l.length <= 1048576) (hl' : o.length <= 1048576) (hk : key.size <= 1048576) (hA : RdC w ao l) (hA' : RdC w a' o) :
  Calls Tryz.prog 100 #[tbV ao l.length ca a' o.length ca' mv, .string key] w fun e w' => MadeT w w' e (OkT l o mv /\ key.toList ≠ []) (qbY l o mv key) := by
 have CB := hI (fun w' (hb : Below w.heap.size w w') => qcX ao a' l o ca ca' mv w' hl hl' (hA.later hb) (hA'.later hb))
 have HA := hI hA
 have HA' := hI hA'
 have F0 := hI (qsG w #[.slice ao l.length ca, .slice a' o.length ca', .int .i64 mv] #[.slice none 0 0, .slice none 0 0, .int .i64 0] 29)
 clear hA hA'
 unfold tbV at CB ⊢
 go_enter Tryz.func100, Tryz.ntmps100
 go_wp2_with fail
 generalize ((w.alloc (.cells #[.slice ao l.length ca, .slice a' o.length ca', .int .i64 mv] 29)).alloc (.cells #[.slice none 0 0, .slice none 0 0, .int .i64 0] 29)) = w0 at F0 ⊢
 obtain ⟨K0, R0, B0⟩ := F0.out
 have hs0 : w.heap.size < w0.heap.size := K0.lt
 have hs1 : w.heap.size + 1 < w0.heap.size := R0.lt
 have K0 := hI K0
 have R0 := hI R0
 have B0 := hI B0
 clear F0
 refine (CB.out w0 B0.out).mono ?_
 rintro e w1 ⟨x, rfl, hx, hb1⟩
 have HX := hI hx
 have K1 := hI (K0.out.below hb1 hs0)
 have R1 := hI (R0.out.below hb1 hs1)
 have B1 := tRn B0 hb1
 have S1 := hI hb1.size
 clear hb1 CB hx K0 R0
 rcases x with _ | _
 ·have HNO := hI (show ¬ OkT l o mv from fun h => by have := HX.out.2 h; cases this)
  clear HX
  have HN := hI (MadeT.no (r := w.heap.size + 1) (R := qbY l o mv key) (ok := OkT l o mv /\ key.toList ≠ []) B1.out (by omega) (fun h => HNO.out h.1.1) (.slice none 0 0) (.slice none 0 0) (.int .i64 0))
  have HH := hI (qaI R1.out (.slice none 0 0) (.slice none 0 0) (.int .i64 0))
  have y0 : w1.cell? ⟨w.heap.size + 1, 0, none⟩ = _ := cRn (R1.out.cell 0) rfl
  have y1 : w1.cell? ⟨w.heap.size + 1, 1, none⟩ = _ := cRn (R1.out.cell 1) rfl
  have y2 : w1.cell? ⟨w.heap.size + 1, 2, none⟩ = _ := cRn (R1.out.cell 2) rfl
  have yf (j) : w1.frozen? ⟨w.heap.size + 1, j, none⟩ = false := R1.out.froz j
  unfold qeS at HN HH
  go_wp2
  refine bodyPost_ret (qgG Tryz.results100 _ _ (w.heap.size + 1) 29 #[.slice none 0 0, .slice none 0 0, .int .i64 0] (0, 0) _ rfl HH.out Tryz.underlying29 rfl (by kernel_rfl)) rfl ?_
  exact HN.out
 ·have HOK := hI (HX.out.1 rfl)
  have HLN := hI HOK.out.len
  clear HX
  by_cases d1 : key.toList = []
  ·have b1 : key.toList.isEmpty = true := by rw [d1]; rfl
   have HD := hI d1
   have HN := hI (MadeT.no (r := w.heap.size + 1) (R := qbY l o mv key) (ok := OkT l o mv /\ key.toList ≠ []) B1.out (by omega) (fun h => h.1.2 HD.out) (.slice none 0 0) (.slice none 0 0) (.int .i64 0))
   have HH := hI (qaI R1.out (.slice none 0 0) (.slice none 0 0) (.int .i64 0))
   have y0 : w1.cell? ⟨w.heap.size + 1, 0, none⟩ = _ := cRn (R1.out.cell 0) rfl
   have y1 : w1.cell? ⟨w.heap.size + 1, 1, none⟩ = _ := cRn (R1.out.cell 1) rfl
   have y2 : w1.cell? ⟨w.heap.size + 1, 2, none⟩ = _ := cRn (R1.out.cell 2) rfl
   have yf (j) : w1.frozen? ⟨w.heap.size + 1, j, none⟩ = false := R1.out.froz j
   unfold qeS at HN HH
   go_wp2
   refine bodyPost_ret (qgG Tryz.results100 _ _ (w.heap.size + 1) 29 #[.slice none 0 0, .slice none 0 0, .int .i64 0] (0, 0) _ rfl HH.out Tryz.underlying29 rfl (by kernel_rfl)) rfl ?_
   exact HN.out
  ·have b1 : key.toList.isEmpty = false := by cases h : key.toList with | nil => exact absurd h d1 | cons a b => rfl
   have HD := hI d1
   clear d1
   have CY := hI (qfF ao a' l o ca ca' mv w1 hl hl' HLN.out.2.2 (HA.out.later B1.out).toJ (HA'.out.later B1.out).toJ)
   have x0 : w1.cell? ⟨w.heap.size, 0, none⟩ = _ := cRn (K1.out.cell 0) rfl
   have x1 : w1.cell? ⟨w.heap.size, 1, none⟩ = _ := cRn (K1.out.cell 1) rfl
   have x2 : w1.cell? ⟨w.heap.size, 2, none⟩ = _ := cRn (K1.out.cell 2) rfl
   unfold tbV at CY
   go_wp2_with fail
   refine CY.out.mono ?_
   rintro e w2 ⟨v, rfl, b, c, b', c', rfl, ho1, ho2, hne, hb2⟩
   have F3 : Hid (Blk (w2.alloc (.cells #[.slice (some ⟨b, 0, none⟩) l.length c, .slice (some ⟨b', 0, none⟩) o.length c', .int .i64 mv] 29)) w2.heap.size 29 [.slice (some ⟨b, 0, none⟩) l.length c, .slice (some ⟨b', 0, none⟩) o.length c', .int .i64 mv] /\ Blk (w2.alloc (.cells #[.slice (some ⟨b, 0, none⟩) l.length c, .slice (some ⟨b', 0, none⟩) o.length c', .int .i64 mv] 29)) w.heap.size 29 [.slice ao l.length ca, .slice a' o.length ca', .int .i64 mv] /\ Blk (w2.alloc (.cells #[.slice (some ⟨b, 0, none⟩) l.length c, .slice (some ⟨b', 0, none⟩) o.length c', .int .i64 mv] 29)) (w.heap.size + 1) 29 [.slice none 0 0, .slice none 0 0, .int .i64 0] /\ (w2.alloc (.cells #[.slice (some ⟨b, 0, none⟩) l.length c, .slice (some ⟨b', 0, none⟩) o.length c', .int .i64 mv] 29)).ownsRow w1.heap.size 132 2 (.slice (some ⟨b, 0, none⟩) l.length c) l.length (ces l) /\ (w2.alloc (.cells #[.slice (some ⟨b, 0, none⟩) l.length c, .slice (some ⟨b', 0, none⟩) o.length c', .int .i64 mv] 29)).ownsRow w1.heap.size 132 2 (.slice (some ⟨b', 0, none⟩) o.length c') o.length (ces o) /\ Below w.heap.size w (w2.alloc (.cells #[.slice (some ⟨b, 0, none⟩) l.length c, .slice (some ⟨b', 0, none⟩) o.length c', .int .i64 mv] 29)) /\ w2.heap.size < (w2.alloc (.cells #[.slice (some ⟨b, 0, none⟩) l.length c, .slice (some ⟨b', 0, none⟩) o.length c', .int .i64 mv] 29)).heap.size) :=
    ⟨Blk.new w2 _ _, (K1.out.below hb2 K1.out.lt).more _, (R1.out.below hb2 R1.out.lt).more _, ho1.alloc _, ho2.alloc _, (B1.out.trans (hb2.mono B1.out.size)).alloc (Nat.le_trans B1.out.size hb2.size) _, by rw [World.size_alloc]; omega⟩
   have lb := ho1.lt b rfl
   have lb' := ho2.lt b' rfl
   have s12 := hb2.size
   have s01 := S1.out
   clear ho1 ho2 hb2 x0 x1 x2 CY
   unfold tbV
   go_upto_region 4 with fail
   generalize (w2.alloc (.cells #[.slice (some ⟨b, 0, none⟩) l.length c, .slice (some ⟨b', 0, none⟩) o.length c', .int .i64 mv] 29)) = w3 at F3 ⊢
   obtain ⟨Q3, K3, R3, O3, P3, B3, hq3⟩ := F3.out
   have CS := hI (qbR ao l ca key w3 hl hk (HA.out.later B3))
   have CS2 := hI (fun w' (hb : Below w.heap.size w w') => qbR a' o ca' key w' hl' hk (HA'.out.later hb))
   have F3' := hI (And.intro Q3 (And.intro K3 (And.intro R3 (And.intro O3 (And.intro P3 B3)))))
   have hr3 := R3.lt
   have hk3 := K3.lt
   have x0 : w3.cell? ⟨w.heap.size, 0, none⟩ = _ := cRn (K3.cell 0) rfl
   clear F3 Q3 K3 R3 O3 P3 B3
   go_wp2_with fail
   refine CS.out.mono ?_
   rintro e w4 ⟨rfl, hb4⟩
   have F4 : Hid (Blk w4 w2.heap.size 29 [.slice (some ⟨b, 0, none⟩) l.length c, .slice (some ⟨b', 0, none⟩) o.length c', .int .i64 mv] /\ Blk w4 w.heap.size 29 [.slice ao l.length ca, .slice a' o.length ca', .int .i64 mv] /\ Blk w4 (w.heap.size + 1) 29 [.slice none 0 0, .slice none 0 0, .int .i64 0] /\ w4.ownsRow w1.heap.size 132 2 (.slice (some ⟨b, 0, none⟩) l.length c) l.length (ces l) /\ w4.ownsRow w1.heap.size 132 2 (.slice (some ⟨b', 0, none⟩) o.length c') o.length (ces o) /\ Below w.heap.size w w4) := by
    obtain ⟨Q3, K3, R3, O3, P3, B3⟩ := F3'.out
    exact ⟨Q3.below hb4 hq3, K3.below hb4 hk3, R3.below hb4 hr3, qaE O3 hb4, qaE P3 hb4, B3.trans (hb4.mono B3.size)⟩
   clear hb4 CS F3' x0
   have f0 := B0.out.size
   rcases hq : qaZ l key with _ | k
   ·have HQ := hI hq
    unfold qdC
    clear hq
    have x1 : w4.cell? ⟨w.heap.size, 1, none⟩ = _ := cRn (F4.out.2.1.cell 1) rfl
    have CSB := hI (CS2.out w4 F4.out.2.2.2.2.2)
    go_wp2_with fail
    refine CSB.out.mono ?_
    rintro e w5 ⟨rfl, hb5⟩
    have hs4 : w.heap.size + 1 < w4.heap.size := F4.out.2.2.1.lt
    have hq4 : w2.heap.size < w4.heap.size := F4.out.1.lt
    have R5 := hI (F4.out.2.2.1.below hb5 hs4)
    have Q5 := hI (F4.out.1.below hb5 hq4)
    have O5 := hI (qaE F4.out.2.2.2.1 hb5)
    have P5 := hI (qaE F4.out.2.2.2.2.1 hb5)
    have B5 := hI (F4.out.2.2.2.2.2.trans (hb5.mono F4.out.2.2.2.2.2.size))
    clear hb5 CSB F4 x1
    rcases hq2 : qaZ o key with _ | k
    ·have HQ2 := hI hq2
     unfold qdC
     clear hq2
     have HN := hI (MadeT.no (r := w.heap.size + 1) (R := qbY l o mv key) (ok := OkT l o mv /\ key.toList ≠ []) B5.out (by omega) (fun h => by obtain ⟨x, hx⟩ := h.2; rw [qbY, HQ.out] at hx; simp only [] at hx; rw [HQ2.out] at hx; cases hx) (.slice none 0 0) (.slice none 0 0) (.int .i64 0))
     have HH := hI (qaI R5.out (.slice none 0 0) (.slice none 0 0) (.int .i64 0))
     have y0 : w5.cell? ⟨w.heap.size + 1, 0, none⟩ = _ := cRn (R5.out.cell 0) rfl
     have y1 : w5.cell? ⟨w.heap.size + 1, 1, none⟩ = _ := cRn (R5.out.cell 1) rfl
     have y2 : w5.cell? ⟨w.heap.size + 1, 2, none⟩ = _ := cRn (R5.out.cell 2) rfl
     have yf (j) : w5.frozen? ⟨w.heap.size + 1, j, none⟩ = false := R5.out.froz j
     unfold qeS at HN HH
     go_wp2
     refine bodyPost_ret (qgG Tryz.results100 _ _ (w.heap.size + 1) 29 #[.slice none 0 0, .slice none 0 0, .int .i64 0] (0, 0) _ rfl HH.out Tryz.underlying29 rfl (by kernel_rfl)) rfl ?_
     exact HN.out
    ·have hkl : k < o.length := qdT _ _ _ hq2
     have k1 : (k : Int) < (o.length : Int) := by omega
     have q : decide ((k : Int) < 0) = false := by simp
     have HVAL := hI (show qbY l o mv key = some (l, o.set k gC, mv) by rw [qbY, HQ.out]; simp only []; rw [hq2])
     have z1 : w5.cell? ⟨w2.heap.size, 1, none⟩ = some (.slice (some ⟨b', 0, none⟩) o.length c') := Q5.out.cell 1
     obtain ⟨v0, t0⟩ := qaQ P5.out (k * 2) (by omega)
     obtain ⟨v1, t1⟩ := qaQ P5.out (k * 2 + 1) (by omega)
     have g0 := P5.out.frozenAt (k * 2)
     have g1 := P5.out.frozenAt (k * 2 + 1)
     have F6 : Hid (Blk ((w5.setCell ⟨b', k * 2, none⟩ (.string ⟨#[]⟩)).setCell ⟨b', k * 2 + 1, none⟩ (.int .i64 (-2))) w2.heap.size 29 [.slice (some ⟨b, 0, none⟩) l.length c, .slice (some ⟨b', 0, none⟩) o.length c', .int .i64 mv] /\ Blk ((w5.setCell ⟨b', k * 2, none⟩ (.string ⟨#[]⟩)).setCell ⟨b', k * 2 + 1, none⟩ (.int .i64 (-2))) (w.heap.size + 1) 29 [.slice none 0 0, .slice none 0 0, .int .i64 0] /\ ((w5.setCell ⟨b', k * 2, none⟩ (.string ⟨#[]⟩)).setCell ⟨b', k * 2 + 1, none⟩ (.int .i64 (-2))).ownsRow w1.heap.size 132 2 (.slice (some ⟨b, 0, none⟩) l.length c) l.length (ces l) /\ ((w5.setCell ⟨b', k * 2, none⟩ (.string ⟨#[]⟩)).setCell ⟨b', k * 2 + 1, none⟩ (.int .i64 (-2))).ownsRow w1.heap.size 132 2 (.slice (some ⟨b', 0, none⟩) o.length c') o.length (ces (o.set k gC)) /\ Below w.heap.size w ((w5.setCell ⟨b', k * 2, none⟩ (.string ⟨#[]⟩)).setCell ⟨b', k * 2 + 1, none⟩ (.int .i64 (-2)))) := by
      refine ⟨(Q5.out.far _ _ (by dsimp only; omega)).far _ _ (by dsimp only; omega), (R5.out.far _ _ (by dsimp only; omega)).far _ _ (by dsimp only; omega), qaA (qaA O5.out _ _ ?_) _ _ ?_, qkK P5.out rfl k hkl gC, qjD B5.out (by omega) k gC⟩
      all_goals
       intro j hj
       have e : b = j := Option.some.inj hj
       dsimp only
       omega
     unfold qdC
     clear hq2 Q5 R5 O5 P5 B5
     go_upto_region 12 with fail
     clear z1 t0 t1 g0 g1
     generalize ((w5.setCell ⟨b', k * 2, none⟩ (.string ⟨#[]⟩)).setCell ⟨b', k * 2 + 1, none⟩ (.int .i64 (-2))) = w6 at F6 ⊢
     have HN := hI (MadeT.fin (r := w.heap.size + 1) (ok := OkT l o mv /\ key.toList ≠ []) (R := qbY l o mv key) (M := mv) F6.out.2.2.2.2 (by omega) (qaB F6.out.2.2.1 (by omega)) (rfl) (qaB F6.out.2.2.2.1 (by omega)) (List.length_set ..) (qiJ hne) (fun k hk => by have e : b = k := Option.some.inj hk; omega) (fun k hk => by have e : b' = k := Option.some.inj hk; omega) (⟨HOK.out, HD.out⟩) (HVAL.out) (.slice (some ⟨b, 0, none⟩) l.length c) (.slice (some ⟨b', 0, none⟩) o.length c') (.int .i64 mv))
     have HH := hI (qaI F6.out.2.1 (.slice (some ⟨b, 0, none⟩) l.length c) (.slice (some ⟨b', 0, none⟩) o.length c') (.int .i64 mv))
     have q0 : w6.cell? ⟨w2.heap.size, 0, none⟩ = some (.slice (some ⟨b, 0, none⟩) l.length c) := (F6.out.1).cell 0
     have q1 : w6.cell? ⟨w2.heap.size, 1, none⟩ = some (.slice (some ⟨b', 0, none⟩) o.length c') := (F6.out.1).cell 1
     have q2 : w6.cell? ⟨w2.heap.size, 2, none⟩ = _ := cRn ((F6.out.1).cell 2) rfl
     have y0 : w6.cell? ⟨w.heap.size + 1, 0, none⟩ = _ := cRn ((F6.out.2.1).cell 0) rfl
     have y1 : w6.cell? ⟨w.heap.size + 1, 1, none⟩ = _ := cRn ((F6.out.2.1).cell 1) rfl
     have y2 : w6.cell? ⟨w.heap.size + 1, 2, none⟩ = _ := cRn ((F6.out.2.1).cell 2) rfl
     have yf (j) : w6.frozen? ⟨w.heap.size + 1, j, none⟩ = false := (F6.out.2.1).froz j
     unfold qeS at HN HH
     go_wp2
     refine bodyPost_ret (qgG Tryz.results100 _ _ (w.heap.size + 1) 29 #[.slice (some ⟨b, 0, none⟩) l.length c, .slice (some ⟨b', 0, none⟩) o.length c', .int .i64 mv] (0, 0) _ rfl HH.out Tryz.underlying29 rfl (by kernel_rfl)) rfl ?_
     exact HN.out
   ·have hkl : k < l.length := qdT _ _ _ hq
    have k1 : (k : Int) < (l.length : Int) := by omega
    have q : decide ((0 : Int) <= (k : Int)) = true := by simp
    have HVAL := hI (show qbY l o mv key = some (l.set k gC, o, mv) by rw [qbY, hq])
    have z1 : w4.cell? ⟨w2.heap.size, 0, none⟩ = some (.slice (some ⟨b, 0, none⟩) l.length c) := F4.out.1.cell 0
    obtain ⟨v0, t0⟩ := qaQ F4.out.2.2.2.1 (k * 2) (by omega)
    obtain ⟨v1, t1⟩ := qaQ F4.out.2.2.2.1 (k * 2 + 1) (by omega)
    have g0 := F4.out.2.2.2.1.frozenAt (k * 2)
    have g1 := F4.out.2.2.2.1.frozenAt (k * 2 + 1)
    have F6 : Hid (Blk ((w4.setCell ⟨b, k * 2, none⟩ (.string ⟨#[]⟩)).setCell ⟨b, k * 2 + 1, none⟩ (.int .i64 (-2))) w2.heap.size 29 [.slice (some ⟨b, 0, none⟩) l.length c, .slice (some ⟨b', 0, none⟩) o.length c', .int .i64 mv] /\ Blk ((w4.setCell ⟨b, k * 2, none⟩ (.string ⟨#[]⟩)).setCell ⟨b, k * 2 + 1, none⟩ (.int .i64 (-2))) (w.heap.size + 1) 29 [.slice none 0 0, .slice none 0 0, .int .i64 0] /\ ((w4.setCell ⟨b, k * 2, none⟩ (.string ⟨#[]⟩)).setCell ⟨b, k * 2 + 1, none⟩ (.int .i64 (-2))).ownsRow w1.heap.size 132 2 (.slice (some ⟨b, 0, none⟩) l.length c) l.length (ces (l.set k gC)) /\ ((w4.setCell ⟨b, k * 2, none⟩ (.string ⟨#[]⟩)).setCell ⟨b, k * 2 + 1, none⟩ (.int .i64 (-2))).ownsRow w1.heap.size 132 2 (.slice (some ⟨b', 0, none⟩) o.length c') o.length (ces o) /\ Below w.heap.size w ((w4.setCell ⟨b, k * 2, none⟩ (.string ⟨#[]⟩)).setCell ⟨b, k * 2 + 1, none⟩ (.int .i64 (-2)))) := by
     refine ⟨(F4.out.1.far _ _ (by dsimp only; omega)).far _ _ (by dsimp only; omega), (F4.out.2.2.1.far _ _ (by dsimp only; omega)).far _ _ (by dsimp only; omega), qkK F4.out.2.2.2.1 rfl k hkl gC, qaA (qaA F4.out.2.2.2.2.1 _ _ ?_) _ _ ?_, qjD F4.out.2.2.2.2.2 (by omega) k gC⟩
     all_goals
      intro j hj
      have e : b' = j := Option.some.inj hj
      dsimp only
      omega
    unfold qdC
    clear hq F4
    go_upto_region 7 with fail
    clear z1 t0 t1 g0 g1
    generalize ((w4.setCell ⟨b, k * 2, none⟩ (.string ⟨#[]⟩)).setCell ⟨b, k * 2 + 1, none⟩ (.int .i64 (-2))) = w6 at F6 ⊢
    have HN := hI (MadeT.fin (r := w.heap.size + 1) (ok := OkT l o mv /\ key.toList ≠ []) (R := qbY l o mv key) (M := mv) F6.out.2.2.2.2 (by omega) (qaB F6.out.2.2.1 (by omega)) (List.length_set ..) (qaB F6.out.2.2.2.1 (by omega)) (rfl) (qiJ hne) (fun k hk => by have e : b = k := Option.some.inj hk; omega) (fun k hk => by have e : b' = k := Option.some.inj hk; omega) (⟨HOK.out, HD.out⟩) (HVAL.out) (.slice (some ⟨b, 0, none⟩) l.length c) (.slice (some ⟨b', 0, none⟩) o.length c') (.int .i64 mv))
    have HH := hI (qaI F6.out.2.1 (.slice (some ⟨b, 0, none⟩) l.length c) (.slice (some ⟨b', 0, none⟩) o.length c') (.int .i64 mv))
    have q0 : w6.cell? ⟨w2.heap.size, 0, none⟩ = some (.slice (some ⟨b, 0, none⟩) l.length c) := (F6.out.1).cell 0
    have q1 : w6.cell? ⟨w2.heap.size, 1, none⟩ = some (.slice (some ⟨b', 0, none⟩) o.length c') := (F6.out.1).cell 1
    have q2 : w6.cell? ⟨w2.heap.size, 2, none⟩ = _ := cRn ((F6.out.1).cell 2) rfl
    have y0 : w6.cell? ⟨w.heap.size + 1, 0, none⟩ = _ := cRn ((F6.out.2.1).cell 0) rfl
    have y1 : w6.cell? ⟨w.heap.size + 1, 1, none⟩ = _ := cRn ((F6.out.2.1).cell 1) rfl
    have y2 : w6.cell? ⟨w.heap.size + 1, 2, none⟩ = _ := cRn ((F6.out.2.1).cell 2) rfl
    have yf (j) : w6.frozen? ⟨w.heap.size + 1, j, none⟩ = false := (F6.out.2.1).froz j
    unfold qeS at HN HH
    go_wp2
    refine bodyPost_ret (qgG Tryz.results100 _ _ (w.heap.size + 1) 29 #[.slice (some ⟨b, 0, none⟩) l.length c, .slice (some ⟨b', 0, none⟩) o.length c', .int .i64 mv] (0, 0) _ rfl HH.out Tryz.underlying29 rfl (by kernel_rfl)) rfl ?_
    exact HN.out
theorem qqH {l : List Ce} {key : ByteArray} {p : Nat} : ∀ (d i k : Nat), qeU l key p i d = some k -> ∃ x, l[k]? = some x /\ x.key.toList = key.toList
 | 0, _, _, h => by cases h
 | d + 1, i, k, h => by
  rw [qeU] at h
  have hs : ∀ r, qkG l key ((p + i) % l.length) = some (some r) -> ∃ x, l[r]? = some x /\ x.key.toList = key.toList := by
   intro r hr
   unfold qkG at hr
   split at hr
   ·rename_i x hx
    split at hr
    ·rename_i hc
     injection hr with hr
     injection hr with hr
     rw [<- hr]
     exact ⟨x, hx, hc.1⟩
    ·split at hr <;> cases hr
   ·cases hr
  split at h
  ·rename_i r hr; subst h; exact hs k hr
  ·exact qqH d (i + 1) k h
theorem qhS {l : List Ce} {key : ByteArray} {k : Nat} (h : qaZ l key = some k) (hk : k < l.length) : l[k].key = key := by
 obtain ⟨x, hx, e⟩ := qqH _ _ _ h
 rw [List.getElem?_eq_getElem hk] at hx
 rw [Option.some.inj hx]
 exact qgO e
theorem qlH {l l' : List Ce} {key : ByteArray} {h : Int} (e : putC l key h = some l') : l'.length = l.length := by
 unfold putC at e
 split at e
 ·split at e
  ·split at e
   ·cases e
   ·injection e with e; rw [<- e, List.length_set]
  ·cases e
 ·cases e
theorem qgR (ao a' : Option Addr) (l o : List Ce) (ca ca' : Nat) (mv : Int) (key : ByteArray) (h : Int) (w : World) (hl : l.length <= 1048576) (hl' : o.length <= 1048576) (hk : key.size <= 1048576) (hA : RdC w ao l) (hA' : RdC w a' o) :
  Calls Tryz.prog 42 #[tbV ao l.length ca a' o.length ca' mv, .string key, .int .i64 h] w fun e w' => MadeT w w' e (qeC l o mv key h) (qcJ l o mv key h) := by
 have CI := hI (fun w => qdP (key.size : Int) 1 12 w)
 have CB := hI (fun w' (hb : Below w.heap.size w w') => qcX ao a' l o ca ca' mv w' hl hl' (hA.later hb) (hA'.later hb))
 have HA := hI hA
 have HA' := hI hA'
 have F0 := hI (qsG w #[.slice ao l.length ca, .slice a' o.length ca', .int .i64 mv] #[.slice none 0 0, .slice none 0 0, .int .i64 0] 29)
 clear hA hA'
 unfold tbV at CB ⊢
 go_enter Tryz.func42, Tryz.ntmps42
 go_wp2_with fail
 generalize ((w.alloc (.cells #[.slice ao l.length ca, .slice a' o.length ca', .int .i64 mv] 29)).alloc (.cells #[.slice none 0 0, .slice none 0 0, .int .i64 0] 29)) = w0 at F0 ⊢
 obtain ⟨K0, R0, B0⟩ := F0.out
 have hs0 : w.heap.size < w0.heap.size := K0.lt
 have hs1 : w.heap.size + 1 < w0.heap.size := R0.lt
 have K0 := hI K0
 have R0 := hI R0
 have B0 := hI B0
 clear F0
 refine (CB.out w0 B0.out).mono ?_
 rintro e w1 ⟨x, rfl, hx, hb1⟩
 have HX := hI hx
 have K1 := hI (K0.out.below hb1 hs0)
 have R1 := hI (R0.out.below hb1 hs1)
 have B1 := tRn B0 hb1
 have S1 := hI hb1.size
 clear hb1 CB hx K0 R0
 rcases x with _ | _
 ·have HNO := hI (show ¬ OkT l o mv from fun h => by have := HX.out.2 h; cases this)
  clear HX
  have HN := hI (MadeT.no (r := w.heap.size + 1) (R := qcJ l o mv key h) (ok := qeC l o mv key h) B1.out (by omega) (fun h => HNO.out h.1.1) (.slice none 0 0) (.slice none 0 0) (.int .i64 0))
  have HH := hI (qaI R1.out (.slice none 0 0) (.slice none 0 0) (.int .i64 0))
  have y0 : w1.cell? ⟨w.heap.size + 1, 0, none⟩ = _ := cRn (R1.out.cell 0) rfl
  have y1 : w1.cell? ⟨w.heap.size + 1, 1, none⟩ = _ := cRn (R1.out.cell 1) rfl
  have y2 : w1.cell? ⟨w.heap.size + 1, 2, none⟩ = _ := cRn (R1.out.cell 2) rfl
  have yf (j) : w1.frozen? ⟨w.heap.size + 1, j, none⟩ = false := R1.out.froz j
  unfold qeS at HN HH
  go_wp2
  refine bodyPost_ret (qgG Tryz.results42 _ _ (w.heap.size + 1) 29 #[.slice none 0 0, .slice none 0 0, .int .i64 0] (0, 0) _ rfl HH.out Tryz.underlying29 rfl (by kernel_rfl)) rfl ?_
  exact HN.out
 ·have HOK := hI (HX.out.1 rfl)
  have HLN := hI HOK.out.len
  clear HX
  go_wp2_with fail
  refine (CI.out w1).mono ?_
  rintro e w9 ⟨rfl, hw9⟩
  rw [show w9 = w1 by first | exact hw9 | exact hw9.symm]
  clear hw9 w9
  by_cases c1 : 1 <= key.size /\ key.size <= 12
  ·have qi : (decide ((1 : Int) <= (key.size : Int)) && decide ((key.size : Int) <= 12)) = true := by simp; omega
   rw [qi]
   clear qi
   by_cases ch : h < 0
   ·have qh : decide (h < 0) = true := decide_eq_true ch
    have HNP := hI (show ¬ qeC l o mv key h from fun hp => by have := hp.2.2.2; omega)
    clear ch c1
    have HN := hI (MadeT.no (r := w.heap.size + 1) (R := qcJ l o mv key h) (ok := qeC l o mv key h) B1.out (by omega) (fun hp => HNP.out hp.1) (.slice none 0 0) (.slice none 0 0) (.int .i64 0))
    have HH := hI (qaI R1.out (.slice none 0 0) (.slice none 0 0) (.int .i64 0))
    have y0 : w1.cell? ⟨w.heap.size + 1, 0, none⟩ = _ := cRn (R1.out.cell 0) rfl
    have y1 : w1.cell? ⟨w.heap.size + 1, 1, none⟩ = _ := cRn (R1.out.cell 1) rfl
    have y2 : w1.cell? ⟨w.heap.size + 1, 2, none⟩ = _ := cRn (R1.out.cell 2) rfl
    have yf (j) : w1.frozen? ⟨w.heap.size + 1, j, none⟩ = false := R1.out.froz j
    unfold qeS at HN HH
    go_wp2
    refine bodyPost_ret (qgG Tryz.results42 _ _ (w.heap.size + 1) 29 #[.slice none 0 0, .slice none 0 0, .int .i64 0] (0, 0) _ rfl HH.out Tryz.underlying29 rfl (by kernel_rfl)) rfl ?_
    exact HN.out
   ·have qh : decide (h < 0) = false := decide_eq_false ch
    have HP := hI (show qeC l o mv key h from ⟨HOK.out, c1.1, c1.2, by omega⟩)
    clear ch c1
    have CY := hI (qfF ao a' l o ca ca' mv w1 hl hl' HLN.out.2.2 (HA.out.later B1.out).toJ (HA'.out.later B1.out).toJ)
    have x0 : w1.cell? ⟨w.heap.size, 0, none⟩ = _ := cRn (K1.out.cell 0) rfl
    have x1 : w1.cell? ⟨w.heap.size, 1, none⟩ = _ := cRn (K1.out.cell 1) rfl
    have x2 : w1.cell? ⟨w.heap.size, 2, none⟩ = _ := cRn (K1.out.cell 2) rfl
    unfold tbV at CY
    go_wp2_with fail
    refine CY.out.mono ?_
    rintro e w2 ⟨v, rfl, b, c, b', c', rfl, ho1, ho2, hne, hb2⟩
    have F3 : Hid (Blk (w2.alloc (.cells #[.slice (some ⟨b, 0, none⟩) l.length c, .slice (some ⟨b', 0, none⟩) o.length c', .int .i64 mv] 29)) w2.heap.size 29 [.slice (some ⟨b, 0, none⟩) l.length c, .slice (some ⟨b', 0, none⟩) o.length c', .int .i64 mv] /\ Blk (w2.alloc (.cells #[.slice (some ⟨b, 0, none⟩) l.length c, .slice (some ⟨b', 0, none⟩) o.length c', .int .i64 mv] 29)) w.heap.size 29 [.slice ao l.length ca, .slice a' o.length ca', .int .i64 mv] /\ Blk (w2.alloc (.cells #[.slice (some ⟨b, 0, none⟩) l.length c, .slice (some ⟨b', 0, none⟩) o.length c', .int .i64 mv] 29)) (w.heap.size + 1) 29 [.slice none 0 0, .slice none 0 0, .int .i64 0] /\ (w2.alloc (.cells #[.slice (some ⟨b, 0, none⟩) l.length c, .slice (some ⟨b', 0, none⟩) o.length c', .int .i64 mv] 29)).ownsRow w1.heap.size 132 2 (.slice (some ⟨b, 0, none⟩) l.length c) l.length (ces l) /\ (w2.alloc (.cells #[.slice (some ⟨b, 0, none⟩) l.length c, .slice (some ⟨b', 0, none⟩) o.length c', .int .i64 mv] 29)).ownsRow w1.heap.size 132 2 (.slice (some ⟨b', 0, none⟩) o.length c') o.length (ces o) /\ Below w.heap.size w (w2.alloc (.cells #[.slice (some ⟨b, 0, none⟩) l.length c, .slice (some ⟨b', 0, none⟩) o.length c', .int .i64 mv] 29)) /\ w2.heap.size < (w2.alloc (.cells #[.slice (some ⟨b, 0, none⟩) l.length c, .slice (some ⟨b', 0, none⟩) o.length c', .int .i64 mv] 29)).heap.size) :=
     ⟨Blk.new w2 _ _, (K1.out.below hb2 K1.out.lt).more _, (R1.out.below hb2 R1.out.lt).more _, ho1.alloc _, ho2.alloc _, (B1.out.trans (hb2.mono B1.out.size)).alloc (Nat.le_trans B1.out.size hb2.size) _, by rw [World.size_alloc]; omega⟩
    have lb := ho1.lt b rfl
    have lb' := ho2.lt b' rfl
    have s12 := hb2.size
    have s01 := S1.out
    clear ho1 ho2 hb2 x0 x1 x2 CY
    unfold tbV
    go_upto_region 4 with fail
    generalize (w2.alloc (.cells #[.slice (some ⟨b, 0, none⟩) l.length c, .slice (some ⟨b', 0, none⟩) o.length c', .int .i64 mv] 29)) = w3 at F3 ⊢
    obtain ⟨Q3, K3, R3, O3, P3, B3, hq3⟩ := F3.out
    have CS := hI (qbR ao l ca key w3 hl hk (HA.out.later B3))
    have CS2 := hI (fun w' (hb : Below w.heap.size w w') => qbR a' o ca' key w' hl' hk (HA'.out.later hb))
    have F3' := hI (And.intro Q3 (And.intro K3 (And.intro R3 (And.intro O3 (And.intro P3 B3)))))
    have hr3 := R3.lt
    have hk3 := K3.lt
    have x0 : w3.cell? ⟨w.heap.size, 0, none⟩ = _ := cRn (K3.cell 0) rfl
    clear F3 Q3 K3 R3 O3 P3 B3
    go_wp2_with fail
    refine CS.out.mono ?_
    rintro e w4 ⟨rfl, hb4⟩
    have F4 : Hid (Blk w4 w2.heap.size 29 [.slice (some ⟨b, 0, none⟩) l.length c, .slice (some ⟨b', 0, none⟩) o.length c', .int .i64 mv] /\ Blk w4 w.heap.size 29 [.slice ao l.length ca, .slice a' o.length ca', .int .i64 mv] /\ Blk w4 (w.heap.size + 1) 29 [.slice none 0 0, .slice none 0 0, .int .i64 0] /\ w4.ownsRow w1.heap.size 132 2 (.slice (some ⟨b, 0, none⟩) l.length c) l.length (ces l) /\ w4.ownsRow w1.heap.size 132 2 (.slice (some ⟨b', 0, none⟩) o.length c') o.length (ces o) /\ Below w.heap.size w w4) := by
     obtain ⟨Q3, K3, R3, O3, P3, B3⟩ := F3'.out
     exact ⟨Q3.below hb4 hq3, K3.below hb4 hk3, R3.below hb4 hr3, qaE O3 hb4, qaE P3 hb4, B3.trans (hb4.mono B3.size)⟩
    clear hb4 CS F3' x0
    have f0 := B0.out.size
    have hl0 : 1 <= l.length := HLN.out.2.2
    rcases hq : qaZ l key with _ | k
    ·have HQ := hI hq
     unfold qdC
     clear hq
     have x1 : w4.cell? ⟨w.heap.size, 1, none⟩ = _ := cRn (F4.out.2.1.cell 1) rfl
     have CSB := hI (CS2.out w4 F4.out.2.2.2.2.2)
     go_wp2_with fail
     refine CSB.out.mono ?_
     rintro e w5 ⟨rfl, hb5⟩
     have hs4 : w.heap.size + 1 < w4.heap.size := F4.out.2.2.1.lt
     have hq4 : w2.heap.size < w4.heap.size := F4.out.1.lt
     have F5 : Hid (Blk w5 w2.heap.size 29 [.slice (some ⟨b, 0, none⟩) l.length c, .slice (some ⟨b', 0, none⟩) o.length c', .int .i64 mv] /\ Blk w5 (w.heap.size + 1) 29 [.slice none 0 0, .slice none 0 0, .int .i64 0] /\ w5.ownsRow w1.heap.size 132 2 (.slice (some ⟨b, 0, none⟩) l.length c) l.length (ces (l)) /\ w5.ownsRow w1.heap.size 132 2 (.slice (some ⟨b', 0, none⟩) o.length c') o.length (ces (o)) /\ Below w.heap.size w w5) := ⟨F4.out.1.below hb5 hq4, F4.out.2.2.1.below hb5 hs4, qaE F4.out.2.2.2.1 hb5, qaE F4.out.2.2.2.2.1 hb5, F4.out.2.2.2.2.2.trans (hb5.mono F4.out.2.2.2.2.2.size)⟩
     clear hb5 CSB F4 x1
     rcases hq2 : qaZ o key with _ | k
     ·have HG := hI (show goneO o key = o by rw [goneO, hq2])
      unfold qdC
      clear hq2
      have CPUT := hI (qgY b c w1.heap.size l key h w5 hl (by omega) hk F5.out.2.2.1)
      have z0 : w5.cell? ⟨w2.heap.size, 0, none⟩ = some (.slice (some ⟨b, 0, none⟩) l.length c) := F5.out.1.cell 0
      have hwq : w2.heap.size < w5.heap.size := F5.out.1.lt
      have hws : w.heap.size + 1 < w5.heap.size := F5.out.2.1.lt
      go_wp2_with fail
      refine CPUT.out.mono ?_
      rintro e w8 ⟨hr, hg8⟩
      have F8 : Hid (Blk w8 w2.heap.size 29 [.slice (some ⟨b, 0, none⟩) l.length c, .slice (some ⟨b', 0, none⟩) o.length c', .int .i64 mv] /\ Blk w8 (w.heap.size + 1) 29 [.slice none 0 0, .slice none 0 0, .int .i64 0] /\ w8.ownsRow w1.heap.size 132 2 (.slice (some ⟨b', 0, none⟩) o.length c') o.length (ces (o)) /\ Below w.heap.size w w8) :=
       ⟨(hg8.block _ hwq (fun e => by have := Option.some.inj e; omega)).trans F5.out.1, (hg8.block _ hws (fun e => by have := Option.some.inj e; omega)).trans F5.out.2.1, F5.out.2.2.2.1.kept hg8 (.inr (fun e => hne (Option.some.inj e).symm)), F5.out.2.2.2.2.trans (qaU hg8 (fun g e => by have := Option.some.inj e; omega) (by omega))⟩
      clear hg8 CPUT z0
      rcases hr with ⟨l', hput, rfl, ho8⟩ | ⟨hput, rfl, hww⟩
      ·have HVAL := hI (show qcJ l o mv key h = some (l', o, mv) by rw [qcJ, HQ.out]; simp only []; rw [hput]; simp only []; rw [HG.out])
       have hll : l'.length = l.length := qlH hput
       have O8 := hI ho8
       clear hput ho8
       have HN := hI (MadeT.fin (r := w.heap.size + 1) (ok := qeC l o mv key h) (R := qcJ l o mv key h) (M := mv) F8.out.2.2.2 (by omega) (qaB O8.out (by omega)) (hll) (qaB F8.out.2.2.1 (by omega)) (rfl) (qiJ hne) (fun k hk => by have e : b = k := Option.some.inj hk; omega) (fun k hk => by have e : b' = k := Option.some.inj hk; omega) (HP.out) (HVAL.out) (.slice (some ⟨b, 0, none⟩) l.length c) (.slice (some ⟨b', 0, none⟩) o.length c') (.int .i64 mv))
       have HH := hI (qaI F8.out.2.1 (.slice (some ⟨b, 0, none⟩) l.length c) (.slice (some ⟨b', 0, none⟩) o.length c') (.int .i64 mv))
       have q0 : w8.cell? ⟨w2.heap.size, 0, none⟩ = some (.slice (some ⟨b, 0, none⟩) l.length c) := (F8.out.1).cell 0
       have q1 : w8.cell? ⟨w2.heap.size, 1, none⟩ = some (.slice (some ⟨b', 0, none⟩) o.length c') := (F8.out.1).cell 1
       have q2 : w8.cell? ⟨w2.heap.size, 2, none⟩ = _ := cRn ((F8.out.1).cell 2) rfl
       have y0 : w8.cell? ⟨w.heap.size + 1, 0, none⟩ = _ := cRn ((F8.out.2.1).cell 0) rfl
       have y1 : w8.cell? ⟨w.heap.size + 1, 1, none⟩ = _ := cRn ((F8.out.2.1).cell 1) rfl
       have y2 : w8.cell? ⟨w.heap.size + 1, 2, none⟩ = _ := cRn ((F8.out.2.1).cell 2) rfl
       have yf (j) : w8.frozen? ⟨w.heap.size + 1, j, none⟩ = false := (F8.out.2.1).froz j
       unfold qeS at HN HH
       go_wp2
       refine bodyPost_ret (qgG Tryz.results42 _ _ (w.heap.size + 1) 29 #[.slice (some ⟨b, 0, none⟩) l.length c, .slice (some ⟨b', 0, none⟩) o.length c', .int .i64 mv] (0, 0) _ rfl HH.out Tryz.underlying29 rfl (by kernel_rfl)) rfl ?_
       exact HN.out
      ·have HPN := hI hput
       have R8 := hI F8.out.2.1
       have B8 := hI F8.out.2.2.2
       clear hput hww
       have HN := hI (MadeT.no (r := w.heap.size + 1) (R := qcJ l o mv key h) (ok := qeC l o mv key h) B8.out (by omega) (fun hp => by obtain ⟨x, hx⟩ := hp.2; rw [qcJ, HQ.out] at hx; simp only [] at hx; rw [HPN.out] at hx; cases hx) (.slice none 0 0) (.slice none 0 0) (.int .i64 0))
       have HH := hI (qaI R8.out (.slice none 0 0) (.slice none 0 0) (.int .i64 0))
       have y0 : w8.cell? ⟨w.heap.size + 1, 0, none⟩ = _ := cRn (R8.out.cell 0) rfl
       have y1 : w8.cell? ⟨w.heap.size + 1, 1, none⟩ = _ := cRn (R8.out.cell 1) rfl
       have y2 : w8.cell? ⟨w.heap.size + 1, 2, none⟩ = _ := cRn (R8.out.cell 2) rfl
       have yf (j) : w8.frozen? ⟨w.heap.size + 1, j, none⟩ = false := R8.out.froz j
       unfold qeS at HN HH
       go_wp2
       refine bodyPost_ret (qgG Tryz.results42 _ _ (w.heap.size + 1) 29 #[.slice none 0 0, .slice none 0 0, .int .i64 0] (0, 0) _ rfl HH.out Tryz.underlying29 rfl (by kernel_rfl)) rfl ?_
       exact HN.out
     ·have hkl : k < o.length := qdT _ _ _ hq2
      have k1 : (k : Int) < (o.length : Int) := by omega
      have q : decide ((0 : Int) <= (k : Int)) = true := by simp
      have HG := hI (show goneO o key = o.set k gC by rw [goneO, hq2])
      have z1 : w5.cell? ⟨w2.heap.size, 1, none⟩ = some (.slice (some ⟨b', 0, none⟩) o.length c') := F5.out.1.cell 1
      obtain ⟨v0, t0⟩ := qaQ F5.out.2.2.2.1 (k * 2) (by omega)
      obtain ⟨v1, t1⟩ := qaQ F5.out.2.2.2.1 (k * 2 + 1) (by omega)
      have g0 := F5.out.2.2.2.1.frozenAt (k * 2)
      have g1 := F5.out.2.2.2.1.frozenAt (k * 2 + 1)
      have F6 : Hid (Blk ((w5.setCell ⟨b', k * 2, none⟩ (.string ⟨#[]⟩)).setCell ⟨b', k * 2 + 1, none⟩ (.int .i64 (-2))) w2.heap.size 29 [.slice (some ⟨b, 0, none⟩) l.length c, .slice (some ⟨b', 0, none⟩) o.length c', .int .i64 mv] /\ Blk ((w5.setCell ⟨b', k * 2, none⟩ (.string ⟨#[]⟩)).setCell ⟨b', k * 2 + 1, none⟩ (.int .i64 (-2))) (w.heap.size + 1) 29 [.slice none 0 0, .slice none 0 0, .int .i64 0] /\ ((w5.setCell ⟨b', k * 2, none⟩ (.string ⟨#[]⟩)).setCell ⟨b', k * 2 + 1, none⟩ (.int .i64 (-2))).ownsRow w1.heap.size 132 2 (.slice (some ⟨b, 0, none⟩) l.length c) l.length (ces (l)) /\ ((w5.setCell ⟨b', k * 2, none⟩ (.string ⟨#[]⟩)).setCell ⟨b', k * 2 + 1, none⟩ (.int .i64 (-2))).ownsRow w1.heap.size 132 2 (.slice (some ⟨b', 0, none⟩) o.length c') o.length (ces (o.set k gC)) /\ Below w.heap.size w ((w5.setCell ⟨b', k * 2, none⟩ (.string ⟨#[]⟩)).setCell ⟨b', k * 2 + 1, none⟩ (.int .i64 (-2)))) := by
       refine ⟨(F5.out.1.far _ _ (by dsimp only; omega)).far _ _ (by dsimp only; omega), (F5.out.2.1.far _ _ (by dsimp only; omega)).far _ _ (by dsimp only; omega), qaA (qaA F5.out.2.2.1 _ _ ?_) _ _ ?_, qkK F5.out.2.2.2.1 rfl k hkl gC, qjD F5.out.2.2.2.2 (by omega) k gC⟩
       all_goals
        intro j hj
        have e : b = j := Option.some.inj hj
        dsimp only
        omega
      unfold qdC
      clear hq2 F5
      go_upto_region 11 with fail
      clear z1 t0 t1 g0 g1
      generalize ((w5.setCell ⟨b', k * 2, none⟩ (.string ⟨#[]⟩)).setCell ⟨b', k * 2 + 1, none⟩ (.int .i64 (-2))) = w6 at F6 ⊢
      have CPUT := hI (qgY b c w1.heap.size l key h w6 hl (by omega) hk F6.out.2.2.1)
      have z0 : w6.cell? ⟨w2.heap.size, 0, none⟩ = some (.slice (some ⟨b, 0, none⟩) l.length c) := F6.out.1.cell 0
      have hwq : w2.heap.size < w6.heap.size := F6.out.1.lt
      have hws : w.heap.size + 1 < w6.heap.size := F6.out.2.1.lt
      go_wp2_with fail
      refine CPUT.out.mono ?_
      rintro e w8 ⟨hr, hg8⟩
      have F8 : Hid (Blk w8 w2.heap.size 29 [.slice (some ⟨b, 0, none⟩) l.length c, .slice (some ⟨b', 0, none⟩) o.length c', .int .i64 mv] /\ Blk w8 (w.heap.size + 1) 29 [.slice none 0 0, .slice none 0 0, .int .i64 0] /\ w8.ownsRow w1.heap.size 132 2 (.slice (some ⟨b', 0, none⟩) o.length c') o.length (ces (o.set k gC)) /\ Below w.heap.size w w8) :=
       ⟨(hg8.block _ hwq (fun e => by have := Option.some.inj e; omega)).trans F6.out.1, (hg8.block _ hws (fun e => by have := Option.some.inj e; omega)).trans F6.out.2.1, F6.out.2.2.2.1.kept hg8 (.inr (fun e => hne (Option.some.inj e).symm)), F6.out.2.2.2.2.trans (qaU hg8 (fun g e => by have := Option.some.inj e; omega) (by omega))⟩
      clear hg8 CPUT z0
      rcases hr with ⟨l', hput, rfl, ho8⟩ | ⟨hput, rfl, hww⟩
      ·have HVAL := hI (show qcJ l o mv key h = some (l', o.set k gC, mv) by rw [qcJ, HQ.out]; simp only []; rw [hput]; simp only []; rw [HG.out])
       have hll : l'.length = l.length := qlH hput
       have O8 := hI ho8
       clear hput ho8
       have HN := hI (MadeT.fin (r := w.heap.size + 1) (ok := qeC l o mv key h) (R := qcJ l o mv key h) (M := mv) F8.out.2.2.2 (by omega) (qaB O8.out (by omega)) (hll) (qaB F8.out.2.2.1 (by omega)) (List.length_set ..) (qiJ hne) (fun k hk => by have e : b = k := Option.some.inj hk; omega) (fun k hk => by have e : b' = k := Option.some.inj hk; omega) (HP.out) (HVAL.out) (.slice (some ⟨b, 0, none⟩) l.length c) (.slice (some ⟨b', 0, none⟩) o.length c') (.int .i64 mv))
       have HH := hI (qaI F8.out.2.1 (.slice (some ⟨b, 0, none⟩) l.length c) (.slice (some ⟨b', 0, none⟩) o.length c') (.int .i64 mv))
       have q0 : w8.cell? ⟨w2.heap.size, 0, none⟩ = some (.slice (some ⟨b, 0, none⟩) l.length c) := (F8.out.1).cell 0
       have q1 : w8.cell? ⟨w2.heap.size, 1, none⟩ = some (.slice (some ⟨b', 0, none⟩) o.length c') := (F8.out.1).cell 1
       have q2 : w8.cell? ⟨w2.heap.size, 2, none⟩ = _ := cRn ((F8.out.1).cell 2) rfl
       have y0 : w8.cell? ⟨w.heap.size + 1, 0, none⟩ = _ := cRn ((F8.out.2.1).cell 0) rfl
       have y1 : w8.cell? ⟨w.heap.size + 1, 1, none⟩ = _ := cRn ((F8.out.2.1).cell 1) rfl
       have y2 : w8.cell? ⟨w.heap.size + 1, 2, none⟩ = _ := cRn ((F8.out.2.1).cell 2) rfl
       have yf (j) : w8.frozen? ⟨w.heap.size + 1, j, none⟩ = false := (F8.out.2.1).froz j
       unfold qeS at HN HH
       go_wp2
       refine bodyPost_ret (qgG Tryz.results42 _ _ (w.heap.size + 1) 29 #[.slice (some ⟨b, 0, none⟩) l.length c, .slice (some ⟨b', 0, none⟩) o.length c', .int .i64 mv] (0, 0) _ rfl HH.out Tryz.underlying29 rfl (by kernel_rfl)) rfl ?_
       exact HN.out
      ·have HPN := hI hput
       have R8 := hI F8.out.2.1
       have B8 := hI F8.out.2.2.2
       clear hput hww
       have HN := hI (MadeT.no (r := w.heap.size + 1) (R := qcJ l o mv key h) (ok := qeC l o mv key h) B8.out (by omega) (fun hp => by obtain ⟨x, hx⟩ := hp.2; rw [qcJ, HQ.out] at hx; simp only [] at hx; rw [HPN.out] at hx; cases hx) (.slice none 0 0) (.slice none 0 0) (.int .i64 0))
       have HH := hI (qaI R8.out (.slice none 0 0) (.slice none 0 0) (.int .i64 0))
       have y0 : w8.cell? ⟨w.heap.size + 1, 0, none⟩ = _ := cRn (R8.out.cell 0) rfl
       have y1 : w8.cell? ⟨w.heap.size + 1, 1, none⟩ = _ := cRn (R8.out.cell 1) rfl
       have y2 : w8.cell? ⟨w.heap.size + 1, 2, none⟩ = _ := cRn (R8.out.cell 2) rfl
       have yf (j) : w8.frozen? ⟨w.heap.size + 1, j, none⟩ = false := R8.out.froz j
       unfold qeS at HN HH
       go_wp2
       refine bodyPost_ret (qgG Tryz.results42 _ _ (w.heap.size + 1) 29 #[.slice none 0 0, .slice none 0 0, .int .i64 0] (0, 0) _ rfl HH.out Tryz.underlying29 rfl (by kernel_rfl)) rfl ?_
       exact HN.out
    ·have hkl : k < l.length := qdT _ _ _ hq
     have k1 : (k : Int) < (l.length : Int) := by omega
     have q : decide ((0 : Int) <= (k : Int)) = true := by simp
     have HVAL := hI (show qcJ l o mv key h = some (l.set k ⟨key, h⟩, o, mv) by rw [qcJ, hq])
     have hkey := qhS hq hkl
     have z1 : w4.cell? ⟨w2.heap.size, 0, none⟩ = some (.slice (some ⟨b, 0, none⟩) l.length c) := F4.out.1.cell 0
     obtain ⟨v1, t1⟩ := qaQ F4.out.2.2.2.1 (k * 2 + 1) (by omega)
     have g1 := F4.out.2.2.2.1.frozenAt (k * 2 + 1)
     have F6 : Hid (Blk (w4.setCell ⟨b, k * 2 + 1, none⟩ (.int .i64 h)) w2.heap.size 29 [.slice (some ⟨b, 0, none⟩) l.length c, .slice (some ⟨b', 0, none⟩) o.length c', .int .i64 mv] /\ Blk (w4.setCell ⟨b, k * 2 + 1, none⟩ (.int .i64 h)) (w.heap.size + 1) 29 [.slice none 0 0, .slice none 0 0, .int .i64 0] /\ (w4.setCell ⟨b, k * 2 + 1, none⟩ (.int .i64 h)).ownsRow w1.heap.size 132 2 (.slice (some ⟨b, 0, none⟩) l.length c) l.length (ces (l.set k ⟨key, h⟩)) /\ (w4.setCell ⟨b, k * 2 + 1, none⟩ (.int .i64 h)).ownsRow w1.heap.size 132 2 (.slice (some ⟨b', 0, none⟩) o.length c') o.length (ces (o)) /\ Below w.heap.size w (w4.setCell ⟨b, k * 2 + 1, none⟩ (.int .i64 h))) := by
      refine ⟨F4.out.1.far _ _ (by dsimp only; omega), F4.out.2.2.1.far _ _ (by dsimp only; omega), ?_, qaA F4.out.2.2.2.2.1 _ _ ?_, F4.out.2.2.2.2.2.setCell (p := ⟨b, k * 2 + 1, none⟩) (by dsimp only; omega) _⟩
      ·have st := (World.ownsRow.stored F4.out.2.2.2.1 (k * 2 + 1) (.int .i64 h)).1
       rw [qoY hkl, hkey] at st
       exact st
      ·intro j hj
       have e : b' = j := Option.some.inj hj
       dsimp only
       omega
     unfold qdC
     clear hq F4 hkey
     go_upto_region 7 with fail
     clear z1 t1 g1
     generalize (w4.setCell ⟨b, k * 2 + 1, none⟩ (.int .i64 h)) = w6 at F6 ⊢
     have HN := hI (MadeT.fin (r := w.heap.size + 1) (ok := qeC l o mv key h) (R := qcJ l o mv key h) (M := mv) F6.out.2.2.2.2 (by omega) (qaB F6.out.2.2.1 (by omega)) (List.length_set ..) (qaB F6.out.2.2.2.1 (by omega)) (rfl) (qiJ hne) (fun k hk => by have e : b = k := Option.some.inj hk; omega) (fun k hk => by have e : b' = k := Option.some.inj hk; omega) (HP.out) (HVAL.out) (.slice (some ⟨b, 0, none⟩) l.length c) (.slice (some ⟨b', 0, none⟩) o.length c') (.int .i64 mv))
     have HH := hI (qaI F6.out.2.1 (.slice (some ⟨b, 0, none⟩) l.length c) (.slice (some ⟨b', 0, none⟩) o.length c') (.int .i64 mv))
     have q0 : w6.cell? ⟨w2.heap.size, 0, none⟩ = some (.slice (some ⟨b, 0, none⟩) l.length c) := (F6.out.1).cell 0
     have q1 : w6.cell? ⟨w2.heap.size, 1, none⟩ = some (.slice (some ⟨b', 0, none⟩) o.length c') := (F6.out.1).cell 1
     have q2 : w6.cell? ⟨w2.heap.size, 2, none⟩ = _ := cRn ((F6.out.1).cell 2) rfl
     have y0 : w6.cell? ⟨w.heap.size + 1, 0, none⟩ = _ := cRn ((F6.out.2.1).cell 0) rfl
     have y1 : w6.cell? ⟨w.heap.size + 1, 1, none⟩ = _ := cRn ((F6.out.2.1).cell 1) rfl
     have y2 : w6.cell? ⟨w.heap.size + 1, 2, none⟩ = _ := cRn ((F6.out.2.1).cell 2) rfl
     have yf (j) : w6.frozen? ⟨w.heap.size + 1, j, none⟩ = false := (F6.out.2.1).froz j
     unfold qeS at HN HH
     go_wp2
     refine bodyPost_ret (qgG Tryz.results42 _ _ (w.heap.size + 1) 29 #[.slice (some ⟨b, 0, none⟩) l.length c, .slice (some ⟨b', 0, none⟩) o.length c', .int .i64 mv] (0, 0) _ rfl HH.out Tryz.underlying29 rfl (by kernel_rfl)) rfl ?_
     exact HN.out
  ·have qi : (decide ((1 : Int) <= (key.size : Int)) && decide ((key.size : Int) <= 12)) = false := by rw [Bool.and_eq_false_iff]; simp; omega
   rw [qi]
   have HNP := hI (show ¬ qeC l o mv key h from fun hp => c1 ⟨hp.2.1, hp.2.2.1⟩)
   clear c1 qi
   have HN := hI (MadeT.no (r := w.heap.size + 1) (R := qcJ l o mv key h) (ok := qeC l o mv key h) B1.out (by omega) (fun hp => HNP.out hp.1) (.slice none 0 0) (.slice none 0 0) (.int .i64 0))
   have HH := hI (qaI R1.out (.slice none 0 0) (.slice none 0 0) (.int .i64 0))
   have y0 : w1.cell? ⟨w.heap.size + 1, 0, none⟩ = _ := cRn (R1.out.cell 0) rfl
   have y1 : w1.cell? ⟨w.heap.size + 1, 1, none⟩ = _ := cRn (R1.out.cell 1) rfl
   have y2 : w1.cell? ⟨w.heap.size + 1, 2, none⟩ = _ := cRn (R1.out.cell 2) rfl
   have yf (j) : w1.frozen? ⟨w.heap.size + 1, j, none⟩ = false := R1.out.froz j
   unfold qeS at HN HH
   go_wp2
   refine bodyPost_ret (qgG Tryz.results42 _ _ (w.heap.size + 1) 29 #[.slice none 0 0, .slice none 0 0, .int .i64 0] (0, 0) _ rfl HH.out Tryz.underlying29 rfl (by kernel_rfl)) rfl ?_
   exact HN.out
end Go.Proofs.YtigpjmmfelndkaaGreatDoor
namespace Go.Proofs.YtigpjmmfelndkaaGreatDoor
open Go.ChangeShapes Go.WideShapes Go.ChangeAt Go.RowKit Go.Deep Go.Joins
instance : Inhabited Ce := ⟨zC⟩
def Own2 (w : World) (B : Nat) (ao : Option Addr) (c : Nat) (L : List Ce) (a' : Option Addr) (c' : Nat) (O : List Ce) : Prop := w.ownsRow B 132 2 (.slice ao L.length c) L.length (ces L) /\ w.ownsRow B 132 2 (.slice a' O.length c') O.length (ces O) /\ qvF (.slice ao L.length c) (.slice a' O.length c')
theorem Own2.rd {w : World} {B c c' : Nat} {ao a' : Option Addr} {L O : List Ce} (h : Own2 w B ao c L a' c' O) : RdC w ao L /\ RdC w a' O := ⟨qcZ h.1, qcZ h.2.1⟩
theorem Own2.later {w w' : World} {B c c' : Nat} {ao a' : Option Addr} {L O : List Ce} (h : Own2 w B ao c L a' c' O) (hb : Below w.heap.size w w') : Own2 w' B ao c L a' c' O := ⟨qaE h.1 hb, qaE h.2.1 hb, h.2.2⟩
theorem Own2.base {w : World} {B B' c c' : Nat} {ao a' : Option Addr} {L O : List Ce} (h : Own2 w B ao c L a' c' O) (hB : B' <= B) : Own2 w B' ao c L a' c' O := ⟨qaB h.1 hB, qaB h.2.1 hB, h.2.2⟩
theorem Own2.lt {w : World} {B c c' : Nat} {ao a' : Option Addr} {L O : List Ce} (h : Own2 w B ao c L a' c' O) : ∀ g, ((Value.slice ao L.length c).ownBlock = some g ∨ (Value.slice a' O.length c').ownBlock = some g) -> B <= g /\ g < w.heap.size := by
 rintro g (e | e)
 ·exact h.1.lt g e
 ·exact h.2.1.lt g e
end Go.Proofs.YtigpjmmfelndkaaGreatDoor
