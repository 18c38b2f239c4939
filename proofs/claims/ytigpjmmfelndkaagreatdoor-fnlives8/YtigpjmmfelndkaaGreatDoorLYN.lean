import Derived.Test.YtigpjmmfelndkaaGreatDoorLYM
import Derived.Test.YtigpjmmfelndkaaGreatDoorLYL
namespace Go.Proofs.YtigpjmmfelndkaaGreatDoor
open Go.RowKit
set_option linter.unusedVariables false
set_option maxRecDepth 100000
set_option maxHeartbeats 8000000
theorem Tryz.infoFn : (Tryz.prog.info? 76).map (fun i => (i.zero, i.size, i.bytes)) = some (some .nilFunc, 1, 8) := by kernel_rfl
theorem zcY {w : World} {base : Nat} {e : TypeId} {v x y : Value} (h : w.ownsRow base e 1 v 2 [x, y]) : ∃ g c, v = .slice (some ⟨g, 0, none⟩) 2 c /\ base <= g /\ g < w.heap.size /\ w.cell? ⟨g, 0, none⟩ = some x /\ w.cell? ⟨g, 1, none⟩ = some y := by
 rcases h.2 with ⟨hv, h0⟩ | ⟨g, cap, cur, hv, _, hh, _⟩
 ·omega
 ·have hg : v.ownBlock = some g := by rw [hv]; rfl
  have hl := h.lt g hg
  refine ⟨g, cap, hv, hl.1, hl.2, ?_, ?_⟩
  ·have := h.cells hg 0 _ (show [x, y][0]? = some x from rfl)
   rw [Addr.add_lit] at this
   exact this
  ·have := h.cells hg 1 _ (show [x, y][1]? = some y from rfl)
   rw [Addr.add_lit] at this
   exact this
theorem gcell {w w' : World} {r g j : Nat} {v : Value} (h : w.grownBy w' (some r)) (hc : w.cell? ⟨g, j, none⟩ = some v) (hg : g < w.heap.size) (hne : g ≠ r) : w'.cell? ⟨g, j, none⟩ = some v := by
 have := h.block g hg (fun e => hne (by injection e))
 rw [<- hc]
 unfold World.cell?
 simp only [this]
theorem zcJ {l : List ByteArray} {k : ByteArray} (h : ¬ k ∈ l) : qeG l k = false := by
 rcases e : qeG l k with _ | _
 ·rfl
 ·exact absurd ((qaF _ _).1 e) h
theorem zbL {w : World} {B : Nat} {A : NA} {N : Nr} (h : InN N) (hA : OwnN w B A N) (hB : B <= w.heap.size) (hD : TabD w) (k : ByteArray) (hk : qcV k) (hn : ¬ k ∈ qaD N) :
  Calls Tryz.prog 19 #[neV A N, .string k] w fun e w' => ∃ A', e = .returned (.tuple #[neV A' (wantN N k), .string ⟨#[]⟩, .bool false]) /\ OwnN w' w.heap.size A' (wantN N k) /\ Below w.heap.size w w' := by
 have hmf : ∀ (fn : Fn) (first cap : Array Value) (w : World), (Instr.makeFunc fn first cap).run Tryz.prog w = .ok (.func fn first cap) w := fun _ _ _ _ => rfl
 have F0 := hI (qdI w (nA A N) nZ 39 39)
 have hks : k.size <= 1048576 := by have := hk.2; omega
 have HKQ := hI hk
 have C0 := hI (fun w' (hb : Below w.heap.size w w') => qoQ h (hA.later hb) (Nat.le_trans hB hb.size))
 have C1 := hI (fun w' r (V : VaH w' r B A N) => valI V h k hks)
 have C2 := hI (fun w' r (V : VaH w' r B A N) (hD : TabD w') => quY V h.small k hks hD)
 have HW := hI (show wantN N k = cnN N k by unfold wantN; rw [if_neg (by rw [zcJ hn]; simp)])
 rw [HW.out]
 have hf := h.cn k
 have C4 := hI (fun w' r A' (V : VaH w' r B A' (cnN N k)) => qzM V hf.small ⟨by have := hf.qw.small; omega, by have := hf.qt.small; omega, by have := hf.qs.small; omega⟩)
 have HK := hI hn
 have HD := hI hD
 generalize cnN N k = N5 at *
 unfold neV at C0 C4 ⊢
 have hw0 := hD.pos
 clear h hA hks hf hn hD hk HW
 go_enter Tryz.func19, Tryz.ntmps19
 go_wp2_with fail
 generalize ((w.alloc (.cells (nA A N) 39)).alloc (.cells nZ 39)) = w0 at F0 ⊢
 obtain ⟨P0, R0, B0⟩ := F0.out
 have R0 := hI R0
 have B0 := hI B0
 have sz0 : w.heap.size + 2 <= w0.heap.size := by have := R0.out.lt; omega
 clear F0 P0
 refine (C0.out w0 B0.out).mono ?_
 rintro e w1 ⟨r, rfl, hV, hr, hb⟩
 have V1 := hI hV
 have R1 := bRn R0 hb
 have B1 := tRn B0 hb
 clear C0 hV hb R0 B0
 go_wp2_with fail
 refine (qeM k w1).mono ?_
 rintro e w1' ⟨x, rfl, hx, rfl⟩
 obtain rfl : x = true := hx.2 HKQ.out
 clear hx
 go_wp2_with fail
 refine (C1.out w1' r V1.out).mono ?_
 rintro e w2 ⟨⟨v, _, _, hy⟩ | ⟨rfl, _⟩, hb⟩
 case inl => exact absurd hy HK.out
 have V2 := hI (V1.out.later hb)
 have R2 := bRn R1 hb
 have B2 := tRn B1 hb
 clear C1 hb V1 R1 B1
 have BX := hI (show Blk (w2.alloc (.cells #[.func (.func 34) #[.pointer (some ⟨r, 11, none⟩)] #[]] 76)) w2.heap.size 76 [.func (.func 34) #[.pointer (some ⟨r, 11, none⟩)] #[]] /\ Below w2.heap.size w2 (w2.alloc (.cells #[.func (.func 34) #[.pointer (some ⟨r, 11, none⟩)] #[]] 76)) from ⟨Blk.new w2 _ _, bAl _ _⟩)
 go_wp2_with fail
 generalize (w2.alloc (.cells #[.func (.func 34) #[.pointer (some ⟨r, 11, none⟩)] #[]] 76)) = w3 at BX ⊢
 have V3 := hI (V2.out.later BX.out.2)
 have R3 := hI (R2.out.below BX.out.2 R2.out.lt)
 have B3 := hI (B2.out.trans (BX.out.2.mono B2.out.size))
 have K3 := hI BX.out.1
 have hrl := V2.out.var.lt
 have hRl := R2.out.lt
 clear BX V2 R2 B2
 generalize w2.heap.size = Q at K3 hrl hRl ⊢
 have D3 := hI (HD.out.below B3.out hw0)
 refine wp_loop_rounds 2 ?_
 have y0 : w3.cell? ⟨Q, 0, none⟩ = some (.func (.func 34) #[.pointer (some ⟨r, 11, none⟩)] #[]) := K3.out.cell 0
 rw [rounds_succ]
 go_wp2_with fail
 refine (C2.out w3 r V3.out D3.out).mono ?_
 rintro e w4 ⟨rfl, A4, V, G⟩
 have V4 := hI V
 have R4 := hI (qlV G R3.out (fun e => by injection e with e; omega))
 have B4 := hI (B3.out.trans (qaU G (fun g' e => by injection e with e; omega) B3.out.size))
 clear V G V3 R3 B3 K3 y0 C2
 go_wp2_with fail
 rw [rounds_succ]
 go_wp2_with fail
 refine (C4.out w4 r A4 V4.out).mono ?_
 rintro e w6 ⟨A6, rfl, ho, hb⟩
 have R6 := bRn R4 hb
 have B6 := tRn B4 hb
 have O6 := hI ho
 have hs5 : w.heap.size + 1 < w4.heap.size := R4.out.lt
 clear ho hb V4 R4 B4 C4
 have u0 : w6.cell? ⟨w.heap.size + 1, 0, none⟩ = _ := cRn (R6.out.cell 0) rfl
 have u1 : w6.cell? ⟨w.heap.size + 1, 1, none⟩ = _ := cRn (R6.out.cell 1) rfl
 have u2 : w6.cell? ⟨w.heap.size + 1, 2, none⟩ = _ := cRn (R6.out.cell 2) rfl
 have u3 : w6.cell? ⟨w.heap.size + 1, 3, none⟩ = _ := cRn (R6.out.cell 3) rfl
 have u4 : w6.cell? ⟨w.heap.size + 1, 4, none⟩ = _ := cRn (R6.out.cell 4) rfl
 have u5 : w6.cell? ⟨w.heap.size + 1, 5, none⟩ = _ := cRn (R6.out.cell 5) rfl
 have u6 : w6.cell? ⟨w.heap.size + 1, 6, none⟩ = _ := cRn (R6.out.cell 6) rfl
 have u7 : w6.cell? ⟨w.heap.size + 1, 7, none⟩ = _ := cRn (R6.out.cell 7) rfl
 have u8 : w6.cell? ⟨w.heap.size + 1, 8, none⟩ = _ := cRn (R6.out.cell 8) rfl
 have u9 : w6.cell? ⟨w.heap.size + 1, 9, none⟩ = _ := cRn (R6.out.cell 9) rfl
 have u10 : w6.cell? ⟨w.heap.size + 1, 10, none⟩ = _ := cRn (R6.out.cell 10) rfl
 have u11 : w6.cell? ⟨w.heap.size + 1, 11, none⟩ = _ := cRn (R6.out.cell 11) rfl
 have u12 : w6.cell? ⟨w.heap.size + 1, 12, none⟩ = _ := cRn (R6.out.cell 12) rfl
 have u13 : w6.cell? ⟨w.heap.size + 1, 13, none⟩ = _ := cRn (R6.out.cell 13) rfl
 have uf (j) : w6.frozen? ⟨w.heap.size + 1, j, none⟩ = false := R6.out.froz j
 have HH := hI (Blk.set (Blk.set (Blk.set (Blk.set (Blk.set (Blk.set (Blk.set (Blk.set (Blk.set (Blk.set (Blk.set (Blk.set (Blk.set (Blk.set (R6.out) 0 (.slice A6.a N5.sl.length A6.ac)) 1 (.int .i64 N5.fr)) 2 (.slice A6.c N5.ce.length A6.cc)) 3 (.slice A6.o N5.od.length A6.oc)) 4 (.int .i64 N5.mv)) 5 (.int .i64 N5.wm)) 6 (.slice A6.w N5.w.length A6.wc)) 7 (.int .i64 N5.tm)) 8 (.slice A6.t N5.t.length A6.tc)) 9 (.int .i64 N5.sm)) 10 (.slice A6.s N5.s.length A6.sc)) 11 (.slice A6.k N5.sk.length A6.kc)) 12 (.int .i64 N5.ad)) 13 (.int .i64 N5.dr))
 have OX := hI (OwnN.put14 (s := w.heap.size + 1) O6.out (by omega) (.slice A6.a N5.sl.length A6.ac) (.int .i64 N5.fr) (.slice A6.c N5.ce.length A6.cc) (.slice A6.o N5.od.length A6.oc) (.int .i64 N5.mv) (.int .i64 N5.wm) (.slice A6.w N5.w.length A6.wc) (.int .i64 N5.tm) (.slice A6.t N5.t.length A6.tc) (.int .i64 N5.sm) (.slice A6.s N5.s.length A6.sc) (.slice A6.k N5.sk.length A6.kc) (.int .i64 N5.ad) (.int .i64 N5.dr))
 have BX := hI (qaM (s := w.heap.size + 1) B6.out (by omega) (.slice A6.a N5.sl.length A6.ac) (.int .i64 N5.fr) (.slice A6.c N5.ce.length A6.cc) (.slice A6.o N5.od.length A6.oc) (.int .i64 N5.mv) (.int .i64 N5.wm) (.slice A6.w N5.w.length A6.wc) (.int .i64 N5.tm) (.slice A6.t N5.t.length A6.tc) (.int .i64 N5.sm) (.slice A6.s N5.s.length A6.sc) (.slice A6.k N5.sk.length A6.kc) (.int .i64 N5.ad) (.int .i64 N5.dr))
 go_wp2
 refine bodyPost_ret (qeO Tryz.results19 _ _ (w.heap.size + 1) 39 (nA A6 N5) (0, 0) _ rfl HH.out Tryz.underlying39 rfl (by kernel_rfl)) rfl ?_
 exact ⟨A6, rfl, OX.out.base (by omega), BX.out⟩
theorem qyW {w : World} {B : Nat} {A : NA} {N : Nr} (h : InN N) (hA : OwnN w B A N) (hB : B <= w.heap.size) (hD : TabD w) (k : ByteArray) (hk : qcV k) (hn : k ∈ qaD N) :
  Calls Tryz.prog 19 #[neV A N, .string k] w fun e w' => ∃ A' v, e = .returned (.tuple #[neV A' (wantN N k), .string v, .bool true]) /\ qkI N.sl k v /\ OwnN w' w.heap.size A' (wantN N k) /\ Below w.heap.size w w' := by
 have hmf : ∀ (fn : Fn) (first cap : Array Value) (w : World), (Instr.makeFunc fn first cap).run Tryz.prog w = .ok (.func fn first cap) w := fun _ _ _ _ => rfl
 have F0 := hI (qdI w (nA A N) nZ 39 39)
 have hks : k.size <= 1048576 := by have := hk.2; omega
 have HKQ := hI hk
 have C0 := hI (fun w' (hb : Below w.heap.size w w') => qoQ h (hA.later hb) (Nat.le_trans hB hb.size))
 have C1 := hI (fun w' r (V : VaH w' r B A N) => valI V h k hks)
 have C2 := hI (fun w' r (V : VaH w' r B A N) (hD : TabD w') => quY V h.small k hks hD)
 have HW := hI (show wantN N k = qdR (cnN N k) k by unfold wantN; rw [if_pos ((qaF _ _).2 hn)])
 rw [HW.out]
 have hc := h.cn k
 have C3 := hI (fun w' r A' (V : VaH w' r B A' (cnN N k)) => zaU V hc hc.small k (by rw [qcD]; exact hn))
 have hf := (hc.tch (k := k) (by rw [qcD]; exact hn)).1
 have C4 := hI (fun w' r A' (V : VaH w' r B A' (qdR (cnN N k) k)) => qzM V hf.small ⟨by have := hf.qw.small; omega, by have := hf.qt.small; omega, by have := hf.qs.small; omega⟩)
 have HK := hI hn
 have HD := hI hD
 generalize qdR (cnN N k) k = N5 at *
 generalize cnN N k = N4 at *
 unfold neV at C0 C4 ⊢
 have hw0 := hD.pos
 obtain ⟨i0, hi, hz0, hz1, hz2⟩ := info_parts Tryz.infoFn
 clear h hA hks hf hn hD hk HW hc
 go_enter Tryz.func19, Tryz.ntmps19
 go_wp2_with fail
 generalize ((w.alloc (.cells (nA A N) 39)).alloc (.cells nZ 39)) = w0 at F0 ⊢
 obtain ⟨P0, R0, B0⟩ := F0.out
 have R0 := hI R0
 have B0 := hI B0
 have sz0 : w.heap.size + 2 <= w0.heap.size := by have := R0.out.lt; omega
 clear F0 P0
 refine (C0.out w0 B0.out).mono ?_
 rintro e w1 ⟨r, rfl, hV, hr, hb⟩
 have V1 := hI hV
 have R1 := bRn R0 hb
 have B1 := tRn B0 hb
 clear C0 hV hb R0 B0
 go_wp2_with fail
 refine (qeM k w1).mono ?_
 rintro e w1' ⟨x, rfl, hx, rfl⟩
 obtain rfl : x = true := hx.2 HKQ.out
 clear hx
 go_wp2_with fail
 refine (C1.out w1' r V1.out).mono ?_
 rintro e w2 ⟨⟨v, rfl, hv, _⟩ | ⟨_, hy⟩, hb⟩
 case inr => exact absurd HK.out hy
 have HV := hI hv
 have V2 := hI (V1.out.later hb)
 have R2 := bRn R1 hb
 have B2 := tRn B1 hb
 clear C1 hb V1 R1 B1 hv
 have OL := hI (show (w2.alloc (.cells #[.func (.func 34) #[.pointer (some ⟨r, 11, none⟩)] #[]] 76)).ownsRow w2.heap.size 76 1 (.slice (some ⟨w2.heap.size, 0, none⟩) 1 1) 1 [.func (.func 34) #[.pointer (some ⟨r, 11, none⟩)] #[]] /\ Below w2.heap.size w2 (w2.alloc (.cells #[.func (.func 34) #[.pointer (some ⟨r, 11, none⟩)] #[]] 76)) from ⟨World.ownsRow_lit w2 #[.func (.func 34) #[.pointer (some ⟨r, 11, none⟩)] #[]] 1 (Nat.le_refl _) (by unfold maxLen; omega) rfl, bAl _ _⟩)
 go_upto_region 7 with fail
 generalize (w2.alloc (.cells #[.func (.func 34) #[.pointer (some ⟨r, 11, none⟩)] #[]] 76)) = w2a at OL ⊢
 generalize hQQ : w2.heap.size = Q at OL ⊢
 have hQs : Q <= w2a.heap.size := hQQ ▸ OL.out.2.size
 have HQQ := hI hQQ
 clear hQQ
 go_wp2_with (at_builtin; (refine qbG rfl _ _ 112 rfl Q 76 i0 .nilFunc 8 Tryz.underlying112 hi hz0 hz1 hz2 rfl (by decide) _ 1 [.func (.func 34) #[.pointer (some ⟨r, 11, none⟩)] #[]] rfl OL.out.1 _ rfl rfl (by omega) hQs ?_; intro v' w3 hown' hb3; obtain ⟨g, c, rfl, hg1, hg2, hc0, hc1⟩ := zcY hown'))
 have hQQ := HQQ.out
 subst hQQ
 clear HQQ
 have b3 := OL.out.2.trans hb3
 have V3 := hI (V2.out.later b3)
 have R3 := bRn R2 b3
 have B3 := tRn B2 b3
 have hrl := V2.out.var.lt
 have hRl := R2.out.lt
 have HC0 := hI hc0
 have HC1 := hI hc1
 clear hown' hb3 b3 OL V2 R2 B2 hc0 hc1
 generalize w2.heap.size = Q at *
 have D3 := hI (HD.out.below B3.out hw0)
 refine wp_loop_rounds 3 ?_
 have y0 := HC0.out
 rw [rounds_succ]
 go_wp2_with fail
 refine (C2.out w3 r V3.out D3.out).mono ?_
 rintro e w4 ⟨rfl, A4, V, G⟩
 have V4 := hI V
 have R4 := hI (qlV G R3.out (fun e => by injection e with e; omega))
 have B4 := hI (B3.out.trans (qaU G (fun g' e => by injection e with e; omega) B3.out.size))
 have y1 : w4.cell? ⟨g, 1, none⟩ = some (.func (.func 69) #[.pointer (some ⟨r, 5, none⟩)] #[]) := (gcell G HC1.out hg2 (by omega))
 clear V G V3 R3 B3 y0 C2 HC0 HC1
 go_wp2_with fail
 rw [rounds_succ]
 go_wp2_with fail
 refine (C3.out w4 r A4 V4.out).mono ?_
 rintro e w5 ⟨rfl, A5, V, G⟩
 have V5 := hI V
 have R5 := hI (qlV G R4.out (fun e => by injection e with e; omega))
 have B5 := hI (B4.out.trans (qaU G (fun g' e => by injection e with e; omega) B4.out.size))
 clear V G V4 R4 B4 y1 C3
 go_wp2_with fail
 rw [rounds_succ]
 go_wp2_with fail
 refine (C4.out w5 r A5 V5.out).mono ?_
 rintro e w6 ⟨A6, rfl, ho, hb⟩
 have R6 := bRn R5 hb
 have B6 := tRn B5 hb
 have O6 := hI ho
 have hs5 : w.heap.size + 1 < w5.heap.size := R5.out.lt
 clear ho hb V5 R5 B5 C4
 have u0 : w6.cell? ⟨w.heap.size + 1, 0, none⟩ = _ := cRn (R6.out.cell 0) rfl
 have u1 : w6.cell? ⟨w.heap.size + 1, 1, none⟩ = _ := cRn (R6.out.cell 1) rfl
 have u2 : w6.cell? ⟨w.heap.size + 1, 2, none⟩ = _ := cRn (R6.out.cell 2) rfl
 have u3 : w6.cell? ⟨w.heap.size + 1, 3, none⟩ = _ := cRn (R6.out.cell 3) rfl
 have u4 : w6.cell? ⟨w.heap.size + 1, 4, none⟩ = _ := cRn (R6.out.cell 4) rfl
 have u5 : w6.cell? ⟨w.heap.size + 1, 5, none⟩ = _ := cRn (R6.out.cell 5) rfl
 have u6 : w6.cell? ⟨w.heap.size + 1, 6, none⟩ = _ := cRn (R6.out.cell 6) rfl
 have u7 : w6.cell? ⟨w.heap.size + 1, 7, none⟩ = _ := cRn (R6.out.cell 7) rfl
 have u8 : w6.cell? ⟨w.heap.size + 1, 8, none⟩ = _ := cRn (R6.out.cell 8) rfl
 have u9 : w6.cell? ⟨w.heap.size + 1, 9, none⟩ = _ := cRn (R6.out.cell 9) rfl
 have u10 : w6.cell? ⟨w.heap.size + 1, 10, none⟩ = _ := cRn (R6.out.cell 10) rfl
 have u11 : w6.cell? ⟨w.heap.size + 1, 11, none⟩ = _ := cRn (R6.out.cell 11) rfl
 have u12 : w6.cell? ⟨w.heap.size + 1, 12, none⟩ = _ := cRn (R6.out.cell 12) rfl
 have u13 : w6.cell? ⟨w.heap.size + 1, 13, none⟩ = _ := cRn (R6.out.cell 13) rfl
 have uf (j) : w6.frozen? ⟨w.heap.size + 1, j, none⟩ = false := R6.out.froz j
 have HH := hI (Blk.set (Blk.set (Blk.set (Blk.set (Blk.set (Blk.set (Blk.set (Blk.set (Blk.set (Blk.set (Blk.set (Blk.set (Blk.set (Blk.set (R6.out) 0 (.slice A6.a N5.sl.length A6.ac)) 1 (.int .i64 N5.fr)) 2 (.slice A6.c N5.ce.length A6.cc)) 3 (.slice A6.o N5.od.length A6.oc)) 4 (.int .i64 N5.mv)) 5 (.int .i64 N5.wm)) 6 (.slice A6.w N5.w.length A6.wc)) 7 (.int .i64 N5.tm)) 8 (.slice A6.t N5.t.length A6.tc)) 9 (.int .i64 N5.sm)) 10 (.slice A6.s N5.s.length A6.sc)) 11 (.slice A6.k N5.sk.length A6.kc)) 12 (.int .i64 N5.ad)) 13 (.int .i64 N5.dr))
 have OX := hI (OwnN.put14 (s := w.heap.size + 1) O6.out (by omega) (.slice A6.a N5.sl.length A6.ac) (.int .i64 N5.fr) (.slice A6.c N5.ce.length A6.cc) (.slice A6.o N5.od.length A6.oc) (.int .i64 N5.mv) (.int .i64 N5.wm) (.slice A6.w N5.w.length A6.wc) (.int .i64 N5.tm) (.slice A6.t N5.t.length A6.tc) (.int .i64 N5.sm) (.slice A6.s N5.s.length A6.sc) (.slice A6.k N5.sk.length A6.kc) (.int .i64 N5.ad) (.int .i64 N5.dr))
 have BX := hI (qaM (s := w.heap.size + 1) B6.out (by omega) (.slice A6.a N5.sl.length A6.ac) (.int .i64 N5.fr) (.slice A6.c N5.ce.length A6.cc) (.slice A6.o N5.od.length A6.oc) (.int .i64 N5.mv) (.int .i64 N5.wm) (.slice A6.w N5.w.length A6.wc) (.int .i64 N5.tm) (.slice A6.t N5.t.length A6.tc) (.int .i64 N5.sm) (.slice A6.s N5.s.length A6.sc) (.slice A6.k N5.sk.length A6.kc) (.int .i64 N5.ad) (.int .i64 N5.dr))
 go_wp2
 refine bodyPost_ret (qeO Tryz.results19 _ _ (w.heap.size + 1) 39 (nA A6 N5) (0, 0) _ rfl HH.out Tryz.underlying39 rfl (by kernel_rfl)) rfl ?_
 exact ⟨A6, v, rfl, HV.out, OX.out.base (by omega), BX.out⟩
theorem wantI {w : World} {B : Nat} {A : NA} {N : Nr} (h : InN N) (hA : OwnN w B A N) (hB : B <= w.heap.size) (hD : TabD w) (k : ByteArray) (hk : qcV k) :
  Calls Tryz.prog 19 #[neV A N, .string k] w fun e w' => ∃ A' v t, e = .returned (.tuple #[neV A' (wantN N k), .string v, .bool t]) /\ ValA N k v t /\ OwnN w' w.heap.size A' (wantN N k) /\ Below w.heap.size w w' := by
 by_cases hn : k ∈ qaD N
 ·refine (qyW h hA hB hD k hk hn).mono ?_
  rintro e w' ⟨A', v, rfl, hv, ho, hb⟩
  exact ⟨A', v, true, rfl, .inl ⟨rfl, hv⟩, ho, hb⟩
 ·refine (zbL h hA hB hD k hk hn).mono ?_
  rintro e w' ⟨A', rfl, ho, hb⟩
  exact ⟨A', _, false, rfl, .inr ⟨rfl, rfl, fun y hy => hn (h.hasV.1 ⟨y, hy⟩)⟩, ho, hb⟩
end Go.Proofs.YtigpjmmfelndkaaGreatDoor
