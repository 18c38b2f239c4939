/- A key is wanted of right near entries, by the program. -/
import Derived.Test.YtjgiobdpbbhekaaGreatDoorYM
import Derived.Test.YtjgiobdpbbhekaaGreatDoorYL
import Derived.Test.YtjgiobdpbbhekaaGreatDoorYK
import Derived.LoopN
import Derived.Test.YtjgiobdpbbhekaaGreatDoorYB
namespace Go.Proofs.YtjgiobdpbbhekaaGreatDoor
open Go.RowKit
set_option linter.unusedVariables false

theorem Tryz.infoFn : (Tryz.prog.info? 76).map (fun i => (i.zero, i.size, i.bytes)) = some (some .nilFunc, 1, 8) := by kernel_rfl
/-- A row of two functions. -/
theorem two_at {w : World} {base : Nat} {e : TypeId} {v x y : Value} (h : w.ownsRow base e 1 v 2 [x, y]) : ∃ g c, v = .slice (some ⟨g, 0, none⟩) 2 c ∧ base ≤ g ∧ g < w.heap.size ∧ w.cell? ⟨g, 0, none⟩ = some x ∧ w.cell? ⟨g, 1, none⟩ = some y := by
  rcases h.2 with ⟨hv, h0⟩ | ⟨g, cap, cur, hv, _, hh, _⟩
  · omega
  · have hg : v.ownBlock = some g := by rw [hv]; rfl
    have hl := h.lt g hg
    refine ⟨g, cap, hv, hl.1, hl.2, ?_, ?_⟩
    · have := h.cells hg 0 _ (show [x, y][0]? = some x from rfl)
      rw [Addr.add_lit] at this
      exact this
    · have := h.cells hg 1 _ (show [x, y][1]? = some y from rfl)
      rw [Addr.add_lit] at this
      exact this
theorem gcell {w w' : World} {r g j : Nat} {v : Value} (h : w.grownBy w' (some r)) (hc : w.cell? ⟨g, j, none⟩ = some v) (hg : g < w.heap.size) (hne : g ≠ r) : w'.cell? ⟨g, j, none⟩ = some v := by
  have := h.block g hg (fun e => hne (by injection e))
  rw [← hc]
  unfold World.cell?
  simp only [this]
theorem hasQ_no {l : List ByteArray} {k : ByteArray} (h : ¬ k ∈ l) : hasQ l k = false := by
  rcases e : hasQ l k with _ | _
  · rfl
  · exact absurd ((hasQ_iff _ _).1 e) h

set_option maxRecDepth 100000 in
set_option maxHeartbeats 8000000 in
theorem wantNoI {w : World} {B : Nat} {A : NA} {N : Nr} (h : InN N) (hA : OwnN w B A N) (hB : B ≤ w.heap.size) (hD : TabD w) (k : ByteArray) (hk : keyQ k) (hn : ¬ k ∈ keysN N) :
    Calls Tryz.prog 15 #[neV A N, .string k] w fun e w' => ∃ A', e = .returned (.tuple #[neV A' (wantN N k), .string ⟨#[]⟩, .bool false]) ∧ OwnN w' w.heap.size A' (wantN N k) ∧ Below w.heap.size w w' := by
  have hmf : ∀ (fn : Fn) (first cap : Array Value) (w : World), (Instr.makeFunc fn first cap).run Tryz.prog w = .ok (.func fn first cap) w := fun _ _ _ _ => rfl
  have F0 := hide1 (blkN2 w #[.slice A.a N.sl.length A.ac, .int .i64 N.fr, .slice A.c N.ce.length A.cc, .slice A.o N.od.length A.oc, .int .i64 N.mv, .int .i64 N.wm, .slice A.w N.w.length A.wc, .int .i64 N.tm, .slice A.t N.t.length A.tc, .int .i64 N.sm, .slice A.s N.s.length A.sc, .slice A.k N.sk.length A.kc, .int .i64 N.ad, .int .i64 N.dr] #[.slice none 0 0, .int .i64 0, .slice none 0 0, .slice none 0 0, .int .i64 0, .int .i64 0, .slice none 0 0, .int .i64 0, .slice none 0 0, .int .i64 0, .slice none 0 0, .slice none 0 0, .int .i64 0, .int .i64 0] 39 39)
  have hks : k.size ≤ 1048576 := by have := hk.2; omega
  have HKQ := hide1 hk
  have C0 := hide1 (fun w' (hb : Below w.heap.size w w') => hallOfI h (hA.later hb) (Nat.le_trans hB hb.size))
  have C1 := hide1 (fun w' r (V : VaH w' r B A N) => valI V h k hks)
  have C2 := hide1 (fun w' r (V : VaH w' r B A N) (hD : TabD w') => countI V h.small k hks hD)
  have HW := hide1 (show wantN N k = cnN N k by unfold wantN; rw [if_neg (by rw [hasQ_no hn]; simp)])
  rw [HW.out]
  have hf := h.cn k
  have C4 := hide1 (fun w' r A' (V : VaH w' r B A' (cnN N k)) => nearI V hf.small ⟨by have := hf.qw.small; omega, by have := hf.qt.small; omega, by have := hf.qs.small; omega⟩)
  have HK := hide1 hn
  have HD := hide1 hD
  generalize cnN N k = N5 at *
  unfold neV at C0 C4 ⊢
  have hw0 := hD.pos
  clear h hA hks hf hn hD hk HW
  go_enter Tryz.func15, Tryz.ntmps15
  go_wp2_with fail
  generalize ((w.alloc (.cells #[.slice A.a N.sl.length A.ac, .int .i64 N.fr, .slice A.c N.ce.length A.cc, .slice A.o N.od.length A.oc, .int .i64 N.mv, .int .i64 N.wm, .slice A.w N.w.length A.wc, .int .i64 N.tm, .slice A.t N.t.length A.tc, .int .i64 N.sm, .slice A.s N.s.length A.sc, .slice A.k N.sk.length A.kc, .int .i64 N.ad, .int .i64 N.dr] 39)).alloc (.cells #[.slice none 0 0, .int .i64 0, .slice none 0 0, .slice none 0 0, .int .i64 0, .int .i64 0, .slice none 0 0, .int .i64 0, .slice none 0 0, .int .i64 0, .slice none 0 0, .slice none 0 0, .int .i64 0, .int .i64 0] 39)) = w0 at F0 ⊢
  obtain ⟨P0, R0, B0⟩ := F0.out
  have R0 := hide1 R0
  have B0 := hide1 B0
  have sz0 : w.heap.size + 2 ≤ w0.heap.size := by have := R0.out.lt; omega
  clear F0 P0
  refine (C0.out w0 B0.out).mono ?_
  rintro e w1 ⟨r, rfl, hV, hr, hb⟩
  have V1 := hide1 hV
  have R1 := hide1 (R0.out.below hb R0.out.lt)
  have B1 := hide1 (B0.out.trans (hb.mono B0.out.size))
  clear C0 hV hb R0 B0
  go_wp2_with fail
  refine (keyFitsQ_any k w1).mono ?_
  rintro e w1' ⟨x, rfl, hx, rfl⟩
  obtain rfl : x = true := hx.2 HKQ.out
  clear hx
  go_wp2_with fail
  refine (C1.out w1' r V1.out).mono ?_
  rintro e w2 ⟨⟨v, _, _, hy⟩ | ⟨rfl, _⟩, hb⟩
  case inl => exact absurd hy HK.out
  have V2 := hide1 (V1.out.later hb)
  have R2 := hide1 (R1.out.below hb R1.out.lt)
  have B2 := hide1 (B1.out.trans (hb.mono B1.out.size))
  clear C1 hb V1 R1 B1
  have BX := hide1 (show Blk (w2.alloc (.cells #[.func (.func 35) #[.pointer (some ⟨r, 11, none⟩)] #[]] 76)) w2.heap.size 76 [.func (.func 35) #[.pointer (some ⟨r, 11, none⟩)] #[]] ∧ Below w2.heap.size w2 (w2.alloc (.cells #[.func (.func 35) #[.pointer (some ⟨r, 11, none⟩)] #[]] 76)) from ⟨Blk.new w2 _ _, (Below.refl _ _).alloc (Nat.le_refl _) _⟩)
  go_wp2_with fail
  generalize (w2.alloc (.cells #[.func (.func 35) #[.pointer (some ⟨r, 11, none⟩)] #[]] 76)) = w3 at BX ⊢
  have V3 := hide1 (V2.out.later BX.out.2)
  have R3 := hide1 (R2.out.below BX.out.2 R2.out.lt)
  have B3 := hide1 (B2.out.trans (BX.out.2.mono B2.out.size))
  have K3 := hide1 BX.out.1
  have hrl := V2.out.var.lt
  have hRl := R2.out.lt
  clear BX V2 R2 B2
  generalize w2.heap.size = Q at K3 hrl hRl ⊢
  have D3 := hide1 (HD.out.below B3.out hw0)
  refine wp_loop_rounds 2 ?_
  have y0 : w3.cell? ⟨Q, 0, none⟩ = some (.func (.func 35) #[.pointer (some ⟨r, 11, none⟩)] #[]) := K3.out.cell 0
  rw [rounds_succ]
  go_wp2_with fail
  refine (C2.out w3 r V3.out D3.out).mono ?_
  rintro e w4 ⟨rfl, A4, V, G⟩
  have V4 := hide1 V
  have R4 := hide1 (gblk G R3.out (fun e => by injection e with e; omega))
  have B4 := hide1 (B3.out.trans (gbelow G (fun g' e => by injection e with e; omega) B3.out.size))
  clear V G V3 R3 B3 K3 y0 C2
  go_wp2_with fail
  rw [rounds_succ]
  go_wp2_with fail
  refine (C4.out w4 r A4 V4.out).mono ?_
  rintro e w6 ⟨A6, rfl, ho, hb⟩
  have R6 := hide1 (R4.out.below hb R4.out.lt)
  have B6 := hide1 (B4.out.trans (hb.mono B4.out.size))
  have O6 := hide1 ho
  have hs5 : w.heap.size + 1 < w4.heap.size := R4.out.lt
  clear ho hb V4 R4 B4 C4
  have u0 : w6.cell? ⟨w.heap.size + 1, 0, none⟩ = some (.slice none 0 0) := R6.out.cell 0
  have u1 : w6.cell? ⟨w.heap.size + 1, 1, none⟩ = some (.int .i64 0) := R6.out.cell 1
  have u2 : w6.cell? ⟨w.heap.size + 1, 2, none⟩ = some (.slice none 0 0) := R6.out.cell 2
  have u3 : w6.cell? ⟨w.heap.size + 1, 3, none⟩ = some (.slice none 0 0) := R6.out.cell 3
  have u4 : w6.cell? ⟨w.heap.size + 1, 4, none⟩ = some (.int .i64 0) := R6.out.cell 4
  have u5 : w6.cell? ⟨w.heap.size + 1, 5, none⟩ = some (.int .i64 0) := R6.out.cell 5
  have u6 : w6.cell? ⟨w.heap.size + 1, 6, none⟩ = some (.slice none 0 0) := R6.out.cell 6
  have u7 : w6.cell? ⟨w.heap.size + 1, 7, none⟩ = some (.int .i64 0) := R6.out.cell 7
  have u8 : w6.cell? ⟨w.heap.size + 1, 8, none⟩ = some (.slice none 0 0) := R6.out.cell 8
  have u9 : w6.cell? ⟨w.heap.size + 1, 9, none⟩ = some (.int .i64 0) := R6.out.cell 9
  have u10 : w6.cell? ⟨w.heap.size + 1, 10, none⟩ = some (.slice none 0 0) := R6.out.cell 10
  have u11 : w6.cell? ⟨w.heap.size + 1, 11, none⟩ = some (.slice none 0 0) := R6.out.cell 11
  have u12 : w6.cell? ⟨w.heap.size + 1, 12, none⟩ = some (.int .i64 0) := R6.out.cell 12
  have u13 : w6.cell? ⟨w.heap.size + 1, 13, none⟩ = some (.int .i64 0) := R6.out.cell 13
  have uf : ∀ j, w6.frozen? ⟨w.heap.size + 1, j, none⟩ = false := fun j => R6.out.froz j
  have HH := hide1 (Blk.set (Blk.set (Blk.set (Blk.set (Blk.set (Blk.set (Blk.set (Blk.set (Blk.set (Blk.set (Blk.set (Blk.set (Blk.set (Blk.set (R6.out) 0 (.slice A6.a N5.sl.length A6.ac)) 1 (.int .i64 N5.fr)) 2 (.slice A6.c N5.ce.length A6.cc)) 3 (.slice A6.o N5.od.length A6.oc)) 4 (.int .i64 N5.mv)) 5 (.int .i64 N5.wm)) 6 (.slice A6.w N5.w.length A6.wc)) 7 (.int .i64 N5.tm)) 8 (.slice A6.t N5.t.length A6.tc)) 9 (.int .i64 N5.sm)) 10 (.slice A6.s N5.s.length A6.sc)) 11 (.slice A6.k N5.sk.length A6.kc)) 12 (.int .i64 N5.ad)) 13 (.int .i64 N5.dr))
  have OX := hide1 (OwnN.put14 (s := w.heap.size + 1) O6.out (by omega) (.slice A6.a N5.sl.length A6.ac) (.int .i64 N5.fr) (.slice A6.c N5.ce.length A6.cc) (.slice A6.o N5.od.length A6.oc) (.int .i64 N5.mv) (.int .i64 N5.wm) (.slice A6.w N5.w.length A6.wc) (.int .i64 N5.tm) (.slice A6.t N5.t.length A6.tc) (.int .i64 N5.sm) (.slice A6.s N5.s.length A6.sc) (.slice A6.k N5.sk.length A6.kc) (.int .i64 N5.ad) (.int .i64 N5.dr))
  have BX := hide1 (below_put14 (s := w.heap.size + 1) B6.out (by omega) (.slice A6.a N5.sl.length A6.ac) (.int .i64 N5.fr) (.slice A6.c N5.ce.length A6.cc) (.slice A6.o N5.od.length A6.oc) (.int .i64 N5.mv) (.int .i64 N5.wm) (.slice A6.w N5.w.length A6.wc) (.int .i64 N5.tm) (.slice A6.t N5.t.length A6.tc) (.int .i64 N5.sm) (.slice A6.s N5.s.length A6.sc) (.slice A6.k N5.sk.length A6.kc) (.int .i64 N5.ad) (.int .i64 N5.dr))
  go_wp2
  refine bodyPost_ret (resQ3 Tryz.results15 _ _ (w.heap.size + 1) 39 #[.slice A6.a N5.sl.length A6.ac, .int .i64 N5.fr, .slice A6.c N5.ce.length A6.cc, .slice A6.o N5.od.length A6.oc, .int .i64 N5.mv, .int .i64 N5.wm, .slice A6.w N5.w.length A6.wc, .int .i64 N5.tm, .slice A6.t N5.t.length A6.tc, .int .i64 N5.sm, .slice A6.s N5.s.length A6.sc, .slice A6.k N5.sk.length A6.kc, .int .i64 N5.ad, .int .i64 N5.dr] (0, 0) _ rfl HH.out Tryz.underlying39 rfl (by kernel_rfl)) rfl ?_
  exact ⟨A6, rfl, OX.out.base (by omega), BX.out⟩

set_option maxRecDepth 100000 in
set_option maxHeartbeats 8000000 in
theorem wantYesI {w : World} {B : Nat} {A : NA} {N : Nr} (h : InN N) (hA : OwnN w B A N) (hB : B ≤ w.heap.size) (hD : TabD w) (k : ByteArray) (hk : keyQ k) (hn : k ∈ keysN N) :
    Calls Tryz.prog 15 #[neV A N, .string k] w fun e w' => ∃ A' v, e = .returned (.tuple #[neV A' (wantN N k), .string v, .bool true]) ∧ HasV N.sl k v ∧ OwnN w' w.heap.size A' (wantN N k) ∧ Below w.heap.size w w' := by
  have hmf : ∀ (fn : Fn) (first cap : Array Value) (w : World), (Instr.makeFunc fn first cap).run Tryz.prog w = .ok (.func fn first cap) w := fun _ _ _ _ => rfl
  have F0 := hide1 (blkN2 w #[.slice A.a N.sl.length A.ac, .int .i64 N.fr, .slice A.c N.ce.length A.cc, .slice A.o N.od.length A.oc, .int .i64 N.mv, .int .i64 N.wm, .slice A.w N.w.length A.wc, .int .i64 N.tm, .slice A.t N.t.length A.tc, .int .i64 N.sm, .slice A.s N.s.length A.sc, .slice A.k N.sk.length A.kc, .int .i64 N.ad, .int .i64 N.dr] #[.slice none 0 0, .int .i64 0, .slice none 0 0, .slice none 0 0, .int .i64 0, .int .i64 0, .slice none 0 0, .int .i64 0, .slice none 0 0, .int .i64 0, .slice none 0 0, .slice none 0 0, .int .i64 0, .int .i64 0] 39 39)
  have hks : k.size ≤ 1048576 := by have := hk.2; omega
  have HKQ := hide1 hk
  have C0 := hide1 (fun w' (hb : Below w.heap.size w w') => hallOfI h (hA.later hb) (Nat.le_trans hB hb.size))
  have C1 := hide1 (fun w' r (V : VaH w' r B A N) => valI V h k hks)
  have C2 := hide1 (fun w' r (V : VaH w' r B A N) (hD : TabD w') => countI V h.small k hks hD)
  have HW := hide1 (show wantN N k = tchN (cnN N k) k by unfold wantN; rw [if_pos ((hasQ_iff _ _).2 hn)])
  rw [HW.out]
  have hc := h.cn k
  have C3 := hide1 (fun w' r A' (V : VaH w' r B A' (cnN N k)) => touchI V hc hc.small k (by rw [cnN_keys]; exact hn))
  have hf := (hc.tch (k := k) (by rw [cnN_keys]; exact hn)).1
  have C4 := hide1 (fun w' r A' (V : VaH w' r B A' (tchN (cnN N k) k)) => nearI V hf.small ⟨by have := hf.qw.small; omega, by have := hf.qt.small; omega, by have := hf.qs.small; omega⟩)
  have HK := hide1 hn
  have HD := hide1 hD
  generalize tchN (cnN N k) k = N5 at *
  generalize cnN N k = N4 at *
  unfold neV at C0 C4 ⊢
  have hw0 := hD.pos
  obtain ⟨i0, hi, hz0, hz1, hz2⟩ := info_parts Tryz.infoFn
  clear h hA hks hf hn hD hk HW hc
  go_enter Tryz.func15, Tryz.ntmps15
  go_wp2_with fail
  generalize ((w.alloc (.cells #[.slice A.a N.sl.length A.ac, .int .i64 N.fr, .slice A.c N.ce.length A.cc, .slice A.o N.od.length A.oc, .int .i64 N.mv, .int .i64 N.wm, .slice A.w N.w.length A.wc, .int .i64 N.tm, .slice A.t N.t.length A.tc, .int .i64 N.sm, .slice A.s N.s.length A.sc, .slice A.k N.sk.length A.kc, .int .i64 N.ad, .int .i64 N.dr] 39)).alloc (.cells #[.slice none 0 0, .int .i64 0, .slice none 0 0, .slice none 0 0, .int .i64 0, .int .i64 0, .slice none 0 0, .int .i64 0, .slice none 0 0, .int .i64 0, .slice none 0 0, .slice none 0 0, .int .i64 0, .int .i64 0] 39)) = w0 at F0 ⊢
  obtain ⟨P0, R0, B0⟩ := F0.out
  have R0 := hide1 R0
  have B0 := hide1 B0
  have sz0 : w.heap.size + 2 ≤ w0.heap.size := by have := R0.out.lt; omega
  clear F0 P0
  refine (C0.out w0 B0.out).mono ?_
  rintro e w1 ⟨r, rfl, hV, hr, hb⟩
  have V1 := hide1 hV
  have R1 := hide1 (R0.out.below hb R0.out.lt)
  have B1 := hide1 (B0.out.trans (hb.mono B0.out.size))
  clear C0 hV hb R0 B0
  go_wp2_with fail
  refine (keyFitsQ_any k w1).mono ?_
  rintro e w1' ⟨x, rfl, hx, rfl⟩
  obtain rfl : x = true := hx.2 HKQ.out
  clear hx
  go_wp2_with fail
  refine (C1.out w1' r V1.out).mono ?_
  rintro e w2 ⟨⟨v, rfl, hv, _⟩ | ⟨_, hy⟩, hb⟩
  case inr => exact absurd HK.out hy
  have HV := hide1 hv
  have V2 := hide1 (V1.out.later hb)
  have R2 := hide1 (R1.out.below hb R1.out.lt)
  have B2 := hide1 (B1.out.trans (hb.mono B1.out.size))
  clear C1 hb V1 R1 B1 hv
  have OL := hide1 (show (w2.alloc (.cells #[.func (.func 35) #[.pointer (some ⟨r, 11, none⟩)] #[]] 76)).ownsRow w2.heap.size 76 1 (.slice (some ⟨w2.heap.size, 0, none⟩) 1 1) 1 [.func (.func 35) #[.pointer (some ⟨r, 11, none⟩)] #[]] ∧ Below w2.heap.size w2 (w2.alloc (.cells #[.func (.func 35) #[.pointer (some ⟨r, 11, none⟩)] #[]] 76)) from ⟨World.ownsRow_lit w2 #[.func (.func 35) #[.pointer (some ⟨r, 11, none⟩)] #[]] 1 (Nat.le_refl _) (by unfold maxLen; omega) rfl, (Below.refl _ _).alloc (Nat.le_refl _) _⟩)
  go_upto_region 7 with fail
  generalize (w2.alloc (.cells #[.func (.func 35) #[.pointer (some ⟨r, 11, none⟩)] #[]] 76)) = w2a at OL ⊢
  generalize hQQ : w2.heap.size = Q at OL ⊢
  have hQs : Q ≤ w2a.heap.size := hQQ ▸ OL.out.2.size
  have HQQ := hide1 hQQ
  clear hQQ
  go_wp2_with (at_builtin; (refine wpList_push1 rfl _ _ 101 rfl Q 76 i0 .nilFunc 8 Tryz.underlying101 hi hz0 hz1 hz2 rfl (by decide) _ 1 [.func (.func 35) #[.pointer (some ⟨r, 11, none⟩)] #[]] rfl OL.out.1 _ rfl rfl (by omega) hQs ?_; intro v' w3 hown' hb3; obtain ⟨g, c, rfl, hg1, hg2, hc0, hc1⟩ := two_at hown'))
  have hQQ := HQQ.out
  subst hQQ
  clear HQQ
  have b3 := OL.out.2.trans hb3
  have V3 := hide1 (V2.out.later b3)
  have R3 := hide1 (R2.out.below b3 R2.out.lt)
  have B3 := hide1 (B2.out.trans (b3.mono B2.out.size))
  have hrl := V2.out.var.lt
  have hRl := R2.out.lt
  have HC0 := hide1 hc0
  have HC1 := hide1 hc1
  clear hown' hb3 b3 OL V2 R2 B2 hc0 hc1
  generalize w2.heap.size = Q at *
  have D3 := hide1 (HD.out.below B3.out hw0)
  refine wp_loop_rounds 3 ?_
  have y0 := HC0.out
  rw [rounds_succ]
  go_wp2_with fail
  refine (C2.out w3 r V3.out D3.out).mono ?_
  rintro e w4 ⟨rfl, A4, V, G⟩
  have V4 := hide1 V
  have R4 := hide1 (gblk G R3.out (fun e => by injection e with e; omega))
  have B4 := hide1 (B3.out.trans (gbelow G (fun g' e => by injection e with e; omega) B3.out.size))
  have y1 : w4.cell? ⟨g, 1, none⟩ = some (.func (.func 59) #[.pointer (some ⟨r, 5, none⟩)] #[]) := (gcell G HC1.out hg2 (by omega))
  clear V G V3 R3 B3 y0 C2 HC0 HC1
  go_wp2_with fail
  rw [rounds_succ]
  go_wp2_with fail
  refine (C3.out w4 r A4 V4.out).mono ?_
  rintro e w5 ⟨rfl, A5, V, G⟩
  have V5 := hide1 V
  have R5 := hide1 (gblk G R4.out (fun e => by injection e with e; omega))
  have B5 := hide1 (B4.out.trans (gbelow G (fun g' e => by injection e with e; omega) B4.out.size))
  clear V G V4 R4 B4 y1 C3
  go_wp2_with fail
  rw [rounds_succ]
  go_wp2_with fail
  refine (C4.out w5 r A5 V5.out).mono ?_
  rintro e w6 ⟨A6, rfl, ho, hb⟩
  have R6 := hide1 (R5.out.below hb R5.out.lt)
  have B6 := hide1 (B5.out.trans (hb.mono B5.out.size))
  have O6 := hide1 ho
  have hs5 : w.heap.size + 1 < w5.heap.size := R5.out.lt
  clear ho hb V5 R5 B5 C4
  have u0 : w6.cell? ⟨w.heap.size + 1, 0, none⟩ = some (.slice none 0 0) := R6.out.cell 0
  have u1 : w6.cell? ⟨w.heap.size + 1, 1, none⟩ = some (.int .i64 0) := R6.out.cell 1
  have u2 : w6.cell? ⟨w.heap.size + 1, 2, none⟩ = some (.slice none 0 0) := R6.out.cell 2
  have u3 : w6.cell? ⟨w.heap.size + 1, 3, none⟩ = some (.slice none 0 0) := R6.out.cell 3
  have u4 : w6.cell? ⟨w.heap.size + 1, 4, none⟩ = some (.int .i64 0) := R6.out.cell 4
  have u5 : w6.cell? ⟨w.heap.size + 1, 5, none⟩ = some (.int .i64 0) := R6.out.cell 5
  have u6 : w6.cell? ⟨w.heap.size + 1, 6, none⟩ = some (.slice none 0 0) := R6.out.cell 6
  have u7 : w6.cell? ⟨w.heap.size + 1, 7, none⟩ = some (.int .i64 0) := R6.out.cell 7
  have u8 : w6.cell? ⟨w.heap.size + 1, 8, none⟩ = some (.slice none 0 0) := R6.out.cell 8
  have u9 : w6.cell? ⟨w.heap.size + 1, 9, none⟩ = some (.int .i64 0) := R6.out.cell 9
  have u10 : w6.cell? ⟨w.heap.size + 1, 10, none⟩ = some (.slice none 0 0) := R6.out.cell 10
  have u11 : w6.cell? ⟨w.heap.size + 1, 11, none⟩ = some (.slice none 0 0) := R6.out.cell 11
  have u12 : w6.cell? ⟨w.heap.size + 1, 12, none⟩ = some (.int .i64 0) := R6.out.cell 12
  have u13 : w6.cell? ⟨w.heap.size + 1, 13, none⟩ = some (.int .i64 0) := R6.out.cell 13
  have uf : ∀ j, w6.frozen? ⟨w.heap.size + 1, j, none⟩ = false := fun j => R6.out.froz j
  have HH := hide1 (Blk.set (Blk.set (Blk.set (Blk.set (Blk.set (Blk.set (Blk.set (Blk.set (Blk.set (Blk.set (Blk.set (Blk.set (Blk.set (Blk.set (R6.out) 0 (.slice A6.a N5.sl.length A6.ac)) 1 (.int .i64 N5.fr)) 2 (.slice A6.c N5.ce.length A6.cc)) 3 (.slice A6.o N5.od.length A6.oc)) 4 (.int .i64 N5.mv)) 5 (.int .i64 N5.wm)) 6 (.slice A6.w N5.w.length A6.wc)) 7 (.int .i64 N5.tm)) 8 (.slice A6.t N5.t.length A6.tc)) 9 (.int .i64 N5.sm)) 10 (.slice A6.s N5.s.length A6.sc)) 11 (.slice A6.k N5.sk.length A6.kc)) 12 (.int .i64 N5.ad)) 13 (.int .i64 N5.dr))
  have OX := hide1 (OwnN.put14 (s := w.heap.size + 1) O6.out (by omega) (.slice A6.a N5.sl.length A6.ac) (.int .i64 N5.fr) (.slice A6.c N5.ce.length A6.cc) (.slice A6.o N5.od.length A6.oc) (.int .i64 N5.mv) (.int .i64 N5.wm) (.slice A6.w N5.w.length A6.wc) (.int .i64 N5.tm) (.slice A6.t N5.t.length A6.tc) (.int .i64 N5.sm) (.slice A6.s N5.s.length A6.sc) (.slice A6.k N5.sk.length A6.kc) (.int .i64 N5.ad) (.int .i64 N5.dr))
  have BX := hide1 (below_put14 (s := w.heap.size + 1) B6.out (by omega) (.slice A6.a N5.sl.length A6.ac) (.int .i64 N5.fr) (.slice A6.c N5.ce.length A6.cc) (.slice A6.o N5.od.length A6.oc) (.int .i64 N5.mv) (.int .i64 N5.wm) (.slice A6.w N5.w.length A6.wc) (.int .i64 N5.tm) (.slice A6.t N5.t.length A6.tc) (.int .i64 N5.sm) (.slice A6.s N5.s.length A6.sc) (.slice A6.k N5.sk.length A6.kc) (.int .i64 N5.ad) (.int .i64 N5.dr))
  go_wp2
  refine bodyPost_ret (resQ3 Tryz.results15 _ _ (w.heap.size + 1) 39 #[.slice A6.a N5.sl.length A6.ac, .int .i64 N5.fr, .slice A6.c N5.ce.length A6.cc, .slice A6.o N5.od.length A6.oc, .int .i64 N5.mv, .int .i64 N5.wm, .slice A6.w N5.w.length A6.wc, .int .i64 N5.tm, .slice A6.t N5.t.length A6.tc, .int .i64 N5.sm, .slice A6.s N5.s.length A6.sc, .slice A6.k N5.sk.length A6.kc, .int .i64 N5.ad, .int .i64 N5.dr] (0, 0) _ rfl HH.out Tryz.underlying39 rfl (by kernel_rfl)) rfl ?_
  exact ⟨A6, v, rfl, HV.out, OX.out.base (by omega), BX.out⟩
end Go.Proofs.YtjgiobdpbbhekaaGreatDoor
namespace Go.Proofs.YtjgiobdpbbhekaaGreatDoor
open Go.RowKit
set_option linter.unusedVariables false

theorem wantI {w : World} {B : Nat} {A : NA} {N : Nr} (h : InN N) (hA : OwnN w B A N) (hB : B ≤ w.heap.size) (hD : TabD w) (k : ByteArray) (hk : keyQ k) :
    Calls Tryz.prog 15 #[neV A N, .string k] w fun e w' => ∃ A' v t, e = .returned (.tuple #[neV A' (wantN N k), .string v, .bool t]) ∧ ValA N k v t ∧ OwnN w' w.heap.size A' (wantN N k) ∧ Below w.heap.size w w' := by
  by_cases hn : k ∈ keysN N
  · refine (wantYesI h hA hB hD k hk hn).mono ?_
    rintro e w' ⟨A', v, rfl, hv, ho, hb⟩
    exact ⟨A', v, true, rfl, .inl ⟨rfl, hv⟩, ho, hb⟩
  · refine (wantNoI h hA hB hD k hk hn).mono ?_
    rintro e w' ⟨A', rfl, ho, hb⟩
    exact ⟨A', _, false, rfl, .inr ⟨rfl, rfl, fun y hy => hn (h.hasV.1 ⟨y, hy⟩)⟩, ho, hb⟩
end Go.Proofs.YtjgiobdpbbhekaaGreatDoor
