import Derived.Test.YtigpjmmfelndkaaGreatDoorLXQI
namespace Go.Proofs.YtigpjmmfelndkaaGreatDoor
open Go.RowKit
set_option maxRecDepth 100000
set_option maxHeartbeats 2000000
theorem qeO {P : Program} {fn : Func} {p u v : Tmp} {ty : TypeId} (h : fn.results = #[.cell p ty, .tmp u, .tmp v]) (tmps : Array Value) (w : World) (g : Nat) (t : TypeId) (cs : Array Value) (fr : Nat × Nat) (d : TypeDesc)
  (hp : tmps.getD p undef = .pointer (some ⟨g, 0, none⟩)) (hg : w.heap[g]? = some (.cells cs t fr))
  (hu : P.underlying ty = some d) (hd : (match d with | .struct _ | .array _ _ => true | _ => false) = true) (hi : (P.info? ty).map (·.size) = some cs.size) :
  (results fn tmps).run P w = .ok (.tuple #[.agg cs, tmps.getD u undef, tmps.getD v undef]) w := by
 have hp' : tmps[p]?.getD undef = .pointer (some ⟨g, 0, none⟩) := by simpa using hp
 simp [results, h, hp', asAddr, run_loadVar_row w g t ty cs fr d hg hu hd hi]
theorem qhV {P : Program} {fn : Func} {p u : Tmp} {ty : TypeId} (h : fn.results = #[.cell p ty, .tmp u]) (tmps : Array Value) (w : World) (g : Nat) (t : TypeId) (cs : Array Value) (fr : Nat × Nat) (d : TypeDesc)
  (hp : tmps.getD p undef = .pointer (some ⟨g, 0, none⟩)) (hg : w.heap[g]? = some (.cells cs t fr))
  (hu : P.underlying ty = some d) (hd : (match d with | .struct _ | .array _ _ => true | _ => false) = true) (hi : (P.info? ty).map (·.size) = some cs.size) :
  (results fn tmps).run P w = .ok (.tuple #[.agg cs, tmps.getD u undef]) w := by
 have hp' : tmps[p]?.getD undef = .pointer (some ⟨g, 0, none⟩) := by simpa using hp
 simp [results, h, hp', asAddr, run_loadVar_row w g t ty cs fr d hg hu hd hi]
theorem MadeQ.no {w w1 : World} {r : Nat} (hB : Below w.heap.size w w1) (hr : w.heap.size <= r) (x y : Value) :
  MadeQ w ((w1.setCell ⟨r, 0, none⟩ x).setCell ⟨r, 1, none⟩ y) (.agg #[.int .i64 0, .slice none 0 0]) ([], 0) :=
 ⟨none, 0, rfl, World.ownsRow_nil _ _ _ _, (hB.setCell (p := ⟨r, 0, none⟩) hr _).setCell (p := ⟨r, 1, none⟩) hr _⟩
theorem MadeQ.yes {w w4 w5 : World} {r c : Nat} {b : Option Addr} {L : List ByteArray} {M : Int} (hB : Below w.heap.size w w4) (hr : w.heap.size <= r) (hr4 : r < w4.heap.size) (o1 : OwnQ w5 w4.heap.size b c L) (hb : Below w4.heap.size w4 w5) (x y : Value) :
  MadeQ w ((w5.setCell ⟨r, 0, none⟩ x).setCell ⟨r, 1, none⟩ y) (.agg #[.int .i64 M, .slice b L.length c]) (L, M) := by
 refine ⟨b, c, rfl, qaB (qaA (qaA o1 _ _ ?_) _ _ ?_) hB.size, ((hB.trans (hb.mono hB.size)).setCell (p := ⟨r, 0, none⟩) hr _).setCell (p := ⟨r, 1, none⟩) hr _⟩
 all_goals
  intro k hk
  have := (o1.lt k hk).1
  dsimp only
  omega
theorem qwJ (ao : Option Addr) (l : List ByteArray) (ca k : Nat) (w : World) (hk : k <= 65536) (hc : l.length <= ca) (hA : RdQ w ao l) :
  Calls Tryz.prog 133 #[.slice ao l.length ca, .int .i64 (k : Int)] w fun e w' => ∃ n c, e = .returned (.tuple #[.slice ao n c, .string (l.getD k ⟨#[]⟩)]) /\ (l.take k).length = n /\ Below w.heap.size w w' := by
 by_cases c1 : l.length <= k
 ·have q : decide ((l.length : Int) <= (k : Int)) = true := decide_eq_true (by omega)
  have HG := hI (show l.getD k ⟨#[]⟩ = ⟨#[]⟩ by rw [List.getD_eq_getElem?_getD, List.getElem?_eq_none c1]; rfl)
  have HT := hI (show (l.take k).length = l.length by rw [List.take_of_length_le c1])
  clear hA
  go_enter Tryz.func133, Tryz.ntmps133
  go_wp2
  go_ret2
  exact ⟨l.length, ca, by rw [HG.out]; rfl, HT.out, Below.refl _ _⟩
 ·have q : decide ((l.length : Int) <= (k : Int)) = false := decide_eq_false (by omega)
  have hlt : k < l.length := by omega
  have HT := hI (show (l.take k).length = k by rw [List.length_take]; omega)
  obtain ⟨b, o, rfl, hb, h1⟩ := hA k hlt
  have HG := hI (show l.getD k ⟨#[]⟩ = l[k] by rw [List.getD_eq_getElem?_getD, List.getElem?_eq_getElem hlt]; rfl)
  generalize l[k] = s at *
  have k1 : (k : Int) < (l.length : Int) := by omega
  have k2 : (k : Int) <= (ca : Int) := by omega
  have k3 : (0 : Int) <= (k : Int) := by omega
  have BD := hI (fun n => below_drewN (Below.refl w.heap.size w) n)
  clear c1
  go_enter Tryz.func133, Tryz.ntmps133
  go_wp2_with fail
  go_quiet (fail)
  go_wp2
  go_ret2
  exact ⟨k, _, by rw [HG.out]; rfl, HT.out, BD.out _⟩
theorem qoI (ao : Option Addr) (l : List ByteArray) (ca : Nat) (m : Int) (k : ByteArray) (w : World) (hl : l.length <= 1048576) (hc : l.length <= ca) (hcm : ca <= maxLen) (hA : RdQ w ao l) :
  Calls Tryz.prog 129 #[.agg #[.int .i64 m, .slice ao l.length ca], .string k] w fun e w' => ∃ v, e = .returned (.tuple #[v, .bool (touR l m k).2]) /\ MadeQ w w' v (touR l m k).1 := by
 have CO := hI (fun w' (hb : Below w.heap.size w w') => qdF ao l ca m w' hl hc hcm (hA.later hb))
 have CH := hI (fun w' (hb : Below w.heap.size w w') => qbK ao l ca m k w' hl (hA.later hb))
 have CR := hI (fun w' => qbA ao l.length ca m w')
 have F0 := hI (qdI w #[.int .i64 m, .slice ao l.length ca] #[.int .i64 0, .slice none 0 0] 32 32)
 have HA := hI hA
 clear hA hc hcm
 go_enter Tryz.func129, Tryz.ntmps129
 go_wp2_with fail
 generalize ((w.alloc (.cells #[.int .i64 m, .slice ao l.length ca] 32)).alloc (.cells #[.int .i64 0, .slice none 0 0] 32)) = w0 at F0 ⊢
 obtain ⟨K0, R0, B0⟩ := F0.out
 have K0 := hI K0
 have R0 := hI R0
 have B0 := hI B0
 clear F0
 refine (CO.out w0 B0.out).mono ?_
 rintro e w1 ⟨x, rfl, hx, hb1⟩
 have K1 := bRn K0 hb1
 have R1 := bRn R0 hb1
 have B1 := tRn B0 hb1
 clear hb1 CO K0 R0 B0
 rcases x with _ | _
 ·have HN := hI (qfC (k := k) (fun h => by have := hx.2 h.1; cases this))
  have y0 : w1.cell? ⟨w.heap.size + 1, 0, none⟩ = _ := cRn (R1.out.cell 0) rfl
  have y1 : w1.cell? ⟨w.heap.size + 1, 1, none⟩ = _ := cRn (R1.out.cell 1) rfl
  have yf (j) : w1.frozen? ⟨w.heap.size + 1, j, none⟩ = false := R1.out.froz j
  have HH := hI (Blk.set (Blk.set R1.out 0 (.int .i64 0)) 1 (.slice none 0 0))
  clear hx
  go_wp2
  refine bodyPost_ret (qhV Tryz.results129 _ _ (w.heap.size + 1) 32 #[.int .i64 0, .slice none 0 0] (0, 0) _ rfl HH.out Tryz.underlying32 rfl (by kernel_rfl)) rfl ?_
  rw [HN.out]
  exact ⟨_, rfl, MadeQ.no B1.out (by omega) _ _⟩
 have HOK := hI (hx.1 rfl)
 clear hx
 have x0 : w1.cell? ⟨w.heap.size, 0, none⟩ = _ := cRn (K1.out.cell 0) rfl
 have x1 : w1.cell? ⟨w.heap.size, 1, none⟩ = _ := cRn (K1.out.cell 1) rfl
 go_wp2_with fail
 refine (CH.out w1 B1.out).mono ?_
 rintro e w2 ⟨rfl, hb2⟩
 have K2 := bRn K1 hb2
 have R2 := bRn R1 hb2
 have B2 := tRn B1 hb2
 clear hb2 CH K1 R1 B1 x0 x1
 rcases hq : qeG l k with _ | _
 ·have HN := hI (qfC (l := l) (m := m) (k := k) (fun h => by rw [(qaF l k).2 h.2] at hq; cases hq))
  have y0 : w2.cell? ⟨w.heap.size + 1, 0, none⟩ = _ := cRn (R2.out.cell 0) rfl
  have y1 : w2.cell? ⟨w.heap.size + 1, 1, none⟩ = _ := cRn (R2.out.cell 1) rfl
  have yf (j) : w2.frozen? ⟨w.heap.size + 1, j, none⟩ = false := R2.out.froz j
  have HH := hI (Blk.set (Blk.set R2.out 0 (.int .i64 0)) 1 (.slice none 0 0))
  clear hq
  go_wp2
  refine bodyPost_ret (qhV Tryz.results129 _ _ (w.heap.size + 1) 32 #[.int .i64 0, .slice none 0 0] (0, 0) _ rfl HH.out Tryz.underlying32 rfl (by kernel_rfl)) rfl ?_
  rw [HN.out]
  exact ⟨_, rfl, MadeQ.no B2.out (by omega) _ _⟩
 have HY := hI (qeH HOK.out ((qaF l k).1 hq))
 have hsm := HOK.out.small
 have hwl := qbT l k
 have hlen : (k :: qaX l k).length <= 25 := by rw [List.length_cons]; omega
 clear hq
 have x0 : w2.cell? ⟨w.heap.size, 0, none⟩ = _ := cRn (K2.out.cell 0) rfl
 have x1 : w2.cell? ⟨w.heap.size, 1, none⟩ = _ := cRn (K2.out.cell 1) rfl
 have X := hI (And.intro x0 x1)
 have hs0 : w.heap.size < w2.heap.size := K2.out.lt
 have hs1 : w.heap.size + 1 < w2.heap.size := R2.out.lt
 have CA := hI (fun w' (hb : Below w2.heap.size w2 w') => qnJ ao l ca k w' (by omega) (HA.out.later (B2.out.trans (hb.mono B2.out.size))))
 go_wp2_with fail
 go_region_held3 (fun w' => w'.cell? ⟨w.heap.size, 0, none⟩ = some (.int .i64 m) /\ w'.cell? ⟨w.heap.size, 1, none⟩ = some (.slice ao l.length ca)) (first | go_keep | exact ⟨(D5.out.cell hs0).trans X.out.1, (D5.out.cell hs0).trans X.out.2⟩ | exact ⟨(D4.out.cell hs0).trans X.out.1, (D4.out.cell hs0).trans X.out.2⟩ | exact ⟨(D3.out.cell hs0).trans X.out.1, (D3.out.cell hs0).trans X.out.2⟩) ((first | (go_at_call 125; refine (CQ.out _ (by go_grown)).mono ?_; rintro e w5 ⟨b5, c5, rfl, ho5, hb5⟩; have D5 : Hid (Below w2.heap.size w2 w5) := (D4.out.trans (show Below w2.heap.size w4 _ by go_grown)).trans (hb5.mono (by have := D4.out.size; go_size)); have O5 : Hid (OwnQ w5 w2.heap.size b5 c5 (k :: qaX l k)) := hI (ho5.base (by have := D4.out.size; go_size)); clear ho5 hb5; have r5 := R2.out.below D5.out hs1; have y0 : w5.cell? ⟨w.heap.size + 1, 0, none⟩ = some (.int .i64 0) := r5.cell 0; have y1 : w5.cell? ⟨w.heap.size + 1, 1, none⟩ = some (.slice none 0 0) := r5.cell 1; have yf : ∀ j, w5.frozen? ⟨w.heap.size + 1, j, none⟩ = false := fun j => r5.froz j; have R5 := hI r5; clear r5) | (go_at_call 132; refine (CA.out _ (D3.out.trans (show Below w2.heap.size w3 _ by go_grown))).mono ?_; rintro e w4 ⟨b4, c4, rfl, ho4, hb4⟩; have D4 : Hid (Below w2.heap.size w2 w4) := (D3.out.trans (show Below w2.heap.size w3 _ by go_grown)).trans (hb4.mono (by have := D3.out.size; go_size)); have CQ := hI (fun w' (hb : Below w4.heap.size w4 w') => qdA b4 (k :: qaX l k) (k :: qaX l k).length c4 m w' rfl (by omega) (ho4.rd.later hb)); clear ho4 hb4) | (go_at_call 126; refine (CR.out _).mono ?_; rintro e w3 ⟨rfl, hb3⟩; have D3 : Hid (Below w2.heap.size w2 w3) := (show Below w2.heap.size w2 _ by go_grown).trans (hb3.mono (by go_size)); clear hb3)))
 all_goals go_wp2
 all_goals
  have HH := hI (Blk.set (Blk.set R5.out 0 (.int .i64 m)) 1 (.slice b5 (k :: qaX l k).length c5))
  refine bodyPost_ret (qhV Tryz.results129 _ _ (w.heap.size + 1) 32 #[.int .i64 m, .slice b5 (k :: qaX l k).length c5] (0, 0) _ rfl HH.out Tryz.underlying32 rfl (by kernel_rfl)) rfl ?_
  rw [HY.out]
  exact ⟨_, rfl, MadeQ.yes (r := w.heap.size + 1) B2.out (by omega) hs1 O5.out D5.out _ _⟩
theorem qrS (ao : Option Addr) (l : List ByteArray) (ca : Nat) (m : Int) (k : ByteArray) (w : World) (hl : l.length <= 1048576) (hc : l.length <= ca) (hcm : ca <= maxLen) (hA : RdQ w ao l) :
  Calls Tryz.prog 165 #[.agg #[.int .i64 m, .slice ao l.length ca], .string k] w fun e w' => ∃ v, e = .returned (.tuple #[v, .bool (drpR l m k).2]) /\ MadeQ w w' v (drpR l m k).1 := by
 have CO := hI (fun w' (hb : Below w.heap.size w w') => qdF ao l ca m w' hl hc hcm (hA.later hb))
 have CH := hI (fun w' (hb : Below w.heap.size w w') => qbK ao l ca m k w' hl (hA.later hb))
 have CR := hI (fun w' => qbA ao l.length ca m w')
 have F0 := hI (qdI w #[.int .i64 m, .slice ao l.length ca] #[.int .i64 0, .slice none 0 0] 32 32)
 have HA := hI hA
 clear hA hc hcm
 go_enter Tryz.func165, Tryz.ntmps165
 go_wp2_with fail
 generalize ((w.alloc (.cells #[.int .i64 m, .slice ao l.length ca] 32)).alloc (.cells #[.int .i64 0, .slice none 0 0] 32)) = w0 at F0 ⊢
 obtain ⟨K0, R0, B0⟩ := F0.out
 have K0 := hI K0
 have R0 := hI R0
 have B0 := hI B0
 clear F0
 refine (CO.out w0 B0.out).mono ?_
 rintro e w1 ⟨x, rfl, hx, hb1⟩
 have K1 := bRn K0 hb1
 have R1 := bRn R0 hb1
 have B1 := tRn B0 hb1
 clear hb1 CO K0 R0 B0
 rcases x with _ | _
 ·have HN := hI (qoU (k := k) (fun h => by have := hx.2 h.1; cases this))
  have y0 : w1.cell? ⟨w.heap.size + 1, 0, none⟩ = _ := cRn (R1.out.cell 0) rfl
  have y1 : w1.cell? ⟨w.heap.size + 1, 1, none⟩ = _ := cRn (R1.out.cell 1) rfl
  have yf (j) : w1.frozen? ⟨w.heap.size + 1, j, none⟩ = false := R1.out.froz j
  have HH := hI (Blk.set (Blk.set R1.out 0 (.int .i64 0)) 1 (.slice none 0 0))
  clear hx
  go_wp2
  refine bodyPost_ret (qhV Tryz.results165 _ _ (w.heap.size + 1) 32 #[.int .i64 0, .slice none 0 0] (0, 0) _ rfl HH.out Tryz.underlying32 rfl (by kernel_rfl)) rfl ?_
  rw [HN.out]
  exact ⟨_, rfl, MadeQ.no B1.out (by omega) _ _⟩
 have HOK := hI (hx.1 rfl)
 clear hx
 have x0 : w1.cell? ⟨w.heap.size, 0, none⟩ = _ := cRn (K1.out.cell 0) rfl
 have x1 : w1.cell? ⟨w.heap.size, 1, none⟩ = _ := cRn (K1.out.cell 1) rfl
 go_wp2_with fail
 refine (CH.out w1 B1.out).mono ?_
 rintro e w2 ⟨rfl, hb2⟩
 have K2 := bRn K1 hb2
 have R2 := bRn R1 hb2
 have B2 := tRn B1 hb2
 clear hb2 CH K1 R1 B1 x0 x1
 rcases hq : qeG l k with _ | _
 ·have HN := hI (qoU (l := l) (m := m) (k := k) (fun h => by rw [(qaF l k).2 h.2] at hq; cases hq))
  have y0 : w2.cell? ⟨w.heap.size + 1, 0, none⟩ = _ := cRn (R2.out.cell 0) rfl
  have y1 : w2.cell? ⟨w.heap.size + 1, 1, none⟩ = _ := cRn (R2.out.cell 1) rfl
  have yf (j) : w2.frozen? ⟨w.heap.size + 1, j, none⟩ = false := R2.out.froz j
  have HH := hI (Blk.set (Blk.set R2.out 0 (.int .i64 0)) 1 (.slice none 0 0))
  clear hq
  go_wp2
  refine bodyPost_ret (qhV Tryz.results165 _ _ (w.heap.size + 1) 32 #[.int .i64 0, .slice none 0 0] (0, 0) _ rfl HH.out Tryz.underlying32 rfl (by kernel_rfl)) rfl ?_
  rw [HN.out]
  exact ⟨_, rfl, MadeQ.no B2.out (by omega) _ _⟩
 have HY := hI (qiE HOK.out ((qaF l k).1 hq))
 have hsm := HOK.out.small
 have hwl := qbT l k
 have hlen : (qaX l k).length <= 25 := by omega
 clear hq
 have x0 : w2.cell? ⟨w.heap.size, 0, none⟩ = _ := cRn (K2.out.cell 0) rfl
 have x1 : w2.cell? ⟨w.heap.size, 1, none⟩ = _ := cRn (K2.out.cell 1) rfl
 have X := hI (And.intro x0 x1)
 have hs0 : w.heap.size < w2.heap.size := K2.out.lt
 have hs1 : w.heap.size + 1 < w2.heap.size := R2.out.lt
 have CA := hI (fun w' (hb : Below w2.heap.size w2 w') => qjH ao l ca k w' (by omega) (HA.out.later (B2.out.trans (hb.mono B2.out.size))))
 go_wp2_with fail
 go_region_held3 (fun w' => w'.cell? ⟨w.heap.size, 0, none⟩ = some (.int .i64 m) /\ w'.cell? ⟨w.heap.size, 1, none⟩ = some (.slice ao l.length ca)) (first | go_keep | exact ⟨(D5.out.cell hs0).trans X.out.1, (D5.out.cell hs0).trans X.out.2⟩ | exact ⟨(D4.out.cell hs0).trans X.out.1, (D4.out.cell hs0).trans X.out.2⟩ | exact ⟨(D3.out.cell hs0).trans X.out.1, (D3.out.cell hs0).trans X.out.2⟩) ((first | (go_at_call 125; refine (CQ.out _ (by go_grown)).mono ?_; rintro e w5 ⟨b5, c5, rfl, ho5, hb5⟩; have D5 : Hid (Below w2.heap.size w2 w5) := (D4.out.trans (show Below w2.heap.size w4 _ by go_grown)).trans (hb5.mono (by have := D4.out.size; go_size)); have O5 : Hid (OwnQ w5 w2.heap.size b5 c5 (qaX l k)) := hI (ho5.base (by have := D4.out.size; go_size)); clear ho5 hb5; have r5 := R2.out.below D5.out hs1; have y0 : w5.cell? ⟨w.heap.size + 1, 0, none⟩ = some (.int .i64 0) := r5.cell 0; have y1 : w5.cell? ⟨w.heap.size + 1, 1, none⟩ = some (.slice none 0 0) := r5.cell 1; have yf : ∀ j, w5.frozen? ⟨w.heap.size + 1, j, none⟩ = false := fun j => r5.froz j; have R5 := hI r5; clear r5) | (go_at_call 166; refine (CA.out _ (D3.out.trans (show Below w2.heap.size w3 _ by go_grown))).mono ?_; rintro e w4 ⟨b4, c4, rfl, ho4, hb4⟩; have D4 : Hid (Below w2.heap.size w2 w4) := (D3.out.trans (show Below w2.heap.size w3 _ by go_grown)).trans (hb4.mono (by have := D3.out.size; go_size)); have CQ := hI (fun w' (hb : Below w4.heap.size w4 w') => qdA b4 (qaX l k) (qaX l k).length c4 m w' rfl (by omega) (ho4.rd.later hb)); clear ho4 hb4) | (go_at_call 126; refine (CR.out _).mono ?_; rintro e w3 ⟨rfl, hb3⟩; have D3 : Hid (Below w2.heap.size w2 w3) := (show Below w2.heap.size w2 _ by go_grown).trans (hb3.mono (by go_size)); clear hb3)))
 all_goals go_wp2
 all_goals
  have HH := hI (Blk.set (Blk.set R5.out 0 (.int .i64 m)) 1 (.slice b5 (qaX l k).length c5))
  refine bodyPost_ret (qhV Tryz.results165 _ _ (w.heap.size + 1) 32 #[.int .i64 m, .slice b5 (qaX l k).length c5] (0, 0) _ rfl HH.out Tryz.underlying32 rfl (by kernel_rfl)) rfl ?_
  rw [HY.out]
  exact ⟨_, rfl, MadeQ.yes (r := w.heap.size + 1) B2.out (by omega) hs1 O5.out D5.out _ _⟩
theorem qzD {l : List ByteArray} {m : Int} {k : ByteArray} (h : PshQ l m k) : k :: qaX l k = k :: l := by rw [qkR h.2.2.1]
theorem qrH (ao : Option Addr) (l : List ByteArray) (ca : Nat) (m : Int) (k : ByteArray) (w : World) (hl : l.length <= 1048576) (hc : l.length <= ca) (hcm : ca <= maxLen) (hA : RdQ w ao l) :
  Calls Tryz.prog 74 #[.agg #[.int .i64 m, .slice ao l.length ca], .string k] w fun e w' => ∃ v, e = .returned (.tuple #[v, .string (pshR l m k).2.1, .bool (pshR l m k).2.2]) /\ MadeQ w w' v (pshR l m k).1 := by
 have CO := hI (fun w' (hb : Below w.heap.size w w') => qdF ao l ca m w' hl hc hcm (hA.later hb))
 have CF := hI (fun w' => qeM k w')
 have CH := hI (fun w' (hb : Below w.heap.size w w') => qbK ao l ca m k w' hl (hA.later hb))
 have CR := hI (fun w' => qbA ao l.length ca m w')
 have F0 := hI (qdI w #[.int .i64 m, .slice ao l.length ca] #[.int .i64 0, .slice none 0 0] 32 32)
 have HA := hI hA
 clear hA hc hcm
 go_enter Tryz.func74, Tryz.ntmps74
 go_wp2_with fail
 generalize ((w.alloc (.cells #[.int .i64 m, .slice ao l.length ca] 32)).alloc (.cells #[.int .i64 0, .slice none 0 0] 32)) = w0 at F0 ⊢
 obtain ⟨K0, R0, B0⟩ := F0.out
 have K0 := hI K0
 have R0 := hI R0
 have B0 := hI B0
 clear F0
 refine (CO.out w0 B0.out).mono ?_
 rintro e w1 ⟨x, rfl, hx, hb1⟩
 have K1 := bRn K0 hb1
 have R1 := bRn R0 hb1
 have B1 := tRn B0 hb1
 clear hb1 CO K0 R0 B0
 rcases x with _ | _
 ·have HN := hI (qfS (l := l) (m := m) (k := k) (fun h => by have := hx.2 h.1; cases this))
  have y0 : w1.cell? ⟨w.heap.size + 1, 0, none⟩ = _ := cRn (R1.out.cell 0) rfl
  have y1 : w1.cell? ⟨w.heap.size + 1, 1, none⟩ = _ := cRn (R1.out.cell 1) rfl
  have yf (j) : w1.frozen? ⟨w.heap.size + 1, j, none⟩ = false := R1.out.froz j
  have HH := hI (Blk.set (Blk.set R1.out 0 (.int .i64 0)) 1 (.slice none 0 0))
  clear hx CF CH CR
  go_wp2
  refine bodyPost_ret (qeO Tryz.results74 _ _ (w.heap.size + 1) 32 #[.int .i64 0, .slice none 0 0] (0, 0) _ rfl HH.out Tryz.underlying32 rfl (by kernel_rfl)) rfl ?_
  rw [HN.out]
  exact ⟨_, rfl, MadeQ.no B1.out (by omega) _ _⟩
 have HOK := hI (hx.1 rfl)
 clear hx
 go_wp2_with fail
 refine (CF.out w1).mono ?_
 rintro e w1' ⟨x, rfl, hx, hw⟩
 have hw2 := hw.symm
 clear hw
 subst hw2
 rcases x with _ | _
 ·have HN := hI (qfS (l := l) (m := m) (k := k) (fun h => by have := hx.2 h.2.1; cases this))
  have y0 : w1.cell? ⟨w.heap.size + 1, 0, none⟩ = _ := cRn (R1.out.cell 0) rfl
  have y1 : w1.cell? ⟨w.heap.size + 1, 1, none⟩ = _ := cRn (R1.out.cell 1) rfl
  have yf (j) : w1.frozen? ⟨w.heap.size + 1, j, none⟩ = false := R1.out.froz j
  have HH := hI (Blk.set (Blk.set R1.out 0 (.int .i64 0)) 1 (.slice none 0 0))
  clear hx CF CH CR
  go_wp2
  refine bodyPost_ret (qeO Tryz.results74 _ _ (w.heap.size + 1) 32 #[.int .i64 0, .slice none 0 0] (0, 0) _ rfl HH.out Tryz.underlying32 rfl (by kernel_rfl)) rfl ?_
  rw [HN.out]
  exact ⟨_, rfl, MadeQ.no B1.out (by omega) _ _⟩
 have HKQ := hI (hx.1 rfl)
 clear hx CF
 have x0 : w1.cell? ⟨w.heap.size, 0, none⟩ = _ := cRn (K1.out.cell 0) rfl
 have x1 : w1.cell? ⟨w.heap.size, 1, none⟩ = _ := cRn (K1.out.cell 1) rfl
 go_wp2_with fail
 refine (CH.out w1 B1.out).mono ?_
 rintro e w2 ⟨rfl, hb2⟩
 have K2 := bRn K1 hb2
 have R2 := bRn R1 hb2
 have B2 := tRn B1 hb2
 clear hb2 CH K1 R1 B1 x0 x1
 rcases hq : qeG l k with _ | _
 rotate_left
 ·have HN := hI (qfS (l := l) (m := m) (k := k) (fun h => h.2.2.1 ((qaF l k).1 hq)))
  have y0 : w2.cell? ⟨w.heap.size + 1, 0, none⟩ = _ := cRn (R2.out.cell 0) rfl
  have y1 : w2.cell? ⟨w.heap.size + 1, 1, none⟩ = _ := cRn (R2.out.cell 1) rfl
  have yf (j) : w2.frozen? ⟨w.heap.size + 1, j, none⟩ = false := R2.out.froz j
  have HH := hI (Blk.set (Blk.set R2.out 0 (.int .i64 0)) 1 (.slice none 0 0))
  clear hq CR
  go_wp2
  refine bodyPost_ret (qeO Tryz.results74 _ _ (w.heap.size + 1) 32 #[.int .i64 0, .slice none 0 0] (0, 0) _ rfl HH.out Tryz.underlying32 rfl (by kernel_rfl)) rfl ?_
  rw [HN.out]
  exact ⟨_, rfl, MadeQ.no B2.out (by omega) _ _⟩
 have HNK := hI (show ¬ k ∈ l from fun h => by rw [(qaF l k).2 h] at hq; cases hq)
 clear hq
 have x0 : w2.cell? ⟨w.heap.size, 0, none⟩ = _ := cRn (K2.out.cell 0) rfl
 have x1 : w2.cell? ⟨w.heap.size, 1, none⟩ = _ := cRn (K2.out.cell 1) rfl
 by_cases hm : m = 0
 ·subst hm
  have HN := hI (qfS (l := l) (m := 0) (k := k) (fun h => h.2.2.2 rfl))
  have y0 : w2.cell? ⟨w.heap.size + 1, 0, none⟩ = _ := cRn (R2.out.cell 0) rfl
  have y1 : w2.cell? ⟨w.heap.size + 1, 1, none⟩ = _ := cRn (R2.out.cell 1) rfl
  have yf (j) : w2.frozen? ⟨w.heap.size + 1, j, none⟩ = false := R2.out.froz j
  have HH := hI (Blk.set (Blk.set R2.out 0 (.int .i64 0)) 1 (.slice none 0 0))
  clear CR
  go_wp2
  refine bodyPost_ret (qeO Tryz.results74 _ _ (w.heap.size + 1) 32 #[.int .i64 0, .slice none 0 0] (0, 0) _ rfl HH.out Tryz.underlying32 rfl (by kernel_rfl)) rfl ?_
  rw [HN.out]
  exact ⟨_, rfl, MadeQ.no B2.out (by omega) _ _⟩
 have qm : (m == 0) = false := by simpa using hm
 have HP := hI (show PshQ l m k from ⟨HOK.out, HKQ.out, HNK.out, hm⟩)
 have HY := hI (qcC HP.out)
 obtain ⟨mn, hmn⟩ : ∃ mn : Nat, m = (mn : Int) := ⟨m.toNat, by have := HOK.out.1; omega⟩
 have hmb : mn <= 24 := by have := HOK.out.2.1; omega
 have HMT := hI (show m.toNat = mn by omega)
 rw [HMT.out] at HY
 have hsm := HOK.out.small
 obtain ⟨KL, hKL⟩ : ∃ KL, k :: l = KL := ⟨_, rfl⟩
 have hlen : KL.length <= 25 := by rw [<- hKL, List.length_cons]; omega
 have PK := qzD HP.out
 rw [hKL] at HY PK
 clear hKL
 have PK := hI PK
 obtain ⟨lf, hlf⟩ : ∃ lf, KL.getD mn ⟨#[]⟩ = lf := ⟨_, rfl⟩
 rw [hlf] at HY
 have HLF := hI hlf
 clear hlf
 obtain ⟨TK, hTK⟩ : ∃ TK, KL.take mn = TK := ⟨_, rfl⟩
 rw [hTK] at HY
 have HTL := hI (show TK.length <= 25 by rw [<- hTK, List.length_take]; omega)
 have HTK := hI hTK
 clear hTK
 have X := hI (And.intro x0 x1)
 have hs0 : w.heap.size < w2.heap.size := K2.out.lt
 have hs1 : w.heap.size + 1 < w2.heap.size := R2.out.lt
 have CA : Hid (∀ w', Below w2.heap.size w2 w' -> Calls Tryz.prog 132 #[.slice ao l.length ca, .string k] w' fun e w'' => ∃ po pc, e = .returned (.slice po KL.length pc) /\ OwnQ w'' w'.heap.size po pc KL /\ Below w'.heap.size w' w'') := by
  show ∀ w', _
  intro w' hb
  have := qnJ ao l ca k w' (by omega) (HA.out.later (B2.out.trans (hb.mono B2.out.size)))
  rw [PK.out] at this
  exact this
 clear hm HMT
 subst hmn
 go_wp2_with fail
 go_region_held3 (fun w' => w'.cell? ⟨w.heap.size, 0, none⟩ = some (.int .i64 (mn : Int)) /\ w'.cell? ⟨w.heap.size, 1, none⟩ = some (.slice ao l.length ca)) (first | go_keep | exact ⟨(D5.out.cell hs0).trans X.out.1, (D5.out.cell hs0).trans X.out.2⟩ | exact ⟨(D4.out.cell hs0).trans X.out.1, (D4.out.cell hs0).trans X.out.2⟩ | exact ⟨(D3.out.cell hs0).trans X.out.1, (D3.out.cell hs0).trans X.out.2⟩) ((first | (go_at_call 133; refine (CM.out _ (by go_grown)).mono ?_; rintro e w5 ⟨n5, c5, rfl, hn5, hb5⟩; have HN5 := hI hn5; have D5 : Hid (Below w2.heap.size w2 w5) := (D4.out.trans (show Below w2.heap.size w4 _ by go_grown)).trans (hb5.mono (by have := D4.out.size; go_size)); have D45 : Hid (Below w4.heap.size w4 w5) := (show Below w4.heap.size w4 _ by go_grown).trans (hb5.mono (by go_size)); clear hb5 hn5) | (go_at_call 132; refine (CA.out _ (D3.out.trans (show Below w2.heap.size w3 _ by go_grown))).mono ?_; rintro e w4 ⟨b4, c4, rfl, ho4, hb4⟩; have D4 : Hid (Below w2.heap.size w2 w4) := (D3.out.trans (show Below w2.heap.size w3 _ by go_grown)).trans (hb4.mono (by have := D3.out.size; go_size)); have hcap := ho4.cap; have CM := hI (fun w' (hb : Below w4.heap.size w4 w') => qwJ b4 KL c4 mn w' (by omega) hcap.1 (ho4.rd.later hb)); rw [HLF.out, HTK.out] at CM; have R4 := hI ho4.rd; clear ho4 hb4 hcap) | (go_at_call 126; refine (CR.out _).mono ?_; rintro e w3 ⟨rfl, hb3⟩; have D3 : Hid (Below w2.heap.size w2 w3) := (show Below w2.heap.size w2 _ by go_grown).trans (hb3.mono (by go_size)); clear hb3)))
 all_goals
  have x0 : w5.cell? ⟨w.heap.size, 0, none⟩ = some (.int .i64 (mn : Int)) := (D5.out.cell hs0).trans X.out.1
  have CQ := hI (fun w' (hb : Below w5.heap.size w5 w') => qdA b4 TK n5 c5 (mn : Int) w' HN5.out (by rw [<- HN5.out]; have := HTL.out; omega) (by have := ((R4.out.later D45.out).later hb).take mn; rw [HTK.out] at this; exact this))
  have R5 := hI (R2.out.below D5.out hs1)
  have B5 := hI (B2.out.trans (D5.out.mono B2.out.size))
  have hs5 : w.heap.size + 1 < w5.heap.size := R5.out.lt
  go_wp2_with fail
  refine (CQ.out _ (by first | exact Below.refl _ _ | go_grown)).mono ?_
  rintro e w6 ⟨b6, c6, rfl, ho6, hb6⟩
  have D6 := hI (show Below w5.heap.size w5 w6 from (show Below w5.heap.size w5 _ by first | exact Below.refl _ _ | go_grown).trans (hb6.mono (by first | exact Nat.le_refl _ | go_size)))
  have O6 := hI (show OwnQ w6 w5.heap.size b6 c6 TK from ho6.base (by first | exact Nat.le_refl _ | go_size))
  have CN := hI (fun w' => quH lf w')
  clear ho6 hb6
  go_wp2_with fail
  refine (CN.out _).mono ?_
  rintro e w7 ⟨rfl, hb7⟩
  have D7 := tRn D6 hb7
  have O7 := hI (O6.out.later hb7)
  have R7 := hI (R5.out.below D7.out hs5)
  have y0 : w7.cell? ⟨w.heap.size + 1, 0, none⟩ = _ := cRn (R7.out.cell 0) rfl
  have y1 : w7.cell? ⟨w.heap.size + 1, 1, none⟩ = _ := cRn (R7.out.cell 1) rfl
  have yf (j) : w7.frozen? ⟨w.heap.size + 1, j, none⟩ = false := R7.out.froz j
  have HH := hI (Blk.set (Blk.set R7.out 0 (.int .i64 (mn : Int))) 1 (.slice b6 TK.length c6))
  have HM := hI (fun x y => MadeQ.yes (r := w.heap.size + 1) (M := (mn : Int)) B5.out (by omega) hs5 O7.out D7.out x y)
  clear hb7 CQ CN D6 O6 R5 O7
  go_wp2
  refine bodyPost_ret (qeO Tryz.results74 _ _ (w.heap.size + 1) 32 #[.int .i64 (mn : Int), .slice b6 TK.length c6] (0, 0) _ rfl HH.out Tryz.underlying32 rfl (by kernel_rfl)) rfl ?_
  rw [HY.out]
  exact ⟨_, rfl, HM.out _ _⟩
theorem inQ (x lo hi : Int) (w : World) : Calls Tryz.prog 36 #[.int .i64 x, .int .i64 lo, .int .i64 hi] w fun e w' => e = .returned (.bool (decide (lo <= x) && decide (x <= hi))) /\ w' = w :=
 (qdP x lo hi w).mono fun _ _ h => ⟨h.1, h.2.symm⟩
theorem qhB (ao : Option Addr) (l : List ByteArray) (ca : Nat) (m : Int) (k : ByteArray) (w : World) (hl : l.length <= 1048576) (hA : RdQ w ao l) :
  Calls Tryz.prog 98 #[.agg #[.int .i64 m, .slice ao l.length ca], .string k] w fun e w' => e = .returned (.bool (qeG l k)) /\ Below w.heap.size w w' := by
 have BX := hI (Blk.new w 32 #[.int .i64 m, .slice ao l.length ca])
 have B0 := hI (bAl w (.cells #[.int .i64 m, .slice ao l.length ca] 32))
 have HA := hI (hA.later B0.out)
 clear hA
 go_enter Tryz.func98, Tryz.ntmps98
 go_wp2
 generalize w.alloc (.cells #[.int .i64 m, .slice ao l.length ca] 32) = w1 at BX B0 HA ⊢
 have x1 : w1.cell? ⟨w.heap.size, 1, none⟩ = _ := cRn (BX.out.cell 1) rfl
 go_loop [5] (fun iv => ∃ i : Nat, i <= l.length /\ iv = .int .i64 (i : Int) /\ Hid (¬ k ∈ l.take i)) (fun iv => l.length - (intOf iv).toNat)
 case atStart => exact ⟨0, by omega, rfl, by show ¬ k ∈ l.take 0; simp⟩
 case round =>
  obtain ⟨i, hi, rfl, hno⟩ := hrel
  by_cases hlt : i < l.length
  ·have k1 : (i : Int) < (l.length : Int) := by omega
   obtain ⟨b, o, rfl, hb, h1⟩ := HA.out i hlt
   obtain ⟨s, hs⟩ : ∃ s, l[i] = s := ⟨_, rfl⟩
   rw [hs] at h1
   have HS := hI hs
   clear hs
   by_cases ce : s = k
   ·obtain ⟨q, q'⟩ := qsO ce
    have HM := hI ((qaF l k).2 (show k ∈ l by rw [<- ce, <- HS.out]; exact List.getElem_mem _))
    clear ce
    go_wp2
    go_ret
    exact ⟨by rw [HM.out]; rfl, B0.out⟩
   ·obtain ⟨q, q'⟩ := qdX ce
    have HM := hI (qfI hlt hno.out (fun e => ce (by rw [<- HS.out, e])))
    clear ce
    go_wp2
    go_round
    case rel => exact ⟨i + 1, by omega, by go_num, HM⟩
    case measure => simp [intOf]; omega
  ·obtain rfl : i = l.length := by omega
   have HM := hI (quO (show ¬ k ∈ l by have := hno.out; rwa [List.take_length] at this))
   go_wp2
   go_ret
   exact ⟨by rw [HM.out]; rfl, B0.out⟩
theorem qcY (ao : Option Addr) (l : List ByteArray) (ca : Nat) (m : Int) (w : World) (hl : l.length <= 1048576) (hA : RdQ w ao l) :
  Calls Tryz.prog 97 #[.agg #[.int .i64 m, .slice ao l.length ca]] w fun e w' => ∃ x : Bool, e = .returned (.bool x) /\ (x = true ↔ OkQ l m) /\ Below w.heap.size w w' := by
 have CI := hI (fun x lo hi w => inQ x lo hi w)
 have BX := hI (Blk.new w 32 #[.int .i64 m, .slice ao l.length ca])
 have B0 := hI (bAl w (.cells #[.int .i64 m, .slice ao l.length ca] 32))
 have HA := hI (hA.later B0.out)
 have C9 := hI (CI.out m 0 24)
 clear hA
 go_enter Tryz.func97, Tryz.ntmps97
 rcases hq : (decide (0 <= m) && decide (m <= 24)) with _ | _
 ·have HN := hI (show ¬ OkQ l m from fun h => by have := h.1; have := h.2.1; simp at hq; omega)
  rw [hq] at C9
  clear hq
  go_wp2_with fail
  refine (C9.out _).mono ?_
  rintro e w1 ⟨rfl, rfl⟩
  go_wp2
  go_ret
  first | exact ⟨false, rfl, ⟨(fun h => by cases h), fun h => absurd h HN.out⟩, B0.out⟩ | exact .inl ⟨rfl, HN.out, B0.out⟩
 have HQ := hI (show 0 <= m /\ m <= 24 by simpa using hq)
 rw [hq] at C9
 clear hq
 by_cases c3 : m < (l.length : Int)
 ·have HN := hI (show ¬ OkQ l m from fun h => by have := h.2.2.1; omega)
  have q3 : decide (m < (l.length : Int)) = true := decide_eq_true c3
  go_wp2_with fail
  refine (C9.out _).mono ?_
  rintro e w1 ⟨rfl, rfl⟩
  go_wp2
  go_ret
  first | exact ⟨false, rfl, ⟨(fun h => by cases h), fun h => absurd h HN.out⟩, B0.out⟩ | exact .inl ⟨rfl, HN.out, B0.out⟩
 have q3 : decide (m < (l.length : Int)) = false := decide_eq_false c3
 have HB := hI (show 0 <= m /\ m <= 24 /\ (l.length : Int) <= m by have := HQ.out; omega)
 clear c3
 go_wp2_with fail
 refine (C9.out _).mono ?_
 rintro e w1 ⟨rfl, rfl⟩
 clear C9
 generalize w.alloc (.cells #[.int .i64 m, .slice ao l.length ca] 32) = w1 at BX B0 HA ⊢
 have x0 : w1.cell? ⟨w.heap.size, 0, none⟩ = _ := cRn (BX.out.cell 0) rfl
 have x1 : w1.cell? ⟨w.heap.size, 1, none⟩ = _ := cRn (BX.out.cell 1) rfl
 go_wp2
 clear x0 x1
 go_loopw [3] (fun iv wr => ∃ i : Nat, i <= l.length /\ iv = .int .i64 (i : Int) /\ Hid (∀ j (h : j < l.length), j < i -> qcV l[j]) /\ Hid ((l.take i).Nodup) /\ Hid (Below w1.heap.size w1 wr)) (fun iv _ => l.length - (intOf iv).toNat)
 case atStart => exact ⟨0, by omega, rfl, (fun j h hj => by omega), (by show (l.take 0).Nodup; simp), Below.refl _ _⟩
 case round =>
  obtain ⟨i, hi, rfl, hall, hno, hbel⟩ := hrel
  obtain ⟨W, hW⟩ : ∃ W, W = wr := ⟨_, rfl⟩
  subst hW
  have BX2 := hI (BX.out.below hbel.out BX.out.lt)
  have x1 : W.cell? ⟨w.heap.size, 1, none⟩ = _ := cRn (BX2.out.cell 1) rfl
  by_cases hlt : i < l.length
  ·have k1 : (i : Int) < (l.length : Int) := by omega
   obtain ⟨b, o, rfl, hb, h1⟩ := HA.out i hlt
   have y1 := (hbel.out.cell (p := ⟨b, o + i, none⟩) hb).trans h1
   obtain ⟨s, hs⟩ : ∃ s, l[i] = s := ⟨_, rfl⟩
   rw [hs] at y1
   have HS := hI hs
   clear hs h1
   have CE := hI (CI.out (s.size : Int) 1 12)
   rcases hq : (decide ((1 : Int) <= (s.size : Int)) && decide ((s.size : Int) <= 12)) with _ | _
   ·have HN := hI (show ¬ OkQ l m from fun h => by
     have := h.2.2.2.1 s (by rw [<- HS.out]; exact List.getElem_mem _)
     obtain ⟨u1, u2⟩ := this
     have e1 : decide ((1 : Int) <= (s.size : Int)) = true := decide_eq_true (by omega)
     have e2 : decide ((s.size : Int) <= 12) = true := decide_eq_true (by omega)
     rw [e1, e2] at hq
     cases hq)
    rw [hq] at CE
    clear hq
    go_wp2_with fail
    refine (CE.out _).mono ?_
    rintro e w2 ⟨rfl, hw⟩
    have hw2 := hw.symm
    clear hw
    subst hw2
    go_wp2
    go_ret
    have BB := B0.out.trans (hbel.out.mono B0.out.size)
    first | exact ⟨false, rfl, ⟨(fun h => by cases h), fun h => absurd h HN.out⟩, BB⟩ | exact .inl ⟨rfl, HN.out, BB⟩
   ·have HK := hI (show qcV s by
     rw [Bool.and_eq_true] at hq
     have u1 := of_decide_eq_true hq.1
     have u2 := of_decide_eq_true hq.2
     exact ⟨by omega, by omega⟩)
    rw [hq] at CE
    clear hq
    go_wp2_with fail
    refine (CE.out _).mono ?_
    rintro e w2 ⟨rfl, hw⟩
    have hw2 := hw.symm
    clear hw
    subst hw2
    go_wp2
    have Y := hI (And.intro x1 y1)
    clear x1 y1
    go_loopw [4] (fun jv wr => ∃ j : Nat, j <= i /\ jv = .int .i64 (j : Int) /\ Hid (¬ s ∈ l.take j) /\ Hid (Below W.heap.size W wr)) (fun jv _ => i - (intOf jv).toNat)
    case atStart => exact ⟨0, by omega, rfl, (by show ¬ s ∈ l.take 0; simp), Below.refl _ _⟩
    case round =>
     obtain ⟨j, hj, rfl, hns, hbj⟩ := hrel
     have z1 : wr.cell? ⟨w.heap.size, 1, none⟩ = some (.slice (some ⟨b, o, none⟩) l.length ca) := (hbj.out.cell (p := ⟨w.heap.size, 1, none⟩) BX2.out.lt).trans Y.out.1
     have z2 : wr.cell? ⟨b, o + i, none⟩ = some (.string s) := (hbj.out.cell (p := ⟨b, o + i, none⟩) (Nat.lt_of_lt_of_le hb hbel.out.size)).trans Y.out.2
     by_cases hlj : j < i
     ·have k3 : (j : Int) < (i : Int) := by omega
      have hjl : j < l.length := by omega
      have k4 : (j : Int) < (l.length : Int) := by omega
      obtain ⟨b', o', hbo, hb', h2⟩ := HA.out j hjl
      simp only [Option.some.injEq, Addr.mk.injEq, and_true] at hbo
      obtain ⟨rfl, rfl⟩ := hbo
      have z3 := (hbj.out.cell (p := ⟨b, o + j, none⟩) (Nat.lt_of_lt_of_le hb hbel.out.size)).trans ((hbel.out.cell (p := ⟨b, o + j, none⟩) hb).trans h2)
      obtain ⟨t, ht⟩ : ∃ t, l[j] = t := ⟨_, rfl⟩
      rw [ht] at z3
      have HT := hI ht
      clear ht h2
      by_cases ce : t = s
      ·obtain ⟨q, q'⟩ := qsO ce
       have HN := hI (show ¬ OkQ l m from fun h => by
        have := ((qcQ hlt).1 (h.2.2.2.2.sublist (List.take_sublist _ _))).2
        rw [HS.out, <- ce, <- HT.out] at this
        exact this (List.mem_take_iff_getElem.2 ⟨j, by omega, rfl⟩))
       clear ce
       go_wp2_with fail
       go_quiet (fail)
       go_wp2
       go_ret
       have BB := below_drewN ((B0.out.trans (hbel.out.mono B0.out.size)).trans (hbj.out.mono (by have := B0.out.size; have := hbel.out.size; omega)))
       first | exact ⟨false, rfl, ⟨(fun h => by cases h), fun h => absurd h HN.out⟩, BB _⟩ | exact .inl ⟨rfl, HN.out, BB _⟩
      ·obtain ⟨q, q'⟩ := qdX ce
       have HM := hI (qfI hjl hns.out (fun e => ce (by rw [<- HT.out, e])))
       clear ce
       go_wp2_with fail
       go_quiet (fail)
       go_wp2
       go_roundw
       case rel => exact ⟨j + 1, by omega, by go_num, HM, below_drewN hbj.out _⟩
       case measure => simp [intOf]; omega
     ·obtain rfl : j = i := by omega
      go_wp2
      go_roundw
      case rel =>
       refine ⟨j + 1, by omega, by go_num, fun j' h hj' => ?_, (qcQ hlt).2 ⟨hno.out, by rw [HS.out]; exact hns.out⟩, hbel.out.trans (hbj.out.mono hbel.out.size)⟩
       by_cases hj2 : j' < j
       ·exact hall.out j' h hj2
       ·obtain rfl : j' = j := by omega
        rw [HS.out]; exact HK.out
      case measure => simp [intOf]; omega
  ·obtain rfl : i = l.length := by omega
   have HOK := hI (show OkQ l m from ⟨HB.out.1, HB.out.2.1, HB.out.2.2, (fun s hs => by obtain ⟨j, hj, rfl⟩ := List.getElem_of_mem hs; exact hall.out j hj hj), (by have := hno.out; rwa [List.take_length] at this)⟩)
   go_wp2
   go_ret
   have BB := B0.out.trans (hbel.out.mono B0.out.size)
   first | exact ⟨true, rfl, ⟨(fun _ => HOK.out), fun _ => rfl⟩, BB⟩ | exact .inr ⟨rfl, HOK.out, BB⟩
theorem qfO (ao : Option Addr) (l : List ByteArray) (ca : Nat) (k : ByteArray) (w : World) (hl : l.length <= 65536) (hA : RdQ w ao l) :
  Calls Tryz.prog 131 #[.slice ao l.length ca, .string k] w fun e w' => ∃ po pc, e = .returned (.slice po (qaX l k).length pc) /\ OwnQ w' w.heap.size po pc (qaX l k) /\ Below w.heap.size w w' := by
 obtain ⟨i0, hi0, hz0, hz1, hz2⟩ := info_parts Tryz.infoQ
 have HA := hI hA
 clear hA
 go_enter Tryz.func131, Tryz.ntmps131
 go_wp2
 go_loopw [5, 6] (fun lv iv wr => ∃ (i : Nat) (R : List ByteArray) (po : Option Addr) (pc : Nat), i <= l.length /\ R.length <= i /\ iv = .int .i64 (i : Int) /\ lv = .slice po R.length pc /\ Hid (R = qaX (l.take i) k) /\ Hid (wr.ownsRow w.heap.size 9 1 (.slice po R.length pc) R.length (sc R)) /\ Hid (Below w.heap.size w wr)) (fun _ iv _ => l.length - (intOf iv).toNat)
 case atStart => exact ⟨0, [], _, _, by omega, Nat.le_refl _, rfl, rfl, rfl, qbB w 9, bAl _ _⟩
 case round =>
  obtain ⟨i, R, po, pc, hi, hRi, rfl, rfl, hR, hown, hbel⟩ := hrel
  by_cases hlt : i < l.length
  ·have k1 : (i : Int) < (l.length : Int) := by omega
   obtain ⟨g, o, hlo, hg, h1⟩ := HA.out i hlt
   have x0 : wr.cell? ⟨g, o + i, none⟩ = some (.string l[i]) := (hbel.out.cell (p := ⟨g, o + i, none⟩) hg).trans h1
   have hft := hI (qpB (k := k) hlt)
   generalize l[i] = y at *
   have hbs := hbel.out.size
   rw [hlo]
   clear h1 hlo
   cases e : (y.toList != k.toList) with
   | true =>
    have b1 : (y.toList == k.toList) = false := by rw [bne] at e; simpa using e
    have HR2 := hI (show R ++ [y] = qaX (l.take (i + 1)) k by rw [hft.out, if_pos e, hR.out])
    clear hft
    go_wp2_with (at_builtin; (refine qbG rfl _ _ 30 rfl w.heap.size 9 i0 (.string ⟨#[]⟩) 16 Tryz.underlying30 hi0 hz0 hz1 hz2 rfl (by decide) _ R.length (sc R) rfl hown.out (.string y) rfl rfl (by omega) hbs ?_; intro v' w6 hown6 hb6))
    have O6 : Hid (w6.ownsRow w.heap.size 9 1 v' (R ++ [y]).length (sc (R ++ [y]))) := by
     show World.ownsRow _ _ _ _ _ _ _
     rw [qdM, List.length_append]
     exact hown6
    obtain ⟨lo2, lc2, rfl⟩ := qbW O6.out
    have B6 := hI (hbel.out.trans hb6)
    have hll : (R ++ [y]).length = R.length + 1 := by simp
    clear hown6 hb6
    go_wp2
    go_roundw
    case rel => exact ⟨i + 1, R ++ [y], lo2, lc2, by omega, by omega, by go_num, rfl, HR2, O6, B6⟩
    case measure => simp [intOf]; omega
   | false =>
    have b1 : (y.toList == k.toList) = true := by rw [bne] at e; simpa using e
    have HR2 := hI (show R = qaX (l.take (i + 1)) k by rw [hft.out, if_neg (by rw [e]; simp), hR.out, List.append_nil])
    clear hft
    go_wp2
    go_roundw
    case rel => exact ⟨i + 1, R, po, pc, by omega, by omega, by go_num, rfl, HR2, hown, hbel⟩
    case measure => simp [intOf]; omega
  ·obtain rfl : i = l.length := by omega
   have HR1 := hI (show R = qaX l k by rw [hR.out, List.take_length])
   go_wp2
   go_ret
   refine ⟨po, pc, ?_, ?_, hbel.out⟩
   ·rw [<- HR1.out]; rfl
   ·rw [<- HR1.out]; exact hown.out
theorem qkT {ops : Array Oper} {o : Oper} {a : Act} {w : World} {K : Act -> World -> Prop} {Q : Exit -> Act -> World -> Prop} {E : Prop} (hgd : o.guard = none) (s x : Operand) (t : TypeId)
  (ho : o.op = .call { callee := .builtin .append, args := #[s, x], argTypes := #[t, t] }) (ht : Tryz.prog.underlying t = some (.slice 9)) (base : Nat) (v : Value) (n : Nat) (l1 : List ByteArray) (hs : a.eval s = v) (hown : w.ownsRow base 9 1 v n (sc l1)) (ao : Option Addr) (m c : Nat) (l2 : List ByteArray) (hx : a.eval x = .slice ao m c) (hm : l2.length = m) (hA : RdQ w ao l2) (hlen : n + m <= 1048576) (hbase : base <= w.heap.size)
  (h : ∀ b' c' w', OwnQ w' base b' c' (l1 ++ l2) -> Below base w w' -> K (a.put o.dst (.slice b' (l1 ++ l2).length c')) w') :
  if Region.wanted o (yielded ops a.tmps) = true then Oper.wp Tryz.prog o a w K Q else E := by
 refine qwX hgd s x t ho ht base v n l1 hs hown ao m c l2 hx hm hA hlen hbase ?_
 intro v' w' h1 h2
 have hl1 : l1.length = n := by have := hown.1; rw [qfR] at this; omega
 have e : n + m = (l1 ++ l2).length := by rw [List.length_append, hl1, hm]
 rw [e] at h1
 obtain ⟨b', c', rfl⟩ := qbW h1
 exact h b' c' w' h1 (qaU h2 (fun g hg => (hown.lt g hg).1) hbase)
theorem zcA {w : World} {base : Nat} (k : ByteArray) (hb : base <= w.heap.size) : (w.alloc (.cells #[.string k] 9)).ownsRow base 9 1 (.slice (some ⟨w.heap.size, 0, none⟩) 1 1) 1 (sc [k]) :=
 World.ownsRow_lit w #[.string k] 1 hb (by unfold maxLen; omega) rfl
theorem qqZ {w : World} {base : Nat} (k : ByteArray) (hb : base <= w.heap.size) : (w.drew.alloc (.cells #[.string k] 9)).ownsRow base 9 1 (.slice (some ⟨w.heap.size, 0, none⟩) 1 1) 1 (sc [k]) :=
 zcA (w := w.drew) k hb
theorem qqD (ao : Option Addr) (l : List ByteArray) (ca : Nat) (m : Int) (k : ByteArray) (w : World) (hl : l.length <= 1048576) (hA : RdQ w ao l) :
  Calls Tryz.prog 96 #[.agg #[.int .i64 m, .slice ao l.length ca], .string k] w fun e w' => ∃ v, e = .returned (.tuple #[v, .bool (drpR l m k).2]) /\ MadeQ w w' v (drpR l m k).1 := by
 have CO := hI (fun w' (hb : Below w.heap.size w w') => qcY ao l ca m w' hl (hA.later hb))
 have CH := hI (fun w' (hb : Below w.heap.size w w') => qhB ao l ca m k w' hl (hA.later hb))
 have F0 := hI (qdI w #[.int .i64 m, .slice ao l.length ca] #[.int .i64 0, .slice none 0 0] 32 32)
 have HA := hI hA
 clear hA
 go_enter Tryz.func96, Tryz.ntmps96
 go_wp2_with fail
 generalize ((w.alloc (.cells #[.int .i64 m, .slice ao l.length ca] 32)).alloc (.cells #[.int .i64 0, .slice none 0 0] 32)) = w0 at F0 ⊢
 obtain ⟨K0, R0, B0⟩ := F0.out
 have K0 := hI K0
 have R0 := hI R0
 have B0 := hI B0
 clear F0
 refine (CO.out w0 B0.out).mono ?_
 rintro e w1 ⟨x, rfl, hx, hb1⟩
 have K1 := bRn K0 hb1
 have R1 := bRn R0 hb1
 have B1 := tRn B0 hb1
 clear hb1 CO K0 R0 B0
 rcases x with _ | _
 ·have HN := hI (qoU (k := k) (fun h => by have := hx.2 h.1; cases this))
  have y0 : w1.cell? ⟨w.heap.size + 1, 0, none⟩ = _ := cRn (R1.out.cell 0) rfl
  have y1 : w1.cell? ⟨w.heap.size + 1, 1, none⟩ = _ := cRn (R1.out.cell 1) rfl
  have yf (j) : w1.frozen? ⟨w.heap.size + 1, j, none⟩ = false := R1.out.froz j
  have HH := hI (Blk.set (Blk.set R1.out 0 (.int .i64 0)) 1 (.slice none 0 0))
  clear hx
  go_wp2
  refine bodyPost_ret (qhV Tryz.results96 _ _ (w.heap.size + 1) 32 #[.int .i64 0, .slice none 0 0] (0, 0) _ rfl HH.out Tryz.underlying32 rfl (by kernel_rfl)) rfl ?_
  rw [HN.out]
  exact ⟨_, rfl, MadeQ.no B1.out (by omega) _ _⟩
 have HOK := hI (hx.1 rfl)
 clear hx
 have x0 : w1.cell? ⟨w.heap.size, 0, none⟩ = _ := cRn (K1.out.cell 0) rfl
 have x1 : w1.cell? ⟨w.heap.size, 1, none⟩ = _ := cRn (K1.out.cell 1) rfl
 go_wp2_with fail
 refine (CH.out w1 B1.out).mono ?_
 rintro e w2 ⟨rfl, hb2⟩
 have K2 := bRn K1 hb2
 have R2 := bRn R1 hb2
 have B2 := tRn B1 hb2
 clear hb2 CH K1 R1 B1 x0 x1
 rcases hq : qeG l k with _ | _
 ·have HN := hI (qoU (l := l) (m := m) (k := k) (fun h => by rw [(qaF l k).2 h.2] at hq; cases hq))
  have y0 : w2.cell? ⟨w.heap.size + 1, 0, none⟩ = _ := cRn (R2.out.cell 0) rfl
  have y1 : w2.cell? ⟨w.heap.size + 1, 1, none⟩ = _ := cRn (R2.out.cell 1) rfl
  have yf (j) : w2.frozen? ⟨w.heap.size + 1, j, none⟩ = false := R2.out.froz j
  have HH := hI (Blk.set (Blk.set R2.out 0 (.int .i64 0)) 1 (.slice none 0 0))
  clear hq
  go_wp2
  refine bodyPost_ret (qhV Tryz.results96 _ _ (w.heap.size + 1) 32 #[.int .i64 0, .slice none 0 0] (0, 0) _ rfl HH.out Tryz.underlying32 rfl (by kernel_rfl)) rfl ?_
  rw [HN.out]
  exact ⟨_, rfl, MadeQ.no B2.out (by omega) _ _⟩
 have HY := hI (qiE HOK.out ((qaF l k).1 hq))
 have hsm := HOK.out.small
 have hwl := qbT l k
 clear hq
 have x0 : w2.cell? ⟨w.heap.size, 0, none⟩ = _ := cRn (K2.out.cell 0) rfl
 have x1 : w2.cell? ⟨w.heap.size, 1, none⟩ = _ := cRn (K2.out.cell 1) rfl
 have X := hI (And.intro x0 x1)
 have hs0 : w.heap.size < w2.heap.size := K2.out.lt
 have hs1 : w.heap.size + 1 < w2.heap.size := R2.out.lt
 have CA := hI (fun w' (hb : Below w2.heap.size w2 w') => qfO ao l ca k w' (by omega) (HA.out.later (B2.out.trans (hb.mono B2.out.size))))
 go_wp2_with fail
 go_region_held3 (fun w' => w'.cell? ⟨w.heap.size, 0, none⟩ = some (.int .i64 m) /\ w'.cell? ⟨w.heap.size, 1, none⟩ = some (.slice ao l.length ca)) (first | go_keep | exact ⟨(D5.out.cell hs0).trans X.out.1, (D5.out.cell hs0).trans X.out.2⟩) (((go_at_call 131; refine (CA.out _ (by go_grown)).mono ?_; rintro e w5 ⟨b5, c5, rfl, ho5, hb5⟩; have D5 : Hid (Below w2.heap.size w2 w5) := (show Below w2.heap.size w2 _ by go_grown).trans (hb5.mono (by go_size)); have O5 : Hid (OwnQ w5 w2.heap.size b5 c5 (qaX l k)) := hI (ho5.base (by go_size)); clear ho5 hb5; have r5 := R2.out.below D5.out hs1; have y0 : w5.cell? ⟨w.heap.size + 1, 0, none⟩ = some (.int .i64 0) := r5.cell 0; have y1 : w5.cell? ⟨w.heap.size + 1, 1, none⟩ = some (.slice none 0 0) := r5.cell 1; have yf : ∀ j, w5.frozen? ⟨w.heap.size + 1, j, none⟩ = false := fun j => r5.froz j; have R5 := hI r5; clear r5)))
 all_goals go_wp2
 all_goals
  have HH := hI (Blk.set (Blk.set R5.out 0 (.int .i64 m)) 1 (.slice b5 (qaX l k).length c5))
  refine bodyPost_ret (qhV Tryz.results96 _ _ (w.heap.size + 1) 32 #[.int .i64 m, .slice b5 (qaX l k).length c5] (0, 0) _ rfl HH.out Tryz.underlying32 rfl (by kernel_rfl)) rfl ?_
  rw [HY.out]
  exact ⟨_, rfl, MadeQ.yes (r := w.heap.size + 1) B2.out (by omega) hs1 O5.out D5.out _ _⟩
theorem qnS (ao : Option Addr) (l : List ByteArray) (ca : Nat) (m : Int) (k : ByteArray) (w : World) (hl : l.length <= 1048576) (hA : RdQ w ao l) :
  Calls Tryz.prog 95 #[.agg #[.int .i64 m, .slice ao l.length ca], .string k] w fun e w' => ∃ v, e = .returned (.tuple #[v, .bool (touR l m k).2]) /\ MadeQ w w' v (touR l m k).1 := by
 have CO := hI (fun w' (hb : Below w.heap.size w w') => qcY ao l ca m w' hl (hA.later hb))
 have CH := hI (fun w' (hb : Below w.heap.size w w') => qhB ao l ca m k w' hl (hA.later hb))
 have F0 := hI (qdI w #[.int .i64 m, .slice ao l.length ca] #[.int .i64 0, .slice none 0 0] 32 32)
 have HA := hI hA
 clear hA
 go_enter Tryz.func95, Tryz.ntmps95
 go_wp2_with fail
 generalize ((w.alloc (.cells #[.int .i64 m, .slice ao l.length ca] 32)).alloc (.cells #[.int .i64 0, .slice none 0 0] 32)) = w0 at F0 ⊢
 obtain ⟨K0, R0, B0⟩ := F0.out
 have K0 := hI K0
 have R0 := hI R0
 have B0 := hI B0
 clear F0
 refine (CO.out w0 B0.out).mono ?_
 rintro e w1 ⟨x, rfl, hx, hb1⟩
 have K1 := bRn K0 hb1
 have R1 := bRn R0 hb1
 have B1 := tRn B0 hb1
 clear hb1 CO K0 R0 B0
 rcases x with _ | _
 ·have HN := hI (qfC (k := k) (fun h => by have := hx.2 h.1; cases this))
  have y0 : w1.cell? ⟨w.heap.size + 1, 0, none⟩ = _ := cRn (R1.out.cell 0) rfl
  have y1 : w1.cell? ⟨w.heap.size + 1, 1, none⟩ = _ := cRn (R1.out.cell 1) rfl
  have yf (j) : w1.frozen? ⟨w.heap.size + 1, j, none⟩ = false := R1.out.froz j
  have HH := hI (Blk.set (Blk.set R1.out 0 (.int .i64 0)) 1 (.slice none 0 0))
  clear hx
  go_wp2
  refine bodyPost_ret (qhV Tryz.results95 _ _ (w.heap.size + 1) 32 #[.int .i64 0, .slice none 0 0] (0, 0) _ rfl HH.out Tryz.underlying32 rfl (by kernel_rfl)) rfl ?_
  rw [HN.out]
  exact ⟨_, rfl, MadeQ.no B1.out (by omega) _ _⟩
 have HOK := hI (hx.1 rfl)
 clear hx
 have x0 : w1.cell? ⟨w.heap.size, 0, none⟩ = _ := cRn (K1.out.cell 0) rfl
 have x1 : w1.cell? ⟨w.heap.size, 1, none⟩ = _ := cRn (K1.out.cell 1) rfl
 go_wp2_with fail
 refine (CH.out w1 B1.out).mono ?_
 rintro e w2 ⟨rfl, hb2⟩
 have K2 := bRn K1 hb2
 have R2 := bRn R1 hb2
 have B2 := tRn B1 hb2
 clear hb2 CH K1 R1 B1 x0 x1
 rcases hq : qeG l k with _ | _
 ·have HN := hI (qfC (l := l) (m := m) (k := k) (fun h => by rw [(qaF l k).2 h.2] at hq; cases hq))
  have y0 : w2.cell? ⟨w.heap.size + 1, 0, none⟩ = _ := cRn (R2.out.cell 0) rfl
  have y1 : w2.cell? ⟨w.heap.size + 1, 1, none⟩ = _ := cRn (R2.out.cell 1) rfl
  have yf (j) : w2.frozen? ⟨w.heap.size + 1, j, none⟩ = false := R2.out.froz j
  have HH := hI (Blk.set (Blk.set R2.out 0 (.int .i64 0)) 1 (.slice none 0 0))
  clear hq
  go_wp2
  refine bodyPost_ret (qhV Tryz.results95 _ _ (w.heap.size + 1) 32 #[.int .i64 0, .slice none 0 0] (0, 0) _ rfl HH.out Tryz.underlying32 rfl (by kernel_rfl)) rfl ?_
  rw [HN.out]
  exact ⟨_, rfl, MadeQ.no B2.out (by omega) _ _⟩
 have HY := hI (qeH HOK.out ((qaF l k).1 hq))
 have hsm := HOK.out.small
 have hwl := qbT l k
 clear hq
 have x0 : w2.cell? ⟨w.heap.size, 0, none⟩ = _ := cRn (K2.out.cell 0) rfl
 have x1 : w2.cell? ⟨w.heap.size, 1, none⟩ = _ := cRn (K2.out.cell 1) rfl
 have X := hI (And.intro x0 x1)
 have hs0 : w.heap.size < w2.heap.size := K2.out.lt
 have hs1 : w.heap.size + 1 < w2.heap.size := R2.out.lt
 have CA := hI (fun w' (hb : Below w2.heap.size w2 w') => qfO ao l ca k w' (by omega) (HA.out.later (B2.out.trans (hb.mono B2.out.size))))
 obtain ⟨WT, hWT⟩ : ∃ WT, qaX l k = WT := ⟨_, rfl⟩
 rw [hWT] at CA HY hwl
 clear hWT
 obtain ⟨KW, hKW⟩ : ∃ KW, [k] ++ WT = KW := ⟨_, rfl⟩
 have HY2 := hI (show touR l m k = ((KW, m), true) by rw [HY.out, <- hKW]; rfl)
 have HKW := hI hKW
 clear hKW HY
 have CAP := hI (fun (ops : Array Oper) (o : Oper) (a : Act) (w' : World) (K : Act -> World -> Prop) (Q : Exit -> Act -> World -> Prop) (E : Prop) hgd s x ho v hs hown bo c hx hA hb h => qkT (ops := ops) (o := o) (a := a) (w := w') (K := K) (Q := Q) (E := E) hgd s x 30 ho Tryz.underlying30 w2.heap.size v 1 [k] hs hown bo WT.length c WT hx rfl hA (by omega) hb h)
 rw [HKW.out] at CAP
 go_wp2_with fail
 go_region_held3 (fun w' => w'.cell? ⟨w.heap.size, 0, none⟩ = some (.int .i64 m) /\ w'.cell? ⟨w.heap.size, 1, none⟩ = some (.slice ao l.length ca)) (first | go_keep | exact ⟨(D5.out.cell hs0).trans X.out.1, (D5.out.cell hs0).trans X.out.2⟩ | exact ⟨(D4.out.cell hs0).trans X.out.1, (D4.out.cell hs0).trans X.out.2⟩) ((first | (refine CAP.out _ _ _ _ _ _ _ rfl (.tmp 19) (.tmp 23) rfl _ rfl (by first | exact qaE K4.out (by go_grown) | exact zcA k D4.out.size | exact qqZ k D4.out.size) b4 c4 rfl (R4.out.later (by go_grown)) (by have := D4.out.size; go_size) ?_; intro b5 c5 w5 ho5 hb5; have D5 : Hid (Below w2.heap.size w2 w5) := (D4.out.trans (show Below w2.heap.size w4 _ by have := D4.out.size; first | exact (Below.refl _ _) | exact (Below.refl _ _).drew | exact (Below.refl _ _).alloc this _ | exact (Below.refl _ _).drew.alloc this _)).trans hb5; have O5 := hI ho5; clear ho5 hb5; have r5 := R2.out.below D5.out hs1; have y0 : w5.cell? ⟨w.heap.size + 1, 0, none⟩ = some (.int .i64 0) := r5.cell 0; have y1 : w5.cell? ⟨w.heap.size + 1, 1, none⟩ = some (.slice none 0 0) := r5.cell 1; have yf : ∀ j, w5.frozen? ⟨w.heap.size + 1, j, none⟩ = false := fun j => r5.froz j; have R5 := hI r5; clear r5) | (go_at_call 131; refine (CA.out _ (by go_grown)).mono ?_; rintro e w4 ⟨b4, c4, rfl, ho4, hb4⟩; (try have K4 : Hid (w4.ownsRow w2.heap.size 9 1 (.slice (some ⟨w2.heap.size, 0, none⟩) 1 1) 1 (sc [k])) := qaE (zcA k (Nat.le_refl _)) hb4); (try have K4 : Hid (w4.ownsRow w2.heap.size 9 1 (.slice (some ⟨w2.heap.size, 0, none⟩) 1 1) 1 (sc [k])) := qaE (qqZ k (Nat.le_refl _)) hb4); have D4 : Hid (Below w2.heap.size w2 w4) := (show Below w2.heap.size w2 _ by go_grown).trans (hb4.mono (by go_size)); have R4 := hI ho4.rd; clear ho4 hb4)))
 all_goals go_wp2
 all_goals
  have HH := hI (Blk.set (Blk.set R5.out 0 (.int .i64 m)) 1 (.slice b5 KW.length c5))
  refine bodyPost_ret (qhV Tryz.results95 _ _ (w.heap.size + 1) 32 #[.int .i64 m, .slice b5 KW.length c5] (0, 0) _ rfl HH.out Tryz.underlying32 rfl (by kernel_rfl)) rfl ?_
  rw [HY2.out]
  exact ⟨_, rfl, MadeQ.yes (r := w.heap.size + 1) B2.out (by omega) hs1 O5.out D5.out _ _⟩
theorem qpT (ao : Option Addr) (l : List ByteArray) (ca : Nat) (m : Int) (k : ByteArray) (w : World) (hl : l.length <= 1048576) (hA : RdQ w ao l) :
  Calls Tryz.prog 44 #[.agg #[.int .i64 m, .slice ao l.length ca], .string k] w fun e w' => ∃ v, e = .returned (.tuple #[v, .string (pshR l m k).2.1, .bool (pshR l m k).2.2]) /\ MadeQ w w' v (pshR l m k).1 := by
 have CO := hI (fun w' (hb : Below w.heap.size w w') => qcY ao l ca m w' hl (hA.later hb))
 have CF : Hid (∀ w', Calls Tryz.prog 36 #[.int .i64 (k.size : Int), .int .i64 1, .int .i64 12] w' fun e w'' => ∃ x : Bool, e = .returned (.bool x) /\ (x = true ↔ qcV k) /\ w'' = w') := by
  show ∀ w', _
  intro w'
  refine (inQ (k.size : Int) 1 12 w').mono ?_
  rintro e w2 ⟨rfl, rfl⟩
  exact ⟨_, rfl, by unfold qcV; simp; omega, rfl⟩
 have CH := hI (fun w' (hb : Below w.heap.size w w') => qhB ao l ca m k w' hl (hA.later hb))
 have F0 := hI (qdI w #[.int .i64 m, .slice ao l.length ca] #[.int .i64 0, .slice none 0 0] 32 32)
 have HA := hI hA
 clear hA
 go_enter Tryz.func44, Tryz.ntmps44
 go_wp2_with fail
 generalize ((w.alloc (.cells #[.int .i64 m, .slice ao l.length ca] 32)).alloc (.cells #[.int .i64 0, .slice none 0 0] 32)) = w0 at F0 ⊢
 obtain ⟨K0, R0, B0⟩ := F0.out
 have K0 := hI K0
 have R0 := hI R0
 have B0 := hI B0
 clear F0
 refine (CO.out w0 B0.out).mono ?_
 rintro e w1 ⟨x, rfl, hx, hb1⟩
 have K1 := bRn K0 hb1
 have R1 := bRn R0 hb1
 have B1 := tRn B0 hb1
 clear hb1 CO K0 R0 B0
 rcases x with _ | _
 ·have HN := hI (qfS (l := l) (m := m) (k := k) (fun h => by have := hx.2 h.1; cases this))
  have y0 : w1.cell? ⟨w.heap.size + 1, 0, none⟩ = _ := cRn (R1.out.cell 0) rfl
  have y1 : w1.cell? ⟨w.heap.size + 1, 1, none⟩ = _ := cRn (R1.out.cell 1) rfl
  have yf (j) : w1.frozen? ⟨w.heap.size + 1, j, none⟩ = false := R1.out.froz j
  have HH := hI (Blk.set (Blk.set R1.out 0 (.int .i64 0)) 1 (.slice none 0 0))
  clear hx CF CH
  go_wp2
  refine bodyPost_ret (qeO Tryz.results44 _ _ (w.heap.size + 1) 32 #[.int .i64 0, .slice none 0 0] (0, 0) _ rfl HH.out Tryz.underlying32 rfl (by kernel_rfl)) rfl ?_
  rw [HN.out]
  exact ⟨_, rfl, MadeQ.no B1.out (by omega) _ _⟩
 have HOK := hI (hx.1 rfl)
 clear hx
 go_wp2_with fail
 refine (CF.out w1).mono ?_
 rintro e w1' ⟨x, rfl, hx, hw⟩
 have hw2 := hw.symm
 clear hw
 subst hw2
 rcases x with _ | _
 ·have HN := hI (qfS (l := l) (m := m) (k := k) (fun h => by have := hx.2 h.2.1; cases this))
  have y0 : w1.cell? ⟨w.heap.size + 1, 0, none⟩ = _ := cRn (R1.out.cell 0) rfl
  have y1 : w1.cell? ⟨w.heap.size + 1, 1, none⟩ = _ := cRn (R1.out.cell 1) rfl
  have yf (j) : w1.frozen? ⟨w.heap.size + 1, j, none⟩ = false := R1.out.froz j
  have HH := hI (Blk.set (Blk.set R1.out 0 (.int .i64 0)) 1 (.slice none 0 0))
  clear hx CF CH
  go_wp2
  refine bodyPost_ret (qeO Tryz.results44 _ _ (w.heap.size + 1) 32 #[.int .i64 0, .slice none 0 0] (0, 0) _ rfl HH.out Tryz.underlying32 rfl (by kernel_rfl)) rfl ?_
  rw [HN.out]
  exact ⟨_, rfl, MadeQ.no B1.out (by omega) _ _⟩
 have HKQ := hI (hx.1 rfl)
 clear hx CF
 have x0 : w1.cell? ⟨w.heap.size, 0, none⟩ = _ := cRn (K1.out.cell 0) rfl
 have x1 : w1.cell? ⟨w.heap.size, 1, none⟩ = _ := cRn (K1.out.cell 1) rfl
 go_wp2_with fail
 refine (CH.out w1 B1.out).mono ?_
 rintro e w2 ⟨rfl, hb2⟩
 have K2 := bRn K1 hb2
 have R2 := bRn R1 hb2
 have B2 := tRn B1 hb2
 clear hb2 CH K1 R1 B1 x0 x1
 rcases hq : qeG l k with _ | _
 rotate_left
 ·have HN := hI (qfS (l := l) (m := m) (k := k) (fun h => h.2.2.1 ((qaF l k).1 hq)))
  have y0 : w2.cell? ⟨w.heap.size + 1, 0, none⟩ = _ := cRn (R2.out.cell 0) rfl
  have y1 : w2.cell? ⟨w.heap.size + 1, 1, none⟩ = _ := cRn (R2.out.cell 1) rfl
  have yf (j) : w2.frozen? ⟨w.heap.size + 1, j, none⟩ = false := R2.out.froz j
  have HH := hI (Blk.set (Blk.set R2.out 0 (.int .i64 0)) 1 (.slice none 0 0))
  clear hq
  go_wp2
  refine bodyPost_ret (qeO Tryz.results44 _ _ (w.heap.size + 1) 32 #[.int .i64 0, .slice none 0 0] (0, 0) _ rfl HH.out Tryz.underlying32 rfl (by kernel_rfl)) rfl ?_
  rw [HN.out]
  exact ⟨_, rfl, MadeQ.no B2.out (by omega) _ _⟩
 have HNK := hI (show ¬ k ∈ l from fun h => by rw [(qaF l k).2 h] at hq; cases hq)
 clear hq
 have x0 : w2.cell? ⟨w.heap.size, 0, none⟩ = _ := cRn (K2.out.cell 0) rfl
 have x1 : w2.cell? ⟨w.heap.size, 1, none⟩ = _ := cRn (K2.out.cell 1) rfl
 by_cases hm : m = 0
 ·subst hm
  have HN := hI (qfS (l := l) (m := 0) (k := k) (fun h => h.2.2.2 rfl))
  have y0 : w2.cell? ⟨w.heap.size + 1, 0, none⟩ = _ := cRn (R2.out.cell 0) rfl
  have y1 : w2.cell? ⟨w.heap.size + 1, 1, none⟩ = _ := cRn (R2.out.cell 1) rfl
  have yf (j) : w2.frozen? ⟨w.heap.size + 1, j, none⟩ = false := R2.out.froz j
  have HH := hI (Blk.set (Blk.set R2.out 0 (.int .i64 0)) 1 (.slice none 0 0))
  skip
  go_wp2
  refine bodyPost_ret (qeO Tryz.results44 _ _ (w.heap.size + 1) 32 #[.int .i64 0, .slice none 0 0] (0, 0) _ rfl HH.out Tryz.underlying32 rfl (by kernel_rfl)) rfl ?_
  rw [HN.out]
  exact ⟨_, rfl, MadeQ.no B2.out (by omega) _ _⟩
 have qm : (m == 0) = false := by simpa using hm
 have HP := hI (show PshQ l m k from ⟨HOK.out, HKQ.out, HNK.out, hm⟩)
 have HY := hI (qcC HP.out)
 obtain ⟨mn, hmn⟩ : ∃ mn : Nat, m = (mn : Int) := ⟨m.toNat, by have := HOK.out.1; omega⟩
 have hmb : mn <= 24 := by have := HOK.out.2.1; omega
 have HMT := hI (show m.toNat = mn by omega)
 rw [HMT.out] at HY
 have hsm := HOK.out.small
 obtain ⟨KL, hKL⟩ : ∃ KL, k :: l = KL := ⟨_, rfl⟩
 have HKL := hI (show [k] ++ l = KL from hKL)
 have hln : KL.length = 1 + l.length := by rw [<- hKL, List.length_cons, Nat.add_comm]
 have hll : l.length <= mn := by have := HOK.out.2.2.1; omega
 rw [hKL] at HY
 clear hKL
 have hs0 : w.heap.size < w2.heap.size := K2.out.lt
 have hs1 : w.heap.size + 1 < w2.heap.size := R2.out.lt
 have RA := hI (fun o => HA.out.later (B2.out.trans ((bAl w2 o).mono B2.out.size)))
 clear hm HMT
 subst hmn
 obtain ⟨TK, hTK⟩ : ∃ TK, KL.take mn = TK := ⟨_, rfl⟩
 obtain ⟨lf, hlf⟩ : ∃ lf, KL.getD mn ⟨#[]⟩ = lf := ⟨_, rfl⟩
 rw [hTK, hlf] at HY
 have HTL := hI (show TK.length <= 25 by rw [<- hTK, List.length_take]; omega)
 by_cases cm : l.length = mn
 ·have hn1 : mn < KL.length := by omega
  have HTN := hI (show TK.length = mn by rw [<- hTK, List.length_take]; omega)
  have HLN := hI (show 1 + l.length = mn + 1 by omega)
  have HG := hI (show KL[mn] = lf by rw [<- hlf, List.getD_eq_getElem?_getD, List.getElem?_eq_getElem hn1]; rfl)
  have HTK := hI hTK
  have k1 : decide ((mn : Int) < (mn : Int) + 1) = true := decide_eq_true (by omega)
  have k2 : (mn : Int) < (mn : Int) + 1 := by omega
  clear hTK hlf hln cm hll
  go_wp2_with (at_builtin; (refine qbV rfl _ _ 30 rfl Tryz.underlying30 w2.heap.size _ 1 [k] rfl (zcA k (Nat.le_refl _)) ao _ ca l rfl rfl (RA.out _) (by omega) (by rw [World.size_alloc]; omega) ?_; intro v' w3 ho3 hg3; have D3 : Hid (Below w2.heap.size w2 w3) := (bAl w2 _).trans (qaU (B := w2.heap.size) hg3 (fun g hg => ((zcA (base := w2.heap.size) k (Nat.le_refl _)).lt g hg).1) (by rw [World.size_alloc]; omega)); rw [HKL.out, HLN.out] at ho3; obtain ⟨b3, c3, hv3⟩ := qbW ho3; subst hv3; have O3 := hI (qeV ho3); have k3 : (mn : Int) <= (c3 : Int) := (by have := (qxP ho3).1; omega); obtain ⟨g3, o3, hb3, _, hc3⟩ := O3.out mn hn1; subst hb3; rw [HG.out] at hc3; have z0 : w3.cell? ⟨w.heap.size, 0, none⟩ = some (.int .i64 (mn : Int)) := (D3.out.cell hs0).trans x0; clear ho3 hg3))
  have RT : Hid (RdQ w3 _ TK) := hI (by have := O3.out.take mn; rw [HTK.out] at this; exact this)
  have X : Hid (w3.cell? ⟨w.heap.size, 0, none⟩ = some (.int .i64 (mn : Int))) := z0
  have hs3 : w2.heap.size <= w3.heap.size := D3.out.size
  have R3 := hI (R2.out.below D3.out hs1)
  have B3 := hI (B2.out.trans (D3.out.mono B2.out.size))
  have h03 : w.heap.size < w3.heap.size := by omega
  have h13 : w.heap.size + 1 < w3.heap.size := by omega
  go_region_held3 (fun w' => w'.cell? ⟨w.heap.size, 0, none⟩ = some (.int .i64 (mn : Int))) (first | go_keep | exact (D5.out.cell h03).trans X.out) ((refine qkT rfl (.tmp 52) (.tmp 53) 30 rfl Tryz.underlying30 w3.heap.size _ 0 [] rfl (by first | exact qbB w3 9 | exact qbB w3.drew 9) _ _ _ TK rfl (by first | rfl | exact HTN.out) (RT.out.later (by go_grown)) (by have := HTL.out; first | omega | (have := HTN.out; omega)) (by go_size) ?_; intro b5 c5 w5 ho5 hb5; have D5 : Hid (Below w3.heap.size w3 w5) := (show Below w3.heap.size w3 _ by go_grown).trans hb5; rw [List.nil_append] at ho5 ⊢; have O5 : Hid (OwnQ w5 w3.heap.size b5 c5 TK) := hI ho5; clear ho5 hb5; have r5 := R3.out.below D5.out h13; have y0 : w5.cell? ⟨w.heap.size + 1, 0, none⟩ = some (.int .i64 0) := r5.cell 0; have y1 : w5.cell? ⟨w.heap.size + 1, 1, none⟩ = some (.slice none 0 0) := r5.cell 1; have yf : ∀ j, w5.frozen? ⟨w.heap.size + 1, j, none⟩ = false := fun j => r5.froz j; have R5 := hI r5; clear r5))
  all_goals go_wp2
  all_goals
   have HH := hI (Blk.set (Blk.set R5.out 0 (.int .i64 (mn : Int))) 1 (.slice b5 TK.length c5))
   refine bodyPost_ret (qeO Tryz.results44 _ _ (w.heap.size + 1) 32 #[.int .i64 (mn : Int), .slice b5 TK.length c5] (0, 0) _ rfl HH.out Tryz.underlying32 rfl (by kernel_rfl)) rfl ?_
   rw [HY.out]
   exact ⟨_, rfl, MadeQ.yes (r := w.heap.size + 1) B3.out (by omega) h13 O5.out D5.out _ _⟩
 ·have hkl : KL.length <= mn := by omega
  have e1 : TK = KL := by rw [<- hTK, List.take_of_length_le hkl]
  have e2 : lf = ⟨#[]⟩ := by rw [<- hlf, List.getD_eq_getElem?_getD, List.getElem?_eq_none hkl]; rfl
  subst e1 e2
  have HLN := hI (show 1 + l.length = TK.length by omega)
  have HTK := hI hTK
  have k1 : ¬ mn < TK.length := by omega
  clear hTK hlf cm hln hkl hll
  go_wp2_with (at_builtin; (refine qbV rfl _ _ 30 rfl Tryz.underlying30 w2.heap.size _ 1 [k] rfl (zcA k (Nat.le_refl _)) ao _ ca l rfl rfl (RA.out _) (by omega) (by rw [World.size_alloc]; omega) ?_; intro v' w3 ho3 hg3; have D3 : Hid (Below w2.heap.size w2 w3) := (bAl w2 _).trans (qaU (B := w2.heap.size) hg3 (fun g hg => ((zcA (base := w2.heap.size) k (Nat.le_refl _)).lt g hg).1) (by rw [World.size_alloc]; omega)); rw [HKL.out, HLN.out] at ho3; obtain ⟨b3, c3, hv3⟩ := qbW ho3; subst hv3; have O3 := hI (qeV ho3); have z0 : w3.cell? ⟨w.heap.size, 0, none⟩ = some (.int .i64 (mn : Int)) := (D3.out.cell hs0).trans x0; clear ho3 hg3))
  have RT : Hid (RdQ w3 _ TK) := hI (by have := O3.out.take mn; rw [HTK.out] at this; exact this)
  have X : Hid (w3.cell? ⟨w.heap.size, 0, none⟩ = some (.int .i64 (mn : Int))) := z0
  have hs3 : w2.heap.size <= w3.heap.size := D3.out.size
  have R3 := hI (R2.out.below D3.out hs1)
  have B3 := hI (B2.out.trans (D3.out.mono B2.out.size))
  have h03 : w.heap.size < w3.heap.size := by omega
  have h13 : w.heap.size + 1 < w3.heap.size := by omega
  go_region_held3 (fun w' => w'.cell? ⟨w.heap.size, 0, none⟩ = some (.int .i64 (mn : Int))) (first | go_keep | exact (D5.out.cell h03).trans X.out) ((refine qkT rfl (.tmp 52) (.tmp 53) 30 rfl Tryz.underlying30 w3.heap.size _ 0 [] rfl (by first | exact qbB w3 9 | exact qbB w3.drew 9) _ _ _ TK rfl (by first | rfl | exact HTN.out) (RT.out.later (by go_grown)) (by have := HTL.out; first | omega | (have := HTN.out; omega)) (by go_size) ?_; intro b5 c5 w5 ho5 hb5; have D5 : Hid (Below w3.heap.size w3 w5) := (show Below w3.heap.size w3 _ by go_grown).trans hb5; rw [List.nil_append] at ho5 ⊢; have O5 : Hid (OwnQ w5 w3.heap.size b5 c5 TK) := hI ho5; clear ho5 hb5; have r5 := R3.out.below D5.out h13; have y0 : w5.cell? ⟨w.heap.size + 1, 0, none⟩ = some (.int .i64 0) := r5.cell 0; have y1 : w5.cell? ⟨w.heap.size + 1, 1, none⟩ = some (.slice none 0 0) := r5.cell 1; have yf : ∀ j, w5.frozen? ⟨w.heap.size + 1, j, none⟩ = false := fun j => r5.froz j; have R5 := hI r5; clear r5))
  all_goals go_wp2
  all_goals
   have HH := hI (Blk.set (Blk.set R5.out 0 (.int .i64 (mn : Int))) 1 (.slice b5 TK.length c5))
   refine bodyPost_ret (qeO Tryz.results44 _ _ (w.heap.size + 1) 32 #[.int .i64 (mn : Int), .slice b5 TK.length c5] (0, 0) _ rfl HH.out Tryz.underlying32 rfl (by kernel_rfl)) rfl ?_
   rw [HY.out]
   exact ⟨_, rfl, MadeQ.yes (r := w.heap.size + 1) B3.out (by omega) h13 O5.out D5.out _ _⟩
theorem qbH (ao : Option Addr) (l : List ByteArray) (ca : Nat) (m : Int) (k : ByteArray) (w : World) (hl : l.length <= 1048576) (hA : RdQ w ao l) {L : List ByteArray} {M : Int} {t : Bool} (hR : touR l m k = ((L, M), t)) :
  Calls Tryz.prog 95 #[.agg #[.int .i64 m, .slice ao l.length ca], .string k] w fun e w' => ∃ po cp, e = .returned (.tuple #[.agg #[.int .i64 M, .slice po L.length cp], .bool t]) /\ OwnQ w' w.heap.size po cp L /\ Below w.heap.size w w' := by
 have := qnS ao l ca m k w hl hA
 rw [hR] at this
 refine this.mono ?_
 rintro e w' ⟨v, rfl, po, cp, rfl, ho, hb⟩
 exact ⟨po, cp, rfl, ho, hb⟩
theorem qjM (ao : Option Addr) (l : List ByteArray) (ca : Nat) (m : Int) (k : ByteArray) (w : World) (hl : l.length <= 1048576) (hA : RdQ w ao l) {L : List ByteArray} {M : Int} {t : Bool} (hR : drpR l m k = ((L, M), t)) :
  Calls Tryz.prog 96 #[.agg #[.int .i64 m, .slice ao l.length ca], .string k] w fun e w' => ∃ po cp, e = .returned (.tuple #[.agg #[.int .i64 M, .slice po L.length cp], .bool t]) /\ OwnQ w' w.heap.size po cp L /\ Below w.heap.size w w' := by
 have := qqD ao l ca m k w hl hA
 rw [hR] at this
 refine this.mono ?_
 rintro e w' ⟨v, rfl, po, cp, rfl, ho, hb⟩
 exact ⟨po, cp, rfl, ho, hb⟩
theorem qbZ (ao : Option Addr) (l : List ByteArray) (ca : Nat) (m : Int) (k : ByteArray) (w : World) (hl : l.length <= 1048576) (hA : RdQ w ao l) {L : List ByteArray} {M : Int} {lf : ByteArray} {t : Bool} (hR : pshR l m k = ((L, M), lf, t)) :
  Calls Tryz.prog 44 #[.agg #[.int .i64 m, .slice ao l.length ca], .string k] w fun e w' => ∃ po cp, e = .returned (.tuple #[.agg #[.int .i64 M, .slice po L.length cp], .string lf, .bool t]) /\ OwnQ w' w.heap.size po cp L /\ Below w.heap.size w w' := by
 have := qpT ao l ca m k w hl hA
 rw [hR] at this
 refine this.mono ?_
 rintro e w' ⟨v, rfl, po, cp, rfl, ho, hb⟩
 exact ⟨po, cp, rfl, ho, hb⟩
theorem qfJ (ao : Option Addr) (l : List ByteArray) (ca : Nat) (m : Int) (k : ByteArray) (w : World) (hl : l.length <= 1048576) (hc : l.length <= ca) (hcm : ca <= maxLen) (hA : RdQ w ao l) {L : List ByteArray} {M : Int} {t : Bool} (hR : touR l m k = ((L, M), t)) :
  Calls Tryz.prog 129 #[.agg #[.int .i64 m, .slice ao l.length ca], .string k] w fun e w' => ∃ po cp, e = .returned (.tuple #[.agg #[.int .i64 M, .slice po L.length cp], .bool t]) /\ OwnQ w' w.heap.size po cp L /\ Below w.heap.size w w' := by
 have := qoI ao l ca m k w hl hc hcm hA
 rw [hR] at this
 refine this.mono ?_
 rintro e w' ⟨v, rfl, po, cp, rfl, ho, hb⟩
 exact ⟨po, cp, rfl, ho, hb⟩
theorem qrR (ao : Option Addr) (l : List ByteArray) (ca : Nat) (m : Int) (k : ByteArray) (w : World) (hl : l.length <= 1048576) (hc : l.length <= ca) (hcm : ca <= maxLen) (hA : RdQ w ao l) {L : List ByteArray} {M : Int} {t : Bool} (hR : drpR l m k = ((L, M), t)) :
  Calls Tryz.prog 165 #[.agg #[.int .i64 m, .slice ao l.length ca], .string k] w fun e w' => ∃ po cp, e = .returned (.tuple #[.agg #[.int .i64 M, .slice po L.length cp], .bool t]) /\ OwnQ w' w.heap.size po cp L /\ Below w.heap.size w w' := by
 have := qrS ao l ca m k w hl hc hcm hA
 rw [hR] at this
 refine this.mono ?_
 rintro e w' ⟨v, rfl, po, cp, rfl, ho, hb⟩
 exact ⟨po, cp, rfl, ho, hb⟩
theorem qcA (ao : Option Addr) (l : List ByteArray) (ca : Nat) (m : Int) (k : ByteArray) (w : World) (hl : l.length <= 1048576) (hc : l.length <= ca) (hcm : ca <= maxLen) (hA : RdQ w ao l) {L : List ByteArray} {M : Int} {lf : ByteArray} {t : Bool} (hR : pshR l m k = ((L, M), lf, t)) :
  Calls Tryz.prog 74 #[.agg #[.int .i64 m, .slice ao l.length ca], .string k] w fun e w' => ∃ po cp, e = .returned (.tuple #[.agg #[.int .i64 M, .slice po L.length cp], .string lf, .bool t]) /\ OwnQ w' w.heap.size po cp L /\ Below w.heap.size w w' := by
 have := qrH ao l ca m k w hl hc hcm hA
 rw [hR] at this
 refine this.mono ?_
 rintro e w' ⟨v, rfl, po, cp, rfl, ho, hb⟩
 exact ⟨po, cp, rfl, ho, hb⟩
end Go.Proofs.YtigpjmmfelndkaaGreatDoor
