/- The program's Touch, Drop and Push. -/
import Derived.Test.YtjgiobdpbbhekaaGreatXQI
namespace Go.Proofs.YtjgiobdpbbhekaaGreat
open Go.RowKit

theorem resQ3 {P : Program} {fn : Func} {p u v : Tmp} {ty : TypeId} (h : fn.results = #[.cell p ty, .tmp u, .tmp v]) (tmps : Array Value) (w : World) (g : Nat) (t : TypeId) (cs : Array Value) (fr : Nat × Nat) (d : TypeDesc)
    (hp : tmps.getD p undef = .pointer (some ⟨g, 0, none⟩)) (hg : w.heap[g]? = some (.cells cs t fr))
    (hu : P.underlying ty = some d) (hd : (match d with | .struct _ | .array _ _ => true | _ => false) = true) (hi : (P.info? ty).map (·.size) = some cs.size) :
    (results fn tmps).run P w = .ok (.tuple #[.agg cs, tmps.getD u undef, tmps.getD v undef]) w := by
  have hp' : tmps[p]?.getD undef = .pointer (some ⟨g, 0, none⟩) := by simpa using hp
  simp [results, h, hp', asAddr, run_loadVar_row w g t ty cs fr d hg hu hd hi]
theorem resQ2 {P : Program} {fn : Func} {p u : Tmp} {ty : TypeId} (h : fn.results = #[.cell p ty, .tmp u]) (tmps : Array Value) (w : World) (g : Nat) (t : TypeId) (cs : Array Value) (fr : Nat × Nat) (d : TypeDesc)
    (hp : tmps.getD p undef = .pointer (some ⟨g, 0, none⟩)) (hg : w.heap[g]? = some (.cells cs t fr))
    (hu : P.underlying ty = some d) (hd : (match d with | .struct _ | .array _ _ => true | _ => false) = true) (hi : (P.info? ty).map (·.size) = some cs.size) :
    (results fn tmps).run P w = .ok (.tuple #[.agg cs, tmps.getD u undef]) w := by
  have hp' : tmps[p]?.getD undef = .pointer (some ⟨g, 0, none⟩) := by simpa using hp
  simp [results, h, hp', asAddr, run_loadVar_row w g t ty cs fr d hg hu hd hi]
theorem MadeQ.no {w w1 : World} {r : Nat} (hB : Below w.heap.size w w1) (hr : w.heap.size ≤ r) (x y : Value) :
    MadeQ w ((w1.setCell ⟨r, 0, none⟩ x).setCell ⟨r, 1, none⟩ y) (.agg #[.int .i64 0, .slice none 0 0]) ([], 0) :=
  ⟨none, 0, rfl, World.ownsRow_nil _ _ _ _, (hB.setCell (p := ⟨r, 0, none⟩) hr _).setCell (p := ⟨r, 1, none⟩) hr _⟩
theorem MadeQ.yes {w w4 w5 : World} {r c : Nat} {b : Option Addr} {L : List ByteArray} {M : Int} (hB : Below w.heap.size w w4) (hr : w.heap.size ≤ r) (hr4 : r < w4.heap.size) (o1 : OwnQ w5 w4.heap.size b c L) (hb : Below w4.heap.size w4 w5) (x y : Value) :
    MadeQ w ((w5.setCell ⟨r, 0, none⟩ x).setCell ⟨r, 1, none⟩ y) (.agg #[.int .i64 M, .slice b L.length c]) (L, M) := by
  refine ⟨b, c, rfl, own_base (own_far (own_far o1 _ _ ?_) _ _ ?_) hB.size, ((hB.trans (hb.mono hB.size)).setCell (p := ⟨r, 0, none⟩) hr _).setCell (p := ⟨r, 1, none⟩) hr _⟩
  all_goals
    intro k hk
    have := (o1.lt k hk).1
    dsimp only
    omega

end Go.Proofs.YtjgiobdpbbhekaaGreat
namespace Go.Proofs.YtjgiobdpbbhekaaGreat
open Go.RowKit

set_option maxRecDepth 100000 in
set_option maxHeartbeats 2000000 in
theorem implDrop_any (ao : Option Addr) (l : List ByteArray) (ca : Nat) (m : Int) (k : ByteArray) (w : World) (hl : l.length ≤ 1048576) (hc : l.length ≤ ca) (hcm : ca ≤ maxLen) (hA : RdQ w ao l) :
    Calls Tryz.prog 38 #[.agg #[.int .i64 m, .slice ao l.length ca], .string k] w fun e w' => ∃ v, e = .returned (.tuple #[v, .bool (drpR l m k).2]) ∧ MadeQ w w' v (drpR l m k).1 := by
  have CO := hide1 (fun w' (hb : Below w.heap.size w w') => implQOk_any ao l ca m w' hl hc hcm (hA.later hb))
  have CH := hide1 (fun w' (hb : Below w.heap.size w w') => implHas_any ao l ca m k w' hl (hA.later hb))
  have CR := hide1 (fun w' => recentKeys_any ao l.length ca m w')
  have F0 := hide1 (blkN2 w #[.int .i64 m, .slice ao l.length ca] #[.int .i64 0, .slice none 0 0] 32 32)
  have HA := hide1 hA
  clear hA hc hcm
  go_enter Tryz.func38, Tryz.ntmps38
  go_wp2_with fail
  generalize ((w.alloc (.cells #[.int .i64 m, .slice ao l.length ca] 32)).alloc (.cells #[.int .i64 0, .slice none 0 0] 32)) = w0 at F0 ⊢
  obtain ⟨K0, R0, B0⟩ := F0.out
  have K0 := hide1 K0
  have R0 := hide1 R0
  have B0 := hide1 B0
  clear F0
  refine (CO.out w0 B0.out).mono ?_
  rintro e w1 ⟨x, rfl, hx, hb1⟩
  have K1 := hide1 (K0.out.below hb1 K0.out.lt)
  have R1 := hide1 (R0.out.below hb1 R0.out.lt)
  have B1 := hide1 (B0.out.trans (hb1.mono B0.out.size))
  clear hb1 CO K0 R0 B0
  rcases x with _ | _
  · have HN := hide1 (drpR_no (k := k) (fun h => by have := hx.2 h.1; cases this))
    have y0 : w1.cell? ⟨w.heap.size + 1, 0, none⟩ = some (.int .i64 0) := R1.out.cell 0
    have y1 : w1.cell? ⟨w.heap.size + 1, 1, none⟩ = some (.slice none 0 0) := R1.out.cell 1
    have yf : ∀ j, w1.frozen? ⟨w.heap.size + 1, j, none⟩ = false := fun j => R1.out.froz j
    have HH := hide1 (Blk.set (Blk.set R1.out 0 (.int .i64 0)) 1 (.slice none 0 0))
    clear hx
    go_wp2
    refine bodyPost_ret (resQ2 Tryz.results38 _ _ (w.heap.size + 1) 32 #[.int .i64 0, .slice none 0 0] (0, 0) _ rfl HH.out Tryz.underlying32 rfl (by kernel_rfl)) rfl ?_
    rw [HN.out]
    exact ⟨_, rfl, MadeQ.no B1.out (by omega) _ _⟩
  have HOK := hide1 (hx.1 rfl)
  clear hx
  have x0 : w1.cell? ⟨w.heap.size, 0, none⟩ = some (.int .i64 m) := K1.out.cell 0
  have x1 : w1.cell? ⟨w.heap.size, 1, none⟩ = some (.slice ao l.length ca) := K1.out.cell 1
  go_wp2_with fail
  refine (CH.out w1 B1.out).mono ?_
  rintro e w2 ⟨rfl, hb2⟩
  have K2 := hide1 (K1.out.below hb2 K1.out.lt)
  have R2 := hide1 (R1.out.below hb2 R1.out.lt)
  have B2 := hide1 (B1.out.trans (hb2.mono B1.out.size))
  clear hb2 CH K1 R1 B1 x0 x1
  rcases hq : hasQ l k with _ | _
  · have HN := hide1 (drpR_no (l := l) (m := m) (k := k) (fun h => by rw [(hasQ_iff l k).2 h.2] at hq; cases hq))
    have y0 : w2.cell? ⟨w.heap.size + 1, 0, none⟩ = some (.int .i64 0) := R2.out.cell 0
    have y1 : w2.cell? ⟨w.heap.size + 1, 1, none⟩ = some (.slice none 0 0) := R2.out.cell 1
    have yf : ∀ j, w2.frozen? ⟨w.heap.size + 1, j, none⟩ = false := fun j => R2.out.froz j
    have HH := hide1 (Blk.set (Blk.set R2.out 0 (.int .i64 0)) 1 (.slice none 0 0))
    clear hq
    go_wp2
    refine bodyPost_ret (resQ2 Tryz.results38 _ _ (w.heap.size + 1) 32 #[.int .i64 0, .slice none 0 0] (0, 0) _ rfl HH.out Tryz.underlying32 rfl (by kernel_rfl)) rfl ?_
    rw [HN.out]
    exact ⟨_, rfl, MadeQ.no B2.out (by omega) _ _⟩
  have HY := hide1 (drpR_yes HOK.out ((hasQ_iff l k).1 hq))
  have hsm := HOK.out.small
  have hwl := wthQ_length l k
  have hlen : (wthQ l k).length ≤ 25 := by omega
  clear hq
  have x0 : w2.cell? ⟨w.heap.size, 0, none⟩ = some (.int .i64 m) := K2.out.cell 0
  have x1 : w2.cell? ⟨w.heap.size, 1, none⟩ = some (.slice ao l.length ca) := K2.out.cell 1
  have X := hide1 (And.intro x0 x1)
  have hs0 : w.heap.size < w2.heap.size := K2.out.lt
  have hs1 : w.heap.size + 1 < w2.heap.size := R2.out.lt
  have CA := hide1 (fun w' (hb : Below w2.heap.size w2 w') => withoutR_any ao l ca k w' (by omega) (HA.out.later (B2.out.trans (hb.mono B2.out.size))))
  go_wp2_with fail
  go_region_held3 (fun w' => w'.cell? ⟨w.heap.size, 0, none⟩ = some (.int .i64 m) ∧ w'.cell? ⟨w.heap.size, 1, none⟩ = some (.slice ao l.length ca)) (first | go_keep | exact ⟨(D5.out.cell hs0).trans X.out.1, (D5.out.cell hs0).trans X.out.2⟩ | exact ⟨(D4.out.cell hs0).trans X.out.1, (D4.out.cell hs0).trans X.out.2⟩ | exact ⟨(D3.out.cell hs0).trans X.out.1, (D3.out.cell hs0).trans X.out.2⟩) ((first | (go_at_call 80; refine (CQ.out _ (by go_grown)).mono ?_; rintro e w5 ⟨b5, c5, rfl, ho5, hb5⟩; have D5 : Hid (Below w2.heap.size w2 w5) := (D4.out.trans (show Below w2.heap.size w4 _ by go_grown)).trans (hb5.mono (by have := D4.out.size; go_size)); have O5 : Hid (OwnQ w5 w2.heap.size b5 c5 (wthQ l k)) := hide1 (ho5.base (by have := D4.out.size; go_size)); clear ho5 hb5; have r5 := R2.out.below D5.out hs1; have y0 : w5.cell? ⟨w.heap.size + 1, 0, none⟩ = some (.int .i64 0) := r5.cell 0; have y1 : w5.cell? ⟨w.heap.size + 1, 1, none⟩ = some (.slice none 0 0) := r5.cell 1; have yf : ∀ j, w5.frozen? ⟨w.heap.size + 1, j, none⟩ = false := fun j => r5.froz j; have R5 := hide1 r5; clear r5) | (go_at_call 81; refine (CA.out _ (D3.out.trans (show Below w2.heap.size w3 _ by go_grown))).mono ?_; rintro e w4 ⟨b4, c4, rfl, ho4, hb4⟩; have D4 : Hid (Below w2.heap.size w2 w4) := (D3.out.trans (show Below w2.heap.size w3 _ by go_grown)).trans (hb4.mono (by have := D3.out.size; go_size)); have CQ := hide1 (fun w' (hb : Below w4.heap.size w4 w') => queueOf_any b4 (wthQ l k) (wthQ l k).length c4 m w' rfl (by omega) (ho4.rd.later hb)); clear ho4 hb4) | (go_at_call 78; refine (CR.out _).mono ?_; rintro e w3 ⟨rfl, hb3⟩; have D3 : Hid (Below w2.heap.size w2 w3) := (show Below w2.heap.size w2 _ by go_grown).trans (hb3.mono (by go_size)); clear hb3)))
  all_goals go_wp2
  all_goals
    have HH := hide1 (Blk.set (Blk.set R5.out 0 (.int .i64 m)) 1 (.slice b5 (wthQ l k).length c5))
    refine bodyPost_ret (resQ2 Tryz.results38 _ _ (w.heap.size + 1) 32 #[.int .i64 m, .slice b5 (wthQ l k).length c5] (0, 0) _ rfl HH.out Tryz.underlying32 rfl (by kernel_rfl)) rfl ?_
    rw [HY.out]
    exact ⟨_, rfl, MadeQ.yes (r := w.heap.size + 1) B2.out (by omega) hs1 O5.out D5.out _ _⟩
end Go.Proofs.YtjgiobdpbbhekaaGreat
