/- The model's Touch, Drop and Push. -/
import Derived.Test.YtaafofgfeaodhaaQuK2
import Derived.Test.YtaafofgfeaodhaaQuS
namespace Go.Proofs.Ytaafofgfeaodhaa
open Go.RowKit

theorem step_appB {ops : Array Oper} {o : Oper} {a : Act} {w : World} {K : Act → World → Prop} {Q : Exit → Act → World → Prop} {E : Prop} (hgd : o.guard = none) (s x : Operand) (t : TypeId)
    (ho : o.op = .call { callee := .builtin .append, args := #[s, x], argTypes := #[t, t] }) (ht : Try.prog.underlying t = some (.slice 9)) (base : Nat) (v : Value) (n : Nat) (l1 : List ByteArray) (hs : a.eval s = v) (hown : w.ownsRow base 9 1 v n (sc l1)) (ao : Option Addr) (m c : Nat) (l2 : List ByteArray) (hx : a.eval x = .slice ao m c) (hm : l2.length = m) (hA : RdQ w ao l2) (hlen : n + m ≤ 1048576) (hbase : base ≤ w.heap.size)
    (h : ∀ b' c' w', OwnQ w' base b' c' (l1 ++ l2) → Below base w w' → K (a.put o.dst (.slice b' (l1 ++ l2).length c')) w') :
    if Region.wanted o (yielded ops a.tmps) = true then Oper.wp Try.prog o a w K Q else E := by
  refine step_appQ hgd s x t ho ht base v n l1 hs hown ao m c l2 hx hm hA hlen hbase ?_
  intro v' w' h1 h2
  have hl1 : l1.length = n := by have := hown.1; rw [qc_length] at this; omega
  have e : n + m = (l1 ++ l2).length := by rw [List.length_append, hl1, hm]
  rw [e] at h1
  obtain ⟨b', c', rfl⟩ := own_slice h1
  exact h b' c' w' h1 (gbelow h2 (fun g hg => (hown.lt g hg).1) hbase)
theorem litQ {w : World} {base : Nat} (k : ByteArray) (hb : base ≤ w.heap.size) : (w.alloc (.cells #[.string k] 9)).ownsRow base 9 1 (.slice (some ⟨w.heap.size, 0, none⟩) 1 1) 1 (sc [k]) :=
  World.ownsRow_lit w #[.string k] 1 hb (by unfold maxLen; omega) rfl
theorem litQ_drew {w : World} {base : Nat} (k : ByteArray) (hb : base ≤ w.heap.size) : (w.drew.alloc (.cells #[.string k] 9)).ownsRow base 9 1 (.slice (some ⟨w.heap.size, 0, none⟩) 1 1) 1 (sc [k]) :=
  litQ (w := w.drew) k hb

set_option maxRecDepth 100000 in
set_option maxHeartbeats 2000000 in
theorem specDrop_any (ao : Option Addr) (l : List ByteArray) (ca : Nat) (m : Int) (k : ByteArray) (w : World) (hl : l.length ≤ 1048576) (hA : RdQ w ao l) :
    Calls Try.prog 28 #[.agg #[.int .i64 m, .slice ao l.length ca], .string k] w fun e w' => ∃ v, e = .returned (.tuple #[v, .bool (drpR l m k).2]) ∧ MadeQ w w' v (drpR l m k).1 := by
  have CO := hide1 (fun w' (hb : Below w.heap.size w w') => specQOk_any ao l ca m w' hl (hA.later hb))
  have CH := hide1 (fun w' (hb : Below w.heap.size w w') => specHas_any ao l ca m k w' hl (hA.later hb))
  have F0 := hide1 (blkN2 w #[.int .i64 m, .slice ao l.length ca] #[.int .i64 0, .slice none 0 0] 26 26)
  have HA := hide1 hA
  clear hA
  go_enter Try.func28, Try.ntmps28
  go_wp2_with fail
  generalize ((w.alloc (.cells #[.int .i64 m, .slice ao l.length ca] 26)).alloc (.cells #[.int .i64 0, .slice none 0 0] 26)) = w0 at F0 ⊢
  obtain ⟨K0, R0, B0⟩ := F0.out
  have K0 := hide1 K0
  have R0 := hide1 R0
  have B0 := hide1 B0
  clear F0
  refine (CO.out w0 B0.out).mono ?_
  rintro e w1 ⟨x, rfl, hx, hb1⟩
  have K1 := hide1 (K0.out.below hb1 K0.out.lt)
  have R1 := hide1 (R0.out.below hb1 R0.out.lt)
  have B1 := hide1 (B0.out.trans (hb1.mono B0.out.size))
  clear hb1 CO K0 R0 B0
  rcases x with _ | _
  · have HN := hide1 (drpR_no (k := k) (fun h => by have := hx.2 h.1; cases this))
    have y0 : w1.cell? ⟨w.heap.size + 1, 0, none⟩ = some (.int .i64 0) := R1.out.cell 0
    have y1 : w1.cell? ⟨w.heap.size + 1, 1, none⟩ = some (.slice none 0 0) := R1.out.cell 1
    have yf : ∀ j, w1.frozen? ⟨w.heap.size + 1, j, none⟩ = false := fun j => R1.out.froz j
    have HH := hide1 (Blk.set (Blk.set R1.out 0 (.int .i64 0)) 1 (.slice none 0 0))
    clear hx
    go_wp2
    refine bodyPost_ret (resQ2 Try.results28 _ _ (w.heap.size + 1) 26 #[.int .i64 0, .slice none 0 0] (0, 0) _ rfl HH.out Try.underlying26 rfl (by kernel_rfl)) rfl ?_
    rw [HN.out]
    exact ⟨_, rfl, MadeQ.no B1.out (by omega) _ _⟩
  have HOK := hide1 (hx.1 rfl)
  clear hx
  have x0 : w1.cell? ⟨w.heap.size, 0, none⟩ = some (.int .i64 m) := K1.out.cell 0
  have x1 : w1.cell? ⟨w.heap.size, 1, none⟩ = some (.slice ao l.length ca) := K1.out.cell 1
  go_wp2_with fail
  refine (CH.out w1 B1.out).mono ?_
  rintro e w2 ⟨rfl, hb2⟩
  have K2 := hide1 (K1.out.below hb2 K1.out.lt)
  have R2 := hide1 (R1.out.below hb2 R1.out.lt)
  have B2 := hide1 (B1.out.trans (hb2.mono B1.out.size))
  clear hb2 CH K1 R1 B1 x0 x1
  rcases hq : hasQ l k with _ | _
  · have HN := hide1 (drpR_no (l := l) (m := m) (k := k) (fun h => by rw [(hasQ_iff l k).2 h.2] at hq; cases hq))
    have y0 : w2.cell? ⟨w.heap.size + 1, 0, none⟩ = some (.int .i64 0) := R2.out.cell 0
    have y1 : w2.cell? ⟨w.heap.size + 1, 1, none⟩ = some (.slice none 0 0) := R2.out.cell 1
    have yf : ∀ j, w2.frozen? ⟨w.heap.size + 1, j, none⟩ = false := fun j => R2.out.froz j
    have HH := hide1 (Blk.set (Blk.set R2.out 0 (.int .i64 0)) 1 (.slice none 0 0))
    clear hq
    go_wp2
    refine bodyPost_ret (resQ2 Try.results28 _ _ (w.heap.size + 1) 26 #[.int .i64 0, .slice none 0 0] (0, 0) _ rfl HH.out Try.underlying26 rfl (by kernel_rfl)) rfl ?_
    rw [HN.out]
    exact ⟨_, rfl, MadeQ.no B2.out (by omega) _ _⟩
  have HY := hide1 (drpR_yes HOK.out ((hasQ_iff l k).1 hq))
  have hsm := HOK.out.small
  have hwl := wthQ_length l k
  clear hq
  have x0 : w2.cell? ⟨w.heap.size, 0, none⟩ = some (.int .i64 m) := K2.out.cell 0
  have x1 : w2.cell? ⟨w.heap.size, 1, none⟩ = some (.slice ao l.length ca) := K2.out.cell 1
  have X := hide1 (And.intro x0 x1)
  have hs0 : w.heap.size < w2.heap.size := K2.out.lt
  have hs1 : w.heap.size + 1 < w2.heap.size := R2.out.lt
  have CA := hide1 (fun w' (hb : Below w2.heap.size w2 w') => specWithout_any ao l ca k w' (by omega) (HA.out.later (B2.out.trans (hb.mono B2.out.size))))
  go_wp2_with fail
  go_region_held3 (fun w' => w'.cell? ⟨w.heap.size, 0, none⟩ = some (.int .i64 m) ∧ w'.cell? ⟨w.heap.size, 1, none⟩ = some (.slice ao l.length ca)) (first | go_keep | exact ⟨(D5.out.cell hs0).trans X.out.1, (D5.out.cell hs0).trans X.out.2⟩) (((go_at_call 46; refine (CA.out _ (by go_grown)).mono ?_; rintro e w5 ⟨b5, c5, rfl, ho5, hb5⟩; have D5 : Hid (Below w2.heap.size w2 w5) := (show Below w2.heap.size w2 _ by go_grown).trans (hb5.mono (by go_size)); have O5 : Hid (OwnQ w5 w2.heap.size b5 c5 (wthQ l k)) := hide1 (ho5.base (by go_size)); clear ho5 hb5; have r5 := R2.out.below D5.out hs1; have y0 : w5.cell? ⟨w.heap.size + 1, 0, none⟩ = some (.int .i64 0) := r5.cell 0; have y1 : w5.cell? ⟨w.heap.size + 1, 1, none⟩ = some (.slice none 0 0) := r5.cell 1; have yf : ∀ j, w5.frozen? ⟨w.heap.size + 1, j, none⟩ = false := fun j => r5.froz j; have R5 := hide1 r5; clear r5)))
  all_goals go_wp2
  all_goals
    have HH := hide1 (Blk.set (Blk.set R5.out 0 (.int .i64 m)) 1 (.slice b5 (wthQ l k).length c5))
    refine bodyPost_ret (resQ2 Try.results28 _ _ (w.heap.size + 1) 26 #[.int .i64 m, .slice b5 (wthQ l k).length c5] (0, 0) _ rfl HH.out Try.underlying26 rfl (by kernel_rfl)) rfl ?_
    rw [HY.out]
    exact ⟨_, rfl, MadeQ.yes (r := w.heap.size + 1) B2.out (by omega) hs1 O5.out D5.out _ _⟩

set_option maxRecDepth 100000 in
set_option maxHeartbeats 2000000 in
theorem specTouch_any (ao : Option Addr) (l : List ByteArray) (ca : Nat) (m : Int) (k : ByteArray) (w : World) (hl : l.length ≤ 1048576) (hA : RdQ w ao l) :
    Calls Try.prog 24 #[.agg #[.int .i64 m, .slice ao l.length ca], .string k] w fun e w' => ∃ v, e = .returned (.tuple #[v, .bool (touR l m k).2]) ∧ MadeQ w w' v (touR l m k).1 := by
  have CO := hide1 (fun w' (hb : Below w.heap.size w w') => specQOk_any ao l ca m w' hl (hA.later hb))
  have CH := hide1 (fun w' (hb : Below w.heap.size w w') => specHas_any ao l ca m k w' hl (hA.later hb))
  have F0 := hide1 (blkN2 w #[.int .i64 m, .slice ao l.length ca] #[.int .i64 0, .slice none 0 0] 26 26)
  have HA := hide1 hA
  clear hA
  go_enter Try.func24, Try.ntmps24
  go_wp2_with fail
  generalize ((w.alloc (.cells #[.int .i64 m, .slice ao l.length ca] 26)).alloc (.cells #[.int .i64 0, .slice none 0 0] 26)) = w0 at F0 ⊢
  obtain ⟨K0, R0, B0⟩ := F0.out
  have K0 := hide1 K0
  have R0 := hide1 R0
  have B0 := hide1 B0
  clear F0
  refine (CO.out w0 B0.out).mono ?_
  rintro e w1 ⟨x, rfl, hx, hb1⟩
  have K1 := hide1 (K0.out.below hb1 K0.out.lt)
  have R1 := hide1 (R0.out.below hb1 R0.out.lt)
  have B1 := hide1 (B0.out.trans (hb1.mono B0.out.size))
  clear hb1 CO K0 R0 B0
  rcases x with _ | _
  · have HN := hide1 (touR_no (k := k) (fun h => by have := hx.2 h.1; cases this))
    have y0 : w1.cell? ⟨w.heap.size + 1, 0, none⟩ = some (.int .i64 0) := R1.out.cell 0
    have y1 : w1.cell? ⟨w.heap.size + 1, 1, none⟩ = some (.slice none 0 0) := R1.out.cell 1
    have yf : ∀ j, w1.frozen? ⟨w.heap.size + 1, j, none⟩ = false := fun j => R1.out.froz j
    have HH := hide1 (Blk.set (Blk.set R1.out 0 (.int .i64 0)) 1 (.slice none 0 0))
    clear hx
    go_wp2
    refine bodyPost_ret (resQ2 Try.results24 _ _ (w.heap.size + 1) 26 #[.int .i64 0, .slice none 0 0] (0, 0) _ rfl HH.out Try.underlying26 rfl (by kernel_rfl)) rfl ?_
    rw [HN.out]
    exact ⟨_, rfl, MadeQ.no B1.out (by omega) _ _⟩
  have HOK := hide1 (hx.1 rfl)
  clear hx
  have x0 : w1.cell? ⟨w.heap.size, 0, none⟩ = some (.int .i64 m) := K1.out.cell 0
  have x1 : w1.cell? ⟨w.heap.size, 1, none⟩ = some (.slice ao l.length ca) := K1.out.cell 1
  go_wp2_with fail
  refine (CH.out w1 B1.out).mono ?_
  rintro e w2 ⟨rfl, hb2⟩
  have K2 := hide1 (K1.out.below hb2 K1.out.lt)
  have R2 := hide1 (R1.out.below hb2 R1.out.lt)
  have B2 := hide1 (B1.out.trans (hb2.mono B1.out.size))
  clear hb2 CH K1 R1 B1 x0 x1
  rcases hq : hasQ l k with _ | _
  · have HN := hide1 (touR_no (l := l) (m := m) (k := k) (fun h => by rw [(hasQ_iff l k).2 h.2] at hq; cases hq))
    have y0 : w2.cell? ⟨w.heap.size + 1, 0, none⟩ = some (.int .i64 0) := R2.out.cell 0
    have y1 : w2.cell? ⟨w.heap.size + 1, 1, none⟩ = some (.slice none 0 0) := R2.out.cell 1
    have yf : ∀ j, w2.frozen? ⟨w.heap.size + 1, j, none⟩ = false := fun j => R2.out.froz j
    have HH := hide1 (Blk.set (Blk.set R2.out 0 (.int .i64 0)) 1 (.slice none 0 0))
    clear hq
    go_wp2
    refine bodyPost_ret (resQ2 Try.results24 _ _ (w.heap.size + 1) 26 #[.int .i64 0, .slice none 0 0] (0, 0) _ rfl HH.out Try.underlying26 rfl (by kernel_rfl)) rfl ?_
    rw [HN.out]
    exact ⟨_, rfl, MadeQ.no B2.out (by omega) _ _⟩
  have HY := hide1 (touR_yes HOK.out ((hasQ_iff l k).1 hq))
  have hsm := HOK.out.small
  have hwl := wthQ_length l k
  clear hq
  have x0 : w2.cell? ⟨w.heap.size, 0, none⟩ = some (.int .i64 m) := K2.out.cell 0
  have x1 : w2.cell? ⟨w.heap.size, 1, none⟩ = some (.slice ao l.length ca) := K2.out.cell 1
  have X := hide1 (And.intro x0 x1)
  have hs0 : w.heap.size < w2.heap.size := K2.out.lt
  have hs1 : w.heap.size + 1 < w2.heap.size := R2.out.lt
  have CA := hide1 (fun w' (hb : Below w2.heap.size w2 w') => specWithout_any ao l ca k w' (by omega) (HA.out.later (B2.out.trans (hb.mono B2.out.size))))
  obtain ⟨WT, hWT⟩ : ∃ WT, wthQ l k = WT := ⟨_, rfl⟩
  rw [hWT] at CA HY hwl
  clear hWT
  obtain ⟨KW, hKW⟩ : ∃ KW, [k] ++ WT = KW := ⟨_, rfl⟩
  have HY2 := hide1 (show touR l m k = ((KW, m), true) by rw [HY.out, ← hKW]; rfl)
  have HKW := hide1 hKW
  clear hKW HY
  have CAP := hide1 (fun (ops : Array Oper) (o : Oper) (a : Act) (w' : World) (K : Act → World → Prop) (Q : Exit → Act → World → Prop) (E : Prop) hgd s x ho v hs hown bo c hx hA hb h => step_appB (ops := ops) (o := o) (a := a) (w := w') (K := K) (Q := Q) (E := E) hgd s x 24 ho Try.underlying24 w2.heap.size v 1 [k] hs hown bo WT.length c WT hx rfl hA (by omega) hb h)
  rw [HKW.out] at CAP
  go_wp2_with fail
  go_region_held3 (fun w' => w'.cell? ⟨w.heap.size, 0, none⟩ = some (.int .i64 m) ∧ w'.cell? ⟨w.heap.size, 1, none⟩ = some (.slice ao l.length ca)) (first | go_keep | exact ⟨(D5.out.cell hs0).trans X.out.1, (D5.out.cell hs0).trans X.out.2⟩ | exact ⟨(D4.out.cell hs0).trans X.out.1, (D4.out.cell hs0).trans X.out.2⟩) ((first | (refine CAP.out _ _ _ _ _ _ _ rfl (.tmp 19) (.tmp 23) rfl _ rfl (by first | exact own_kept K4.out (by go_grown) | exact litQ k D4.out.size | exact litQ_drew k D4.out.size) b4 c4 rfl (R4.out.later (by go_grown)) (by have := D4.out.size; go_size) ?_; intro b5 c5 w5 ho5 hb5; have D5 : Hid (Below w2.heap.size w2 w5) := (D4.out.trans (show Below w2.heap.size w4 _ by have := D4.out.size; first | exact (Below.refl _ _) | exact (Below.refl _ _).drew | exact (Below.refl _ _).alloc this _ | exact (Below.refl _ _).drew.alloc this _)).trans hb5; have O5 := hide1 ho5; clear ho5 hb5; have r5 := R2.out.below D5.out hs1; have y0 : w5.cell? ⟨w.heap.size + 1, 0, none⟩ = some (.int .i64 0) := r5.cell 0; have y1 : w5.cell? ⟨w.heap.size + 1, 1, none⟩ = some (.slice none 0 0) := r5.cell 1; have yf : ∀ j, w5.frozen? ⟨w.heap.size + 1, j, none⟩ = false := fun j => r5.froz j; have R5 := hide1 r5; clear r5) | (go_at_call 46; refine (CA.out _ (by go_grown)).mono ?_; rintro e w4 ⟨b4, c4, rfl, ho4, hb4⟩; (try have K4 : Hid (w4.ownsRow w2.heap.size 9 1 (.slice (some ⟨w2.heap.size, 0, none⟩) 1 1) 1 (sc [k])) := own_kept (litQ k (Nat.le_refl _)) hb4); (try have K4 : Hid (w4.ownsRow w2.heap.size 9 1 (.slice (some ⟨w2.heap.size, 0, none⟩) 1 1) 1 (sc [k])) := own_kept (litQ_drew k (Nat.le_refl _)) hb4); have D4 : Hid (Below w2.heap.size w2 w4) := (show Below w2.heap.size w2 _ by go_grown).trans (hb4.mono (by go_size)); have R4 := hide1 ho4.rd; clear ho4 hb4)))
  all_goals go_wp2
  all_goals
    have HH := hide1 (Blk.set (Blk.set R5.out 0 (.int .i64 m)) 1 (.slice b5 KW.length c5))
    refine bodyPost_ret (resQ2 Try.results24 _ _ (w.heap.size + 1) 26 #[.int .i64 m, .slice b5 KW.length c5] (0, 0) _ rfl HH.out Try.underlying26 rfl (by kernel_rfl)) rfl ?_
    rw [HY2.out]
    exact ⟨_, rfl, MadeQ.yes (r := w.heap.size + 1) B2.out (by omega) hs1 O5.out D5.out _ _⟩
end Go.Proofs.Ytaafofgfeaodhaa
