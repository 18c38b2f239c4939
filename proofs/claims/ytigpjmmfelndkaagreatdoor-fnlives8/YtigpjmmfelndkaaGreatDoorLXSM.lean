import Derived.Deep.SlicePairs
import Derived.Lib.SmallJoins
import Derived.ProofKit
import Derived.OpenShut
import Derived.Test.YtigpjmmfelndkaaGreatDoorLXSK
namespace Go.Proofs.YtigpjmmfelndkaaGreatDoor
open Go.RowKit
set_option maxRecDepth 100000
set_option maxHeartbeats 8000000
theorem qnT (ao : Option Addr) (l : List Int) (ca : Nat) (ad : Int) (key : ByteArray) (w : World) (hs : key.size <= 1048576) (hA : RdZ w ao l) :
  Calls Tryz.prog 154 #[skV ao l.length ca ad, .string key] w fun e w' => e = .returned (.int .i64 (gueR l ad key)) /\ Below w.heap.size w w' := by
 have C1 := hI (fun w' (h : Below w.heap.size w w') => qgW ao l ca ad w' (hA.later h))
 have F0 : Hid (Blk (w.alloc (.cells #[.slice ao l.length ca, .int .i64 ad] 35)) w.heap.size 35 [.slice ao l.length ca, .int .i64 ad] /\ Below w.heap.size w (w.alloc (.cells #[.slice ao l.length ca, .int .i64 ad] 35))) := ⟨Blk.new w _ _, bAl _ _⟩
 have HA := hI hA
 unfold skV at C1 ⊢
 clear hA
 go_enter Tryz.func154, Tryz.ntmps154
 go_wp2_with fail
 generalize (w.alloc (.cells #[.slice ao l.length ca, .int .i64 ad] 35)) = w0 at F0 ⊢
 obtain ⟨K0, B0⟩ := F0.out
 refine (C1.out w0 B0).mono ?_
 rintro e w1 ⟨x, rfl, hx, hb⟩
 have J0 := hI (K0.below hb K0.lt)
 have B1 := hI (B0.trans (hb.mono B0.size))
 have HX := hI hx
 clear hb hx K0 B0 F0 C1
 rcases x with _ | _
 ·have HN := hI (qxY (l := l) (ad := ad) (key := key) (fun h => by have := HX.out.2 h; cases this))
  clear HX
  go_wp2
  go_ret
  exact ⟨by rw [HN.out]; rfl, B1.out⟩
 ·have HOK := hI (HX.out.1 rfl)
  have HY := hI (quR (key := key) HOK.out)
  have HL := hI HOK.out.1
  have CC := hI (fun (r : Nat) (hr : r < 3) w => qlB key r w hs hr)
  clear HX
  go_wp2
  go_loopw [5, 6] (fun v iv wr => ∃ (r : Nat) (z : Int), r <= 3 /\ iv = .int .i64 (r : Int) /\ v = .int .i64 z /\ Hid (z = qeL l key r) /\ Hid (Below w1.heap.size w1 wr)) (fun _ iv _ => 3 - (intOf iv).toNat)
  case atStart => exact ⟨0, 15, by omega, rfl, rfl, rfl, Below.refl _ _⟩
  case round =>
   obtain ⟨r, z, hr, rfl, rfl, hz, hb⟩ := hrel
   by_cases hlt : r < 3
   ·have k1 : (r : Int) < 3 := by omega
    have ha := qvD key r hlt
    have hal : atK key r < l.length := by have := HL.out; omega
    have x0 : wr.cell? ⟨w.heap.size, 0, none⟩ = some (.slice ao l.length ca) := (J0.out.below hb.out J0.out.lt).cell 0
    obtain ⟨b, o, rfl, hbb, h1⟩ := (HA.out.later (B1.out.trans (hb.out.mono B1.out.size))) (atK key r) hal
    rw [qfL l _ hal] at h1
    have HB : Hid (qeL l key (r + 1) = min (qeL l key r) (gK l (atK key r))) := hI rfl
    have CD := hI (CC.out r hlt)
    generalize gK l (atK key r) = s at *
    generalize atK key r = k at *
    have k2 : (k : Int) < (l.length : Int) := by omega
    by_cases c1 : s < z
    ·have q1 : decide (s < z) = true := by simp [c1]
     have M1 := hI (show min z s = s by omega)
     go_wp2_with fail
     go_quiet ((go_at_call 150; exact Calls.quiet_of_same (CD.out _)))
     have F2 : Hid ((wr.drewN nq).cell? ⟨w.heap.size, 0, none⟩ = some (.slice (some ⟨b, o, none⟩) l.length ca) /\ (wr.drewN nq).cell? ⟨b, o + k, none⟩ = some (.int .i64 s) /\ Below w1.heap.size w1 (wr.drewN nq)) := ⟨((below_drewN (Below.refl (w.heap.size + 1) wr) _).cell (p := ⟨w.heap.size, 0, none⟩) (by dsimp only; omega)).trans x0, ((below_drewN (Below.refl (b + 1) wr) _).cell (p := ⟨b, o + k, none⟩) (by dsimp only; omega)).trans h1, below_drewN hb.out _⟩
     go_wp2_with fail
     generalize wr.drewN nq = w2 at F2 ⊢
     obtain ⟨x0', h1', hb2⟩ := F2.out
     go_quiet ((go_at_call 150; exact Calls.quiet_of_same (CD.out _)))
     go_wp2
     go_roundw
     case rel => exact ⟨r + 1, s, by omega, by go_num, rfl, by rw [HB.out, <- hz.out]; exact hI M1.out.symm, below_drewN hb2 _⟩
     case measure => simp [intOf]; omega
    ·have q1 : decide (s < z) = false := by simp; omega
     have M1 := hI (show min z s = z by omega)
     go_wp2_with fail
     go_quiet ((go_at_call 150; exact Calls.quiet_of_same (CD.out _)))
     go_wp2
     go_roundw
     case rel => exact ⟨r + 1, z, by omega, by go_num, rfl, by rw [HB.out, <- hz.out]; exact hI M1.out.symm, below_drewN hb.out _⟩
     case measure => simp [intOf]; omega
   ·obtain rfl : r = 3 := by omega
    go_wp2
    go_ret
    exact ⟨by rw [HY.out, <- hz.out]; rfl, B1.out.trans (hb.out.mono B1.out.size)⟩
theorem qzH {w : World} {base n : Nat} {e : TypeId} {v : Value} {xs : List Value} (h : w.ownsRow base e 1 v n xs) (hn : 0 < n) : ∃ g cap, v = .slice (some ⟨g, 0, none⟩) n cap := by
 rcases h.2 with ⟨_, h0⟩ | ⟨g, cap, cur, hv, _⟩
 ·omega
 ·exact ⟨g, cap, hv⟩
structure MidK (w wr : World) (x : List Value) (q : Nat) (bo : Option Addr) (n c : Nat) (ad : Int) (L : List Int) : Prop where
 box : Blk wr w.heap.size 35 x
 res : Blk wr (w.heap.size + 1) 35 [.slice none 0 0, .int .i64 0]
 out : Blk wr q 35 [.slice bo n c, .int .i64 ad]
 own : wr.ownsRow w.heap.size 3 1 (.slice bo n c) n (iz L)
 hq : w.heap.size + 1 < q
 ne : ∀ k, (Value.slice bo n c).ownBlock = some k -> k < q /\ w.heap.size + 1 < k
 bel : Below w.heap.size w wr
theorem MidK.later {w wr w' : World} {x : List Value} {q n c : Nat} {bo : Option Addr} {ad : Int} {L : List Int} (h : MidK w wr x q bo n c ad L) (hb : Below wr.heap.size wr w') : MidK w w' x q bo n c ad L :=
 ⟨h.box.below hb h.box.lt, h.res.below hb h.res.lt, h.out.below hb h.out.lt, qaE h.own hb, h.hq, h.ne, h.bel.trans (hb.mono h.bel.size)⟩
theorem MidK.set {w wr : World} {x : List Value} {q n c b : Nat} {ad : Int} {L : List Int} (h : MidK w wr x q (some ⟨b, 0, none⟩) n c ad L) (i : Nat) (v : Int) : MidK w (wr.setCell ⟨b, i, none⟩ (.int .i64 v)) x q (some ⟨b, 0, none⟩) n c ad (L.set i v) := by
 have hn := h.ne b rfl
 refine ⟨h.box.far _ _ (by dsimp only; omega), h.res.far _ _ (by dsimp only; omega), h.out.far _ _ (by dsimp only; omega), ?_, h.hq, h.ne, h.bel.setCell (p := ⟨b, i, none⟩) (by dsimp only; omega) _⟩
 have := (World.ownsRow.stored h.own i (.int .i64 v)).1
 rw [<- zbB] at this
 exact this
theorem MidK.setAd {w wr : World} {x : List Value} {q n c : Nat} {bo : Option Addr} {ad : Int} {L : List Int} (h : MidK w wr x q bo n c ad L) (v : Int) : MidK w (wr.setCell ⟨q, 1, none⟩ (.int .i64 v)) x q bo n c v L := by
 have hq := h.hq
 refine ⟨h.box.far _ _ (by dsimp only; omega), h.res.far _ _ (by dsimp only; omega), Blk.set h.out 1 _, qaA h.own _ _ (fun k hk => by have := h.ne k hk; dsimp only; omega), h.hq, h.ne, h.bel.setCell (p := ⟨q, 1, none⟩) (by dsimp only; omega) _⟩
theorem MidK.fin {w wr : World} {x : List Value} {q n c : Nat} {bo : Option Addr} {ad : Int} {L : List Int} (h : MidK w wr x q bo n c ad L) (hn : L.length = n) :
  Blk ((wr.setCell ⟨w.heap.size + 1, 0, none⟩ (.slice bo n c)).setCell ⟨w.heap.size + 1, 1, none⟩ (.int .i64 ad)) (w.heap.size + 1) 35 [.slice bo n c, .int .i64 ad] /\ MadeK w ((wr.setCell ⟨w.heap.size + 1, 0, none⟩ (.slice bo n c)).setCell ⟨w.heap.size + 1, 1, none⟩ (.int .i64 ad)) (.returned (.agg #[.slice bo n c, .int .i64 ad])) (L, ad) := by
 subst hn
 refine ⟨Blk.set (Blk.set h.res 0 _) 1 _, bo, c, rfl, qaA (qaA h.own _ _ ?_) _ _ ?_, (h.bel.setCell (p := ⟨w.heap.size + 1, 0, none⟩) (by dsimp only; omega) _).setCell (p := ⟨w.heap.size + 1, 1, none⟩) (by dsimp only; omega) _⟩
 all_goals
  intro k hk
  have := h.ne k hk
  dsimp only
  omega
theorem MidK.start {w w1 : World} {x : List Value} {n c s : Nat} {bo : Option Addr} {ad : Int} {L : List Int} (h0 : Blk w1 w.heap.size 35 x) (h1 : Blk w1 (w.heap.size + 1) 35 [.slice none 0 0, .int .i64 0]) (hB : Below w.heap.size w w1) (hs : w.heap.size + 1 < s) (ho : w1.ownsRow s 3 1 (.slice bo n c) n (iz L)) :
  MidK w (w1.alloc (.cells #[.slice bo n c, .int .i64 ad] 35)) x w1.heap.size bo n c ad L :=
 ⟨h0.more _, h1.more _, Blk.new w1 _ _, qaB (ho.alloc _) (by omega), h1.lt, (fun k hk => by have := ho.lt k hk; omega), hB.alloc hB.size _⟩
theorem qyM {l : List Int} {k : Nat} (h : gK l k < 15) : bump l k = l.set k (gK l k + 1) := by
 unfold bump
 rw [show min (gK l k + 1) 15 = gK l k + 1 by omega]
theorem qyN {l : List Int} {k : Nat} (hk : k < l.length) (h : gK l k = 15) : bump l k = l := by
 unfold bump
 rw [h, show min ((15 : Int) + 1) 15 = 15 by omega, <- h, <- qfL l k hk]
 exact List.set_getElem_self hk
theorem qnU (ao : Option Addr) (l : List Int) (ca : Nat) (ad : Int) (key : ByteArray) (w : World) (hs : key.size <= 1048576) (hl : l.length <= 1048576) (hA : RdZ w ao l) :
  Calls Tryz.prog 89 #[skV ao l.length ca ad, .string key] w fun e w' => MadeK w w' e (cntR l ad key) := by
 have C1 := hI (fun w' (h : Below w.heap.size w w') => qhM ao l ca ad w' hl (hA.later h))
 have C2 := hI (fun w' (h : Below w.heap.size w w') => qgW ao l ca ad w' (hA.later h))
 have CC := hI (fun (r : Nat) (hr : r < 3) w => qlB key r w hs hr)
 have F0 := qwZ w ao l.length ca ad
 unfold skV at C1 C2 ⊢
 clear hA
 go_enter Tryz.func89, Tryz.ntmps89
 go_wp2_with fail
 generalize ((w.alloc (.cells #[.slice ao l.length ca, .int .i64 ad] 35)).alloc (.cells #[.slice none 0 0, .int .i64 0] 35)) = w0 at F0 ⊢
 obtain ⟨K0, K1, B0⟩ := F0.out
 refine (C1.out w0 B0).mono ?_
 rintro e w1 ⟨bo, c, rfl, ho, hb⟩
 dsimp only at ho
 have F3 := hI (MidK.start (ad := ad) (K0.below hb K0.lt) (K1.below hb K1.lt) (B0.trans (hb.mono B0.size)) K1.lt ho)
 have J0 := K0.below hb K0.lt
 have x0 : w1.cell? ⟨w.heap.size, 0, none⟩ = some (.slice ao l.length ca) := J0.cell 0
 have x1 : w1.cell? ⟨w.heap.size, 1, none⟩ = some (.int .i64 ad) := J0.cell 1
 have hx : w.heap.size < w1.heap.size := J0.lt
 clear ho hb K0 K1 B0 F0 J0
 unfold skV
 go_wp2_with fail
 generalize w1.alloc (.cells #[.slice bo l.length c, .int .i64 ad] 35) = w3 at F3 ⊢
 generalize w1.heap.size = q at F3 hx ⊢
 refine (C2.out w3 F3.out.bel).mono ?_
 rintro e w4 ⟨x, rfl, hx2, hb4⟩
 have M4 := hI (F3.out.later hb4)
 have HX := hI hx2
 clear hb4 hx2 F3 x0 x1 C1 C2
 have z0 : w4.cell? ⟨q, 0, none⟩ = some (.slice bo l.length c) := M4.out.out.cell 0
 have z1 : w4.cell? ⟨q, 1, none⟩ = some (.int .i64 ad) := M4.out.out.cell 1
 rcases x with _ | _
 ·have HN := hI (show ¬ OkK l ad from fun h => by have := HX.out.2 h; cases this)
  have HF := hI (M4.out.fin rfl)
  have HR := hI (qyJ (key := key) HN.out)
  have v0 : w4.cell? ⟨w.heap.size + 1, 0, none⟩ = some (.slice none 0 0) := M4.out.res.cell 0
  have v1 : w4.cell? ⟨w.heap.size + 1, 1, none⟩ = some (.int .i64 0) := M4.out.res.cell 1
  have vf (j) : w4.frozen? ⟨w.heap.size + 1, j, none⟩ = false := M4.out.res.froz j
  clear HX M4
  go_wp2
  refine bodyPost_ret (results_cell_row Tryz.results89 _ _ (w.heap.size + 1) 35 #[.slice bo l.length c, .int .i64 ad] (0, 0) _ rfl HF.out.1 Tryz.underlying35 rfl (by kernel_rfl)) rfl ?_
  rw [HR.out]
  exact HF.out.2
 ·have HOK := hI (HX.out.1 rfl)
  have HL := hI HOK.out.1
  have HY := hI (qoW (key := key) HOK.out)
  obtain ⟨b, cc, ho⟩ := qzH M4.out.own (by have := HL.out; omega)
  simp only [Value.slice.injEq] at ho
  obtain ⟨rfl, _, rfl⟩ := ho
  have h48 : Hid (l.length = 48) := HL
  clear HX z0 z1
  go_wp2
  go_loopw [6] (fun iv wr => ∃ r : Nat, r <= 3 /\ iv = .int .i64 (r : Int) /\ Hid (MidK w wr [.slice ao l.length ca, .int .i64 ad] q (some ⟨b, 0, none⟩) l.length c ad (qkE l key r))) (fun iv _ => 3 - (intOf iv).toNat)
  case atStart => exact ⟨0, by omega, rfl, M4⟩
  case round =>
   obtain ⟨r, hr, rfl, hM⟩ := hrel
   by_cases hlt : r < 3
   ·have k1 : (r : Int) < 3 := by omega
    have CD := hI (CC.out r hlt)
    have ha := qvD key r hlt
    have hal : atK key r < l.length := by have := HL.out; omega
    have hlen : Hid ((qkE l key r).length = l.length) := hI (qcN l key r)
    have u0 : wr.cell? ⟨b, atK key r, none⟩ = some (.int .i64 (gK (qkE l key r) (atK key r))) := by
     rw [hM.out.own.cellAt (atK key r) (by omega), qjU _ _ (by rw [hlen.out]; exact hal), qfL]
    have uf := hM.out.own.frozenAt (atK key r)
    have y0 : wr.cell? ⟨q, 0, none⟩ = some (.slice (some ⟨b, 0, none⟩) l.length c) := hM.out.out.cell 0
    have hc := (HOK.out.in15.add key r).g (atK key r)
    have HB : Hid (qkE l key (r + 1) = bump (qkE l key r) (atK key r)) := hI rfl
    have HB1 := hI (qyM (l := qkE l key r) (k := atK key r))
    have HB2 := hI (qyN (l := qkE l key r) (k := atK key r) (by rw [hlen.out]; exact hal))
    generalize gK (qkE l key r) (atK key r) = s at *
    generalize atK key r = k at *
    have k2 : (k : Int) < (l.length : Int) := by omega
    have c1 := hc.1
    have c2 := hc.2
    clear hc
    go_wp2_with fail
    refine (CD.out _).mono ?_
    rintro e w5 ⟨rfl, rfl⟩
    by_cases c15 : s < 15
    ·have q1 : decide (s < 15) = true := by simp [c15]
     have HB3 := hI (HB1.out c15)
     go_wp2
     go_region
     all_goals
      go_wp2
      go_roundw
      case rel =>
       refine ⟨r + 1, by omega, by go_num, ?_⟩
       show MidK _ _ _ _ _ _ _ _ (qkE l key (r + 1))
       rw [HB.out, HB3.out]
       exact (hM.out.set k (s + 1)).later (Below.refl _ _).drew
      case measure => simp [intOf]; omega
    ·have q1 : decide (s < 15) = false := by simp; omega
     have HB3 := hI (HB2.out (by omega))
     go_wp2
     go_roundw
     case rel =>
      refine ⟨r + 1, by omega, by go_num, ?_⟩
      show MidK _ _ _ _ _ _ _ _ (qkE l key (r + 1))
      rw [HB.out, HB3.out]
      exact hM.out
     case measure => simp [intOf]; omega
   ·obtain rfl : r = 3 := by omega
    obtain ⟨A, hA⟩ : ∃ A, qkE l key 3 = A := ⟨_, rfl⟩
    rw [hA] at hM
    have LA := hI (show A.length = l.length by rw [<- hA, qcN])
    have IA := hI (show InK15 A by rw [<- hA]; exact HOK.out.in15.add key 3)
    have HR : Hid (qyK l ad key = if ad + 1 = 100 then (qeR A, 0) else (A, ad + 1)) := by show qyK l ad key = _; rw [qyK, hA]
    have a1 := HOK.out.2.1
    have a2 := HOK.out.2.2.1
    have y1 : wr.cell? ⟨q, 1, none⟩ = some (.int .i64 ad) := hM.out.out.cell 1
    have yf (j) : wr.frozen? ⟨q, j, none⟩ = false := hM.out.out.froz j
    have hqq := hM.out.hq
    clear hA
    by_cases c9 : ad + 1 = 100
    ·obtain rfl : ad = 99 := by omega
     have R9 : Hid (cntR l 99 key = (qeR A, 0)) := by show cntR l 99 key = _; rw [HY.out, HR.out, if_pos c9]
     have F5 := hI ((hM.out.setAd 100).setAd 0)
     clear HY HR c9 a1 a2
     go_wp2
     generalize ((wr.setCell ⟨q, 1, none⟩ (.int .i64 100)).setCell ⟨q, 1, none⟩ (.int .i64 0)) = w6 at F5 ⊢
     clear hM M4 y1 yf
     go_loopw [8] (fun iv wt => ∃ i : Nat, i <= l.length /\ iv = .int .i64 (i : Int) /\ Hid (MidK w wt [.slice ao l.length ca, .int .i64 99] q (some ⟨b, 0, none⟩) l.length c 0 (qfZ A i))) (fun iv _ => l.length - (intOf iv).toNat)
     case atStart => exact ⟨0, by omega, rfl, F5⟩
     case round =>
      obtain ⟨i, hi, rfl, hM⟩ := hrel
      have y0 : wr.cell? ⟨q, 0, none⟩ = some (.slice (some ⟨b, 0, none⟩) l.length c) := hM.out.out.cell 0
      by_cases hlt : i < l.length
      ·have k1 : (i : Int) < (l.length : Int) := by omega
       have hiA : i < A.length := by have := LA.out; omega
       have hlen : Hid ((qfZ A i).length = l.length) := hI (by rw [qfY A i (by omega)]; exact LA.out)
       have u0 : wr.cell? ⟨b, i, none⟩ = some (.int .i64 (gK A i)) := by
        rw [hM.out.own.cellAt i (by omega), qjU _ i (by rw [hlen.out]; exact hlt), qfL, quQ A i hiA]
       have uf := hM.out.own.frozenAt i
       have hc := IA.out.g i
       have HNX := hI (qnA A i hiA)
       generalize gK A i = s at *
       have q2 := quo2 hc.1
       have c1 := hc.1
       have c2 := hc.2
       clear hc
       go_wp2
       go_region
       all_goals
        go_wp2
        go_roundw
        case rel =>
         refine ⟨i + 1, by omega, by go_num, ?_⟩
         show MidK _ _ _ _ _ _ _ _ (qfZ A (i + 1))
         rw [<- HNX.out]
         exact (hM.out.set i (s / 2)).later (Below.refl _ _).drew
        case measure => simp [intOf]; omega
      ·obtain rfl : i = l.length := by omega
       have HF := hI (hM.out.fin (by rw [qfY A _ (by have := LA.out; omega)]; exact LA.out))
       have HR : Hid (qfZ A l.length = qeR A) := hI (qrX A _ (by have := LA.out; omega))
       have z1 : wr.cell? ⟨q, 1, none⟩ = some (.int .i64 0) := hM.out.out.cell 1
       have v0 : wr.cell? ⟨w.heap.size + 1, 0, none⟩ = some (.slice none 0 0) := hM.out.res.cell 0
       have v1 : wr.cell? ⟨w.heap.size + 1, 1, none⟩ = some (.int .i64 0) := hM.out.res.cell 1
       have vf (j) : wr.frozen? ⟨w.heap.size + 1, j, none⟩ = false := hM.out.res.froz j
       clear hM F5
       go_wp2
       refine bodyPost_ret (results_cell_row Tryz.results89 _ _ (w.heap.size + 1) 35 #[.slice (some ⟨b, 0, none⟩) l.length c, .int .i64 0] (0, 0) _ rfl HF.out.1 Tryz.underlying35 rfl (by kernel_rfl)) rfl ?_
       rw [R9.out, <- HR.out]
       exact HF.out.2
    ·have R9 : Hid (cntR l ad key = (A, ad + 1)) := by show cntR l ad key = _; rw [HY.out, HR.out, if_neg c9]
     have q9 : ((ad + 1) == 100) = false := by simp; omega
     have M6 := hM.out.setAd (ad + 1)
     have HF := hI (M6.fin LA.out)
     have v0 : wr.cell? ⟨w.heap.size + 1, 0, none⟩ = some (.slice none 0 0) := hM.out.res.cell 0
     have v1 : wr.cell? ⟨w.heap.size + 1, 1, none⟩ = some (.int .i64 0) := hM.out.res.cell 1
     have vf (j) : wr.frozen? ⟨w.heap.size + 1, j, none⟩ = false := hM.out.res.froz j
     have y0 : wr.cell? ⟨q, 0, none⟩ = some (.slice (some ⟨b, 0, none⟩) l.length c) := hM.out.out.cell 0
     clear HY HR M6 M4 hM
     go_wp2
     refine bodyPost_ret (results_cell_row Tryz.results89 _ _ (w.heap.size + 1) 35 #[.slice (some ⟨b, 0, none⟩) l.length c, .int .i64 (ad + 1)] (0, 0) _ rfl HF.out.1 Tryz.underlying35 rfl (by kernel_rfl)) rfl ?_
     rw [R9.out]
     exact HF.out.2
end Go.Proofs.YtigpjmmfelndkaaGreatDoor
namespace Go.Proofs.YtigpjmmfelndkaaGreatDoor
open Go.ChangeShapes Go.WideShapes Go.ChangeAt Go.RowKit Go.Deep Go.Joins
def OwnK (w : World) (B : Nat) (ao : Option Addr) (c : Nat) (L : List Int) : Prop := w.ownsRow B 3 1 (.slice ao L.length c) L.length (iz L)
theorem OwnK.rd {w : World} {B c : Nat} {ao : Option Addr} {L : List Int} (h : OwnK w B ao c L) : RdZ w ao L := qvQ h
theorem OwnK.later {w w' : World} {B c : Nat} {ao : Option Addr} {L : List Int} (h : OwnK w B ao c L) (hb : Below w.heap.size w w') : OwnK w' B ao c L := qaE h hb
theorem OwnK.base {w : World} {B B' c : Nat} {ao : Option Addr} {L : List Int} (h : OwnK w B ao c L) (hB : B' <= B) : OwnK w B' ao c L := qaB h hB
theorem OwnK.lt {w : World} {B c : Nat} {ao : Option Addr} {L : List Int} (h : OwnK w B ao c L) : ∀ g, (Value.slice ao L.length c).ownBlock = some g -> B <= g /\ g < w.heap.size := fun g e => World.ownsRow.lt h g e
end Go.Proofs.YtigpjmmfelndkaaGreatDoor
