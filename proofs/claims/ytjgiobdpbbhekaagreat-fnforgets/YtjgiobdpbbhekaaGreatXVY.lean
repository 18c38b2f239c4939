/- The guess of a key, once more when it was seen, by the model. -/
import Derived.Test.YtjgiobdpbbhekaaGreatXVU
namespace Go.Proofs.YtjgiobdpbbhekaaGreat
open Go.RowKit

theorem leastK_within {l : List Int} (h : ∀ i (h : i < l.length), 0 ≤ l[i] ∧ l[i] ≤ 15) (key : ByteArray) : ∀ r, 0 ≤ leastK l key r ∧ leastK l key r ≤ 15
  | 0 => by simp [leastK]
  | r + 1 => by
    have h1 := leastK_within h key r
    have h2 : 0 ≤ gK l (atK key r) := by
      unfold gK
      by_cases e : atK key r < l.length
      · simp [e, (h _ e).1]
      · simp [e]
    rw [leastK]; omega
theorem gueR_within (l : List Int) (ad : Int) (key : ByteArray) : 0 ≤ gueR l ad key ∧ gueR l ad key ≤ 15 := by
  unfold gueR
  split
  · rename_i h; exact leastK_within h.2.2.2 key 3
  · omega
theorem gueN_within (N : Nr) (k : ByteArray) : 0 ≤ gueN N k ∧ gueN N k ≤ 16 := by
  have := gueR_within N.sk N.ad k
  unfold gueN
  split <;> omega
set_option maxRecDepth 100000 in
theorem specGue_any {w : World} {r B : Nat} {A : NA} {N : Nr} (h : VaN w r B A N) (k : ByteArray) (hk : k.size ≤ 1048576) :
    Calls Tryz.prog 120 #[.pointer (some ⟨r, 0, none⟩), .string k] w fun e w' => e = .returned (.int .i64 (gueN N k)) ∧ Below w.heap.size w w' := by
  have CS := hide1 (fun w' => specSeen_any N.dr k hk w')
  have CC := hide1 (specGuess_any A.k N.sk A.kc N.ad k w hk h.own.fk.rd)
  unfold skV at CC
  have H := hide1 h
  clear h
  have HG := hide1 (show gueN N k = gueR N.sk N.ad k + (if seenD N.dr k = true then 1 else 0) from rfl)
  have hg := gueR_within N.sk N.ad k
  generalize gueR N.sk N.ad k = g at *
  obtain ⟨hg0, hg1⟩ := hg
  have x11 : w.cell? ⟨r, 11, none⟩ = some (.slice A.k N.sk.length A.kc) := H.out.cell 11
  have x12 : w.cell? ⟨r, 12, none⟩ = some (.int .i64 N.ad) := H.out.cell 12
  go_enter Tryz.func120, Tryz.ntmps120
  go_wp2_with fail
  refine CC.out.mono ?_
  rintro e w1 ⟨rfl, hb1⟩
  have H1 := hide1 (H.out.later hb1)
  have B1 := hide1 hb1
  have x13 : w1.cell? ⟨r, 13, none⟩ = some (.int .i64 N.dr) := H1.out.cell 13
  clear hb1 CC x11 x12
  go_wp2_with fail
  refine (CS.out w1).mono ?_
  rintro e w2 ⟨rfl, hb2⟩
  have B2 := hide1 (B1.out.trans (hb2.mono B1.out.size))
  clear hb2 CS x13
  rcases hq : seenD N.dr k with _ | _
  · have HE := hide1 (show gueN N k = g by rw [HG.out, hq]; simp)
    clear hq
    go_wp2
    go_ret
    exact ⟨by rw [HE.out]; rfl, B2.out⟩
  · have HE := hide1 (show gueN N k = g + 1 by rw [HG.out, hq, if_pos rfl])
    clear hq
    go_wp2
    go_ret
    exact ⟨by rw [HE.out]; rfl, B2.out⟩
end Go.Proofs.YtjgiobdpbbhekaaGreat
namespace Go.Proofs.YtjgiobdpbbhekaaGreat
open Go.RowKit

set_option maxRecDepth 100000 in
theorem specTryN_any {w : World} {r B : Nat} {A : NA} {N : Nr} (h : VaN w r B A N) (x : ByteArray) (hz : N.tm = 0) :
    Calls Tryz.prog 72 #[.pointer (some ⟨r, 0, none⟩), .string x] w fun e w' => e = .returned (.string (tryN N x).2) ∧ ∃ A', VaN w' r B A' (tryN N x).1 ∧ w.grownBy w' (some r) := by
  have HT := hide1 (show tryN N x = (N, x) by unfold tryN; rw [if_pos hz])
  have H := hide1 h
  have x7 : w.cell? ⟨r, 7, none⟩ = some (.int .i64 N.tm) := h.cell 7
  rw [hz] at x7
  clear h hz
  go_enter Tryz.func72, Tryz.ntmps72
  go_wp2
  go_ret
  exact ⟨by rw [HT.out]; rfl, A, by rw [HT.out]; exact H.out, gnew (Below.refl _ _)⟩
set_option maxRecDepth 100000 in
set_option maxHeartbeats 1600000 in
theorem specTryR_any {w : World} {r B : Nat} {A : NA} {N : Nr} (h : VaN w r B A N) (hl : SmN N) (x : ByteArray) (ht : OkQ N.t N.tm) (hx : keyQ x) (hxt : ¬ x ∈ N.t) (hr : (N.t.length : Int) < N.tm) :
    Calls Tryz.prog 72 #[.pointer (some ⟨r, 0, none⟩), .string x] w fun e w' => e = .returned (.string (tryN N x).2) ∧ ∃ A', VaN w' r B A' (tryN N x).1 ∧ w.grownBy w' (some r) := by
  have hz : ¬ N.tm = 0 := by omega
  have HT := hide1 (show tryN N x = ({ N with t := x :: N.t }, ⟨#[]⟩) by unfold tryN; rw [if_neg hz, if_pos hr])
  have RP := pshR_yes (l := N.t) (m := N.tm) (k := x) ⟨ht, hx, hxt, hz⟩
  rw [List.take_of_length_le (by simp only [List.length_cons]; omega)] at RP
  have HP := hide1 RP
  have H := hide1 h
  have s5 := hl.ft
  have x7 : w.cell? ⟨r, 7, none⟩ = some (.int .i64 N.tm) := h.cell 7
  have x8 : w.cell? ⟨r, 8, none⟩ = some (.slice A.t N.t.length A.tc) := h.cell 8
  have hzz : (N.tm == 0) = false := by simpa using hz
  clear h hz RP ht hx hxt hl
  go_enter Tryz.func72, Tryz.ntmps72
  go_upto_region 4 with fail
  go_quiet (fail)
  have F := hide1 (below_drewN (Below.refl w.heap.size w) nq)
  generalize w.drewN nq = W at F ⊢
  have V := hide1 (H.out.later F.out)
  have G := hide1 (show w.grownBy W (some r) from gnew F.out)
  have hS := hide1 (H.out.own.below_of (Nat.le_refl _))
  have hW := hide1 F.out.size
  have y7 : W.cell? ⟨r, 7, none⟩ = some (.int .i64 N.tm) := V.out.cell 7
  have y8 : W.cell? ⟨r, 8, none⟩ = some (.slice A.t N.t.length A.tc) := V.out.cell 8
  have C := hide1 (specPush_own A.t N.t A.tc N.tm x W s5 V.out.own.rd.ft HP.out)
  clear F x7 x8 hzz
  go_wp2_with fail
  refine C.out.mono ?_
  rintro e w4 ⟨p4, c4, rfl, ho, hb4⟩
  have V4 := hide1 (V.out.later hb4)
  have G4 := hide1 (gtrans G.out (gnew hb4))
  have u7 : w4.cell? ⟨r, 7, none⟩ = some (.int .i64 N.tm) := V4.out.cell 7
  have u8 : w4.cell? ⟨r, 8, none⟩ = some (.slice A.t N.t.length A.tc) := V4.out.cell 8
  have uf : ∀ j, w4.frozen? ⟨r, j, none⟩ = false := fun j => V4.out.var.froz j
  have VV := hide1 (V4.out.putT (m := N.tm) ho (V.out.own.below_of (Nat.le_refl _)) V.out.le)
  clear ho hb4 C y7 y8 V V4 hr
  go_wp2
  go_ret
  exact ⟨by rw [HT.out]; rfl, _, by rw [HT.out]; exact VV.out, gset (gset G4.out 7 _) 8 _⟩
end Go.Proofs.YtjgiobdpbbhekaaGreat
namespace Go.Proofs.YtjgiobdpbbhekaaGreat
open Go.RowKit

theorem keyQ_size {k : ByteArray} (h : keyQ k) : k.size ≤ 1048576 := by have := h.2; omega
set_option maxRecDepth 100000 in
set_option maxHeartbeats 3200000 in
theorem specTryF_any {w : World} {r B : Nat} {A : NA} {N : Nr} (h : VaN w r B A N) (hl : SmN N) (x : ByteArray) (ht : OkQ N.t N.tm) (hx : keyQ x) (hxt : ¬ x ∈ N.t) (hz : ¬ N.tm = 0) (hr : ¬ (N.t.length : Int) < N.tm) :
    Calls Tryz.prog 72 #[.pointer (some ⟨r, 0, none⟩), .string x] w fun e w' => e = .returned (.string (tryN N x).2) ∧ ∃ A', VaN w' r B A' (tryN N x).1 ∧ w.grownBy w' (some r) := by
  have hne : N.t ≠ [] := fun e => by rw [e] at hr; simp at hr; have := ht.1; omega
  obtain ⟨t0, z, et, ez⟩ := last_split hne
  have hzt : z ∈ N.t := by rw [et]; simp
  have hzq := ht.2.2.2.1 z hzt
  obtain ⟨m, hm⟩ : ∃ m, N.t.length = m + 1 := ⟨t0.length, by rw [et]; simp⟩
  have hzm : ∀ h : m < N.t.length, N.t[m] = z := fun h => by
    have e : m = t0.length := by rw [et] at hm; simp at hm; omega
    subst e
    simp [et]
  have HT := hide1 (show tryN N x = if gueN N x ≤ gueN N z then (N, x) else ({ N with t := x :: wthQ N.t z }, z) by unfold tryN; rw [if_neg hz, if_neg hr, ez])
  have HD := hide1 (drpR_yes ht hzt)
  have RP := pshR_yes (l := wthQ N.t z) (m := N.tm) (k := x) ⟨ht.drop, hx, fun e => hxt ((wthQ_mem _ _ _).1 e).1, hz⟩
  rw [List.take_of_length_le (by have := wthQ_lt hzt; have := ht.2.2.1; simp only [List.length_cons]; omega)] at RP
  have hLl : (wthQ N.t z).length ≤ 1048576 := by have := wthQ_length N.t z; have := hl.ft; omega
  have HP := hide1 RP
  clear RP
  generalize wthQ N.t z = L at *
  have H := hide1 h
  have s5 := hl.ft
  have gx := gueN_within N x
  have gz := gueN_within N z
  have CX := hide1 (fun w' (h' : VaN w' r B A N) => specGue_any h' x (keyQ_size hx))
  have CZ := hide1 (fun w' (h' : VaN w' r B A N) => specGue_any h' z (keyQ_size hzq))
  generalize gueN N x = ga at *
  generalize gueN N z = gb at *
  obtain ⟨b, o, hab, _, hc⟩ := h.own.rd.ft m (by omega)
  rw [hzm] at hc
  have x7 : w.cell? ⟨r, 7, none⟩ = some (.int .i64 N.tm) := h.cell 7
  have x8 : w.cell? ⟨r, 8, none⟩ = some (.slice (some ⟨b, o, none⟩) (m + 1) A.tc) := by rw [← hm, ← hab]; exact h.cell 8
  have hzz : (N.tm == 0) = false := by simpa using hz
  have hrr : ¬ ((m + 1 : Nat) : Int) < N.tm := by rw [← hm]; exact hr
  have HM := hide1 hm
  have HA := hide1 hab
  have hm1 : m + 1 ≤ 1048576 := by omega
  have RF := hide1 h.own.rd.ft
  clear h hz ht hx hxt hl hne et ez hzt hzq hzm hm hab hr t0
  go_enter Tryz.func72, Tryz.ntmps72
  go_upto_region 3 with fail
  go_quiet (fail)
  have F := hide1 (below_drewN (Below.refl w.heap.size w) nq)
  have F7 : Hid ((w.drewN nq).cell? ⟨b, o + m, none⟩ = some (.string z)) := hide1 hc
  generalize w.drewN nq = W at F F7 ⊢
  have V := hide1 (H.out.later F.out)
  have G := hide1 (show w.grownBy W (some r) from gnew F.out)
  have y7 : W.cell? ⟨r, 7, none⟩ = some (.int .i64 N.tm) := V.out.cell 7
  have y8 : W.cell? ⟨r, 8, none⟩ = some (.slice (some ⟨b, o, none⟩) (m + 1) A.tc) := by rw [← HM.out, ← HA.out]; exact V.out.cell 8
  have yz := F7.out
  clear F F7 x7 x8 hzz hc RF H
  go_upto_region 6 with fail
  clear hrr
  go_quiet (fail)
  have F := hide1 (below_drewN (Below.refl W.heap.size W) nq)
  generalize W.drewN nq = W2 at F ⊢
  have V2 := hide1 (V.out.later F.out)
  have G2 := hide1 (gtrans G.out (gnew F.out))
  clear F V G y7 y8 yz
  go_wp2_with fail
  refine (CX.out _ V2.out).mono ?_
  rintro e w3 ⟨rfl, hb3⟩
  have V3 := hide1 (V2.out.later hb3)
  have G3 := hide1 (gtrans G2.out (gnew hb3))
  clear hb3 V2 G2 CX
  go_wp2_with fail
  refine (CZ.out _ V3.out).mono ?_
  rintro e w4 ⟨rfl, hb4⟩
  have V4 := hide1 (V3.out.later hb4)
  have G4 := hide1 (gtrans G3.out (gnew hb4))
  clear hb4 V3 G3 CZ
  by_cases hle : ga ≤ gb
  · have HT2 := hide1 (HT.out.trans (if_pos hle))
    clear HT
    go_wp2
    go_ret
    exact ⟨by rw [HT2.out]; rfl, _, by rw [HT2.out]; exact V4.out, G4.out⟩
  · have HT2 := hide1 (HT.out.trans (if_neg hle))
    clear HT
    have C5 := hide1 (specDrop_own A.t N.t A.tc N.tm z w4 s5 V4.out.own.rd.ft HD.out)
    have y7 : w4.cell? ⟨r, 7, none⟩ = some (.int .i64 N.tm) := V4.out.cell 7
    have y8 : w4.cell? ⟨r, 8, none⟩ = some (.slice A.t N.t.length A.tc) := V4.out.cell 8
    go_upto_region 9 with fail
    clear hle gx gz
    go_wp2_with fail
    refine C5.out.mono ?_
    rintro e w5 ⟨p5, c5, rfl, ho, hb5⟩
    have V5 := hide1 (V4.out.later hb5)
    have G5 := hide1 (gtrans G4.out (gnew hb5))
    have u7 : w5.cell? ⟨r, 7, none⟩ = some (.int .i64 N.tm) := V5.out.cell 7
    have u8 : w5.cell? ⟨r, 8, none⟩ = some (.slice A.t N.t.length A.tc) := V5.out.cell 8
    have uf : ∀ j, w5.frozen? ⟨r, j, none⟩ = false := fun j => V5.out.var.froz j
    have V6 := hide1 (V5.out.putT (m := N.tm) ho (V4.out.own.below_of (Nat.le_refl _)) V4.out.le)
    have G6 := hide1 (gset (gset G5.out 7 (.int .i64 N.tm)) 8 (.slice p5 L.length c5))
    clear ho hb5 C5 y7 y8 V4 G4 V5 G5
    go_upto_region 10 with fail
    generalize ((w5.setCell ⟨r, 7, none⟩ (.int .i64 N.tm)).setCell ⟨r, 8, none⟩ (.slice p5 L.length c5)) = W6 at V6 G6 ⊢
    clear u7 u8 uf
    have C6 := hide1 (specPush_own p5 L c5 N.tm x W6 hLl V6.out.own.rd.ft HP.out)
    have y7 : W6.cell? ⟨r, 7, none⟩ = some (.int .i64 N.tm) := V6.out.cell 7
    have y8 : W6.cell? ⟨r, 8, none⟩ = some (.slice p5 L.length c5) := V6.out.cell 8
    go_wp2_with fail
    refine C6.out.mono ?_
    rintro e w7 ⟨p7, c7, rfl, ho, hb7⟩
    have V7 := hide1 (V6.out.later hb7)
    have G7 := hide1 (gtrans G6.out (gnew hb7))
    have u7 : w7.cell? ⟨r, 7, none⟩ = some (.int .i64 N.tm) := V7.out.cell 7
    have u8 : w7.cell? ⟨r, 8, none⟩ = some (.slice p5 L.length c5) := V7.out.cell 8
    have uf : ∀ j, w7.frozen? ⟨r, j, none⟩ = false := fun j => V7.out.var.froz j
    have VV := hide1 (V7.out.putT (m := N.tm) ho (V6.out.own.below_of (Nat.le_refl _)) V6.out.le)
    clear ho hb7 C6 y7 y8 V6 G6 V7
    go_wp2
    go_ret
    exact ⟨by rw [HT2.out]; rfl, _, by rw [HT2.out]; exact VV.out, gset (gset G7.out 7 _) 8 _⟩
theorem specTry_any {w : World} {r B : Nat} {A : NA} {N : Nr} (h : VaN w r B A N) (hl : SmN N) (x : ByteArray) (ht : OkQ N.t N.tm) (hx : keyQ x) (hxt : ¬ x ∈ N.t) :
    Calls Tryz.prog 72 #[.pointer (some ⟨r, 0, none⟩), .string x] w fun e w' => e = .returned (.string (tryN N x).2) ∧ ∃ A', VaN w' r B A' (tryN N x).1 ∧ w.grownBy w' (some r) := by
  by_cases hz : N.tm = 0
  · exact specTryN_any h x hz
  by_cases hr : (N.t.length : Int) < N.tm
  · exact specTryR_any h hl x ht hx hxt hr
  · exact specTryF_any h hl x ht hx hxt hz hr
end Go.Proofs.YtjgiobdpbbhekaaGreat
