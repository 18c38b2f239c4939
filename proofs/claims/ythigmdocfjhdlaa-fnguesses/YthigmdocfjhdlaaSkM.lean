/- The model's functions on sketches: guessed, halved, counted. -/
import Derived.Test.YthigmdocfjhdlaaSkL
namespace Go.Proofs.Ythigmdocfjhdlaa
open Go.RowKit

set_option maxRecDepth 100000 in
set_option maxHeartbeats 2000000 in
theorem specGuess_any (ao : Option Addr) (l : List Int) (ca : Nat) (ad : Int) (key : ByteArray) (w : World) (hs : key.size ≤ 1048576) (hA : RdZ w ao l) :
    Calls Try.prog 13 #[skV ao l.length ca ad, .string key] w fun e w' => e = .returned (.int .i64 (gueR l ad key)) ∧ Below w.heap.size w w' := by
  have C1 := hide1 (fun w' (h : Below w.heap.size w w') => specSOk_any ao l ca ad w' (hA.later h))
  have F0 : Hid (Blk (w.alloc (.cells #[.slice ao l.length ca, .int .i64 ad] 28)) w.heap.size 28 [.slice ao l.length ca, .int .i64 ad] ∧ Below w.heap.size w (w.alloc (.cells #[.slice ao l.length ca, .int .i64 ad] 28))) := ⟨Blk.new w _ _, (Below.refl _ _).alloc (Nat.le_refl _) _⟩
  have HA := hide1 hA
  unfold skV at C1 ⊢
  clear hA
  go_enter Try.func13, Try.ntmps13
  go_wp2_with fail
  generalize (w.alloc (.cells #[.slice ao l.length ca, .int .i64 ad] 28)) = w0 at F0 ⊢
  obtain ⟨K0, B0⟩ := F0.out
  refine (C1.out w0 B0).mono ?_
  rintro e w1 ⟨x, rfl, hx, hb⟩
  have J0 := hide1 (K0.below hb K0.lt)
  have B1 := hide1 (B0.trans (hb.mono B0.size))
  have HX := hide1 hx
  clear hb hx K0 B0 F0 C1
  rcases x with _ | _
  · have HN := hide1 (gueR_no (l := l) (ad := ad) (key := key) (fun h => by have := HX.out.2 h; cases this))
    clear HX
    go_wp2
    go_ret
    exact ⟨by rw [HN.out]; rfl, B1.out⟩
  · have HOK := hide1 (HX.out.1 rfl)
    have HY := hide1 (gueR_yes (key := key) HOK.out)
    have HL := hide1 HOK.out.1
    have CC := hide1 (fun (r : Nat) (hr : r < 3) w => specAt_any key r w hs hr)
    clear HX
    go_wp2
    go_loopw [5, 6] (fun v iv wr => ∃ (r : Nat) (z : Int), r ≤ 3 ∧ iv = .int .i64 (r : Int) ∧ v = .int .i64 z ∧ Hid (z = leastK l key r) ∧ Hid (Below w1.heap.size w1 wr)) (fun _ iv _ => 3 - (intOf iv).toNat)
    case atStart => exact ⟨0, 15, by omega, rfl, rfl, rfl, Below.refl _ _⟩
    case round =>
      obtain ⟨r, z, hr, rfl, rfl, hz, hb⟩ := hrel
      by_cases hlt : r < 3
      · have k1 : (r : Int) < 3 := by omega
        have ha := atK_lt key r hlt
        have hal : atK key r < l.length := by have := HL.out; omega
        have x0 : wr.cell? ⟨w.heap.size, 0, none⟩ = some (.slice ao l.length ca) := (J0.out.below hb.out J0.out.lt).cell 0
        obtain ⟨b, o, rfl, hbb, h1⟩ := (HA.out.later (B1.out.trans (hb.out.mono B1.out.size))) (atK key r) hal
        rw [gK_get l _ hal] at h1
        have HB : Hid (leastK l key (r + 1) = min (leastK l key r) (gK l (atK key r))) := hide1 rfl
        have CD := hide1 (CC.out r hlt)
        generalize gK l (atK key r) = s at *
        generalize atK key r = k at *
        have k2 : (k : Int) < (l.length : Int) := by omega
        by_cases c1 : s < z
        · have q1 : decide (s < z) = true := by simp [c1]
          have M1 := hide1 (show min z s = s by omega)
          go_wp2_with fail
          go_quiet ((go_at_call 26; exact Calls.quiet_of_same (CD.out _)))
          have F2 : Hid ((wr.drewN nq).cell? ⟨w.heap.size, 0, none⟩ = some (.slice (some ⟨b, o, none⟩) l.length ca) ∧ (wr.drewN nq).cell? ⟨b, o + k, none⟩ = some (.int .i64 s) ∧ Below w1.heap.size w1 (wr.drewN nq)) := ⟨((below_drewN (Below.refl (w.heap.size + 1) wr) _).cell (p := ⟨w.heap.size, 0, none⟩) (by dsimp only; omega)).trans x0, ((below_drewN (Below.refl (b + 1) wr) _).cell (p := ⟨b, o + k, none⟩) (by dsimp only; omega)).trans h1, below_drewN hb.out _⟩
          go_wp2_with fail
          generalize wr.drewN nq = w2 at F2 ⊢
          obtain ⟨x0', h1', hb2⟩ := F2.out
          go_quiet ((go_at_call 26; exact Calls.quiet_of_same (CD.out _)))
          go_wp2
          go_roundw
          case rel => exact ⟨r + 1, s, by omega, by go_num, rfl, by rw [HB.out, ← hz.out]; exact hide1 M1.out.symm, below_drewN hb2 _⟩
          case measure => simp [intOf]; omega
        · have q1 : decide (s < z) = false := by simp; omega
          have M1 := hide1 (show min z s = z by omega)
          go_wp2_with fail
          go_quiet ((go_at_call 26; exact Calls.quiet_of_same (CD.out _)))
          go_wp2
          go_roundw
          case rel => exact ⟨r + 1, z, by omega, by go_num, rfl, by rw [HB.out, ← hz.out]; exact hide1 M1.out.symm, below_drewN hb.out _⟩
          case measure => simp [intOf]; omega
      · obtain rfl : r = 3 := by omega
        go_wp2
        go_ret
        exact ⟨by rw [HY.out, ← hz.out]; rfl, B1.out.trans (hb.out.mono B1.out.size)⟩

theorem own_at1 {w : World} {base n : Nat} {e : TypeId} {v : Value} {xs : List Value} (h : w.ownsRow base e 1 v n xs) (hn : 0 < n) : ∃ g cap, v = .slice (some ⟨g, 0, none⟩) n cap := by
  rcases h.2 with ⟨_, h0⟩ | ⟨g, cap, cur, hv, _⟩
  · omega
  · exact ⟨g, cap, hv⟩
/-- What a maker of the model holds: what came in, its result, the copy that it works on. -/
structure MidK (w wr : World) (x : List Value) (q : Nat) (bo : Option Addr) (n c : Nat) (ad : Int) (L : List Int) : Prop where
  box : Blk wr w.heap.size 28 x
  res : Blk wr (w.heap.size + 1) 28 [.slice none 0 0, .int .i64 0]
  out : Blk wr q 28 [.slice bo n c, .int .i64 ad]
  own : wr.ownsRow w.heap.size 3 1 (.slice bo n c) n (iz L)
  hq : w.heap.size + 1 < q
  ne : ∀ k, (Value.slice bo n c).ownBlock = some k → k < q ∧ w.heap.size + 1 < k
  bel : Below w.heap.size w wr
theorem MidK.later {w wr w' : World} {x : List Value} {q n c : Nat} {bo : Option Addr} {ad : Int} {L : List Int} (h : MidK w wr x q bo n c ad L) (hb : Below wr.heap.size wr w') : MidK w w' x q bo n c ad L :=
  ⟨h.box.below hb h.box.lt, h.res.below hb h.res.lt, h.out.below hb h.out.lt, own_kept h.own hb, h.hq, h.ne, h.bel.trans (hb.mono h.bel.size)⟩
theorem MidK.set {w wr : World} {x : List Value} {q n c b : Nat} {ad : Int} {L : List Int} (h : MidK w wr x q (some ⟨b, 0, none⟩) n c ad L) (i : Nat) (v : Int) : MidK w (wr.setCell ⟨b, i, none⟩ (.int .i64 v)) x q (some ⟨b, 0, none⟩) n c ad (L.set i v) := by
  have hn := h.ne b rfl
  refine ⟨h.box.far _ _ (by dsimp only; omega), h.res.far _ _ (by dsimp only; omega), h.out.far _ _ (by dsimp only; omega), ?_, h.hq, h.ne, h.bel.setCell (p := ⟨b, i, none⟩) (by dsimp only; omega) _⟩
  have := (World.ownsRow.stored h.own i (.int .i64 v)).1
  rw [← iz_set] at this
  exact this
theorem MidK.setAd {w wr : World} {x : List Value} {q n c : Nat} {bo : Option Addr} {ad : Int} {L : List Int} (h : MidK w wr x q bo n c ad L) (v : Int) : MidK w (wr.setCell ⟨q, 1, none⟩ (.int .i64 v)) x q bo n c v L := by
  have hq := h.hq
  refine ⟨h.box.far _ _ (by dsimp only; omega), h.res.far _ _ (by dsimp only; omega), Blk.set h.out 1 _, own_far h.own _ _ (fun k hk => by have := h.ne k hk; dsimp only; omega), h.hq, h.ne, h.bel.setCell (p := ⟨q, 1, none⟩) (by dsimp only; omega) _⟩
theorem MidK.fin {w wr : World} {x : List Value} {q n c : Nat} {bo : Option Addr} {ad : Int} {L : List Int} (h : MidK w wr x q bo n c ad L) (hn : L.length = n) :
    Blk ((wr.setCell ⟨w.heap.size + 1, 0, none⟩ (.slice bo n c)).setCell ⟨w.heap.size + 1, 1, none⟩ (.int .i64 ad)) (w.heap.size + 1) 28 [.slice bo n c, .int .i64 ad] ∧ MadeK w ((wr.setCell ⟨w.heap.size + 1, 0, none⟩ (.slice bo n c)).setCell ⟨w.heap.size + 1, 1, none⟩ (.int .i64 ad)) (.returned (.agg #[.slice bo n c, .int .i64 ad])) (L, ad) := by
  subst hn
  refine ⟨Blk.set (Blk.set h.res 0 _) 1 _, bo, c, rfl, own_far (own_far h.own _ _ ?_) _ _ ?_, (h.bel.setCell (p := ⟨w.heap.size + 1, 0, none⟩) (by dsimp only; omega) _).setCell (p := ⟨w.heap.size + 1, 1, none⟩) (by dsimp only; omega) _⟩
  all_goals
    intro k hk
    have := h.ne k hk
    dsimp only
    omega
/-- Behind the copy, in a variable of its own. -/
theorem MidK.start {w w1 : World} {x : List Value} {n c s : Nat} {bo : Option Addr} {ad : Int} {L : List Int} (h0 : Blk w1 w.heap.size 28 x) (h1 : Blk w1 (w.heap.size + 1) 28 [.slice none 0 0, .int .i64 0]) (hB : Below w.heap.size w w1) (hs : w.heap.size + 1 < s) (ho : w1.ownsRow s 3 1 (.slice bo n c) n (iz L)) :
    MidK w (w1.alloc (.cells #[.slice bo n c, .int .i64 ad] 28)) x w1.heap.size bo n c ad L :=
  ⟨h0.more _, h1.more _, Blk.new w1 _ _, own_base (ho.alloc _) (by omega), h1.lt, (fun k hk => by have := ho.lt k hk; omega), hB.alloc hB.size _⟩

end Go.Proofs.Ythigmdocfjhdlaa
