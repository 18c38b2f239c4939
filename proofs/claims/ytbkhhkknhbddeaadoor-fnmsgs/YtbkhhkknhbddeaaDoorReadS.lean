/- The contract of the model's reader of a number in bytes: at every text and place. -/
import Derived.Test.YtbkhhkknhbddeaaDoorRead
import Derived.Test.YtbkhhkknhbddeaaDoorKitB
import Derived.Deep.RegionHeld3
import Derived.Deep.QuietTactic
import Derived.BigQuiet
namespace Go.Proofs.YtbkhhkknhbddeaaDoor
open Go.RowKit
set_option maxRecDepth 100000

set_option maxRecDepth 100000 in
set_option maxHeartbeats 400000 in
theorem specReadVar_in (s : ByteArray) (p : Nat) (w : World) (hs : s.size ≤ 1048576) (hp : p ≤ s.size) :
    Calls Tryd.prog 63 #[.string s, .int .i64 p] w fun e w' => e = .returned (rdV (rdF (byt s) s.size 5 p 0 1)) ∧ Below w.heap.size w w' := by
  go_enter Tryd.func63, Tryd.ntmps63
  go_wp2_with (go_at_call 29; refine (l01In_yes _ _ _ _ (by omega) (by omega)).mono ?_; rintro e w1 ⟨rfl, rfl⟩)
  go_loopw [7, 8, 9] (fun nv wv iv wr => ∃ (f k n wt : Nat), k ≤ 5 ∧ p + k ≤ s.size ∧ Hid (RdAt (byt s) s.size p f k n wt) ∧ Hid (RdSp s.data.toList p k n) ∧ nv = .int .i64 (n : Int) ∧ wv = .int .i64 (wt : Int) ∧ iv = .int .i64 ((p + k : Nat) : Int) ∧ Below w.heap.size w wr) (fun _ _ iv _ => s.size - (intOf iv).toNat)
  case atStart => exact ⟨5, 0, 0, 1, by omega, by omega, RdAt.start _ _ _, RdSp.start _ _, rfl, rfl, rfl, Below.refl _ _⟩
  case round =>
    obtain ⟨f, k, n, wt, hk, hpk, hr, hq, rfl, rfl, rfl, hbel⟩ := hrel
    by_cases hlt : p + k < s.size ∧ k < 5
    · obtain ⟨h1, h2⟩ := hlt
      obtain ⟨hw1, hw2⟩ := hr.out.bd h2
      have hn := hr.out.lt
      have hb := get_byt s
      have hb1 := byt_le s (p + k)
      have hx1 := mul_bd (byt s (p + k)) wt
      have hfirst : Hid _ := hr.out.first h2
      obtain ⟨x, hx⟩ : ∃ x, x = byt s (p + k) % 128 * wt := ⟨_, rfl⟩
      have hxi : ((byt s (p + k) : Int) % 128 * (wt : Int)) = (x : Int) := by rw [hx]; simp
      have HX : Hid _ := hx
      rw [← hx] at hx1
      clear hx
      obtain ⟨b, hbb, hbn⟩ : ∃ b : UInt8, Hid (s.data.toList[p + k]? = some b) ∧ Hid (b.toNat = byt s (p + k)) :=
        ⟨_, byt_some s (p + k) h1, by show (UInt8.ofNat (byt s (p + k))).toNat = _; rw [UInt8.toNat_ofNat']; omega⟩
      have hwk : Hid _ := hr.out.w
      by_cases c1 : 127 < byt s (p + k)
      · go_wp2
        go_roundw
        case rel =>
          obtain ⟨g, hg⟩ := hr.out.more h2 h1 c1
          refine ⟨g, k + 1, n + x, wt * 128, by omega, by omega, by rw [HX.out]; exact hg, ?_, by go_num, by go_num, by go_num, hbel⟩
          have := hq.out.more hbb.out (by rw [hbn.out]; exact c1)
          rw [hbn.out, ← hwk.out, ← HX.out] at this
          exact this
        case measure => simp [intOf]; omega
      · by_cases c2 : 1000000000 < n + x
        · have c2' : decide (1000000000 < (n : Int) + (x : Int)) = true := by simp; omega
          go_wp2_with fail
          go_quiet (fail)
          go_wp2
          go_ret3
          exact ⟨by rw [hr.out.no h2 h1 (by omega) (.inr (by rw [← HX.out]; exact c2))]; rfl, below_drewN hbel _⟩
        · have c2' : decide (1000000000 < (n : Int) + (x : Int)) = false := by simp; omega
          obtain ⟨y, hy, hys, hsl⟩ := slice_str (P := Tryd.prog) 9 Tryd.underlying9 s p (p + k + 1) (p : Int) ((p : Int) + (k : Int) + 1) rfl (by omega) (by omega) (by omega)
          have hback := hq.out.back (by omega) hbb.out (by rw [hbn.out]; omega)
          rw [hbn.out, ← hwk.out, ← HX.out, show k + 1 = p + k + 1 - p by omega, ← hy.out] at hback
          have cc := fun w => l01Var_any (n + x) w (by omega)
          obtain ⟨z, hz⟩ : ∃ z : ByteArray, z = ⟨(varB (n + x)).toArray⟩ := ⟨_, rfl⟩
          rw [← hz] at cc
          have hzl : z.toList = varB (n + x) := by rw [hz, ByteArray.toList_eq]
          rw [← hzl] at hback
          have CC : Hid _ := cc
          clear hz hzl cc
          have hwr : IntKind.i64.wrap ((p : Int) + (k : Int) + 1) = (p : Int) + (k : Int) + 1 := IntWalk.i64_in _ ⟨by omega, by omega⟩
          by_cases c3 : byt s (p + k) = 0 ∧ 0 < k
          · have hne : (z.toList == y.toList) = false := by rw [beq_eq_false_iff_ne]; intro h; exact (hback.1 h) c3
            have hfin : Hid _ := hr.out.no h2 h1 (by omega) (.inl ⟨c3.1, hfirst.out.2 c3.2⟩)
            clear c3 hback
            go_wp2_with fail
            go_region_held3 (fun _ => True) (trivial) ((go_at_call 44; refine (CC.out _).mono ?_; rintro e w1 ⟨rfl, hb2⟩))
            go_wp2
            go_ret3
            exact ⟨by rw [hfin.out]; rfl, hbel.drew.trans (hb2.mono hbel.size)⟩
          · have hne : (z.toList == y.toList) = true := by rw [beq_iff_eq]; exact hback.2 c3
            have hfin : Hid _ := hr.out.yes h2 h1 (by omega) (by rw [← HX.out]; have := hfirst.out; omega)
            rw [← HX.out] at hfin
            clear c3 hback
            go_wp2_with fail
            go_region_held3 (fun _ => True) (trivial) ((go_at_call 44; refine (CC.out _).mono ?_; rintro e w1 ⟨rfl, hb2⟩))
            go_wp2
            go_ret3
            exact ⟨by rw [hfin.out]; rfl, hbel.drew.trans (hb2.mono hbel.size)⟩
    · by_cases h1 : p + k < s.size
      all_goals
        go_wp2
        go_ret3
        exact ⟨by rw [hr.out.done hlt hk]; rfl, hbel⟩

theorem specReadVar_any (s : ByteArray) (p : Int) (w : World) (hs : s.size ≤ 1048576) :
    Calls Tryd.prog 63 #[.string s, .int .i64 p] w fun e w' => e = .returned (readVarV s p) ∧ Below w.heap.size w w' := by
  by_cases h : p < 0 ∨ (s.size : Int) < p
  · rw [readVarV_no h]
    go_enter Tryd.func63, Tryd.ntmps63
    go_wp2_with (go_at_call 29; refine (l01In_no _ _ _ _ h).mono ?_; rintro e w1 ⟨rfl, rfl⟩)
    go_ret3
    exact ⟨rfl, Below.refl _ _⟩
  · obtain ⟨n, rfl⟩ := Int.eq_ofNat_of_zero_le (show 0 ≤ p by omega)
    rw [readVarV_in (by omega)]
    exact specReadVar_in s n w hs (by omega)
end Go.Proofs.YtbkhhkknhbddeaaDoor
