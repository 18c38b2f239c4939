/- Seeking a key among cells, plain and by the model. -/
import Derived.Test.YtldbdmofjckjkaaTabH
import Derived.Test.YtldbdmofjckjkaaTabE
import Derived.Test.YtldbdmofjckjkaaRoom
import Derived.Deep.Cut
namespace Go.Proofs.Ytldbdmofjckjkaa
open Go.RowKit

/-- What one cell on the way says: found here, not there at all, or go on. -/
def stepS (l : List Ce) (key : ByteArray) (p : Nat) : Option (Option Nat) :=
  match l[p]? with
  | some x => if x.key.toList = key.toList ∧ 0 ≤ x.h then some (some p) else if x.key.toList = [] ∧ x.h = -1 then some none else none
  | none => some none
def seekD (l : List Ce) (key : ByteArray) (p : Nat) : Nat → Nat → Option Nat
  | _, 0 => none
  | i, d + 1 => match stepS l key ((p + i) % l.length) with
    | some r => r
    | none => seekD l key p (i + 1) d
/-- The place of a key among cells. -/
def seekC (l : List Ce) (key : ByteArray) : Option Nat := seekD l key (hashN key 0 % l.length) 0 l.length
def optI : Option Nat → Int
  | none => -1
  | some k => (k : Int)
theorem seekD_lt {l : List Ce} {key : ByteArray} {p : Nat} : ∀ (d i k : Nat), seekD l key p i d = some k → k < l.length
  | 0, _, _, h => by cases h
  | d + 1, i, k, h => by
    rw [seekD] at h
    have hs : ∀ r, stepS l key ((p + i) % l.length) = some (some r) → r < l.length := by
      intro r hr
      unfold stepS at hr
      split at hr
      · rename_i x hx
        split at hr
        · injection hr with hr; injection hr with hr; rw [← hr]; exact (List.getElem?_eq_some_iff.1 hx).1
        · split at hr <;> cases hr
      · cases hr
    split at h
    · rename_i r hr; subst h; exact hs k hr
    · exact seekD_lt d (i + 1) k h

theorem l04Size_any (n : Nat) (w : World) : Calls Try.prog 67 #[.int .i64 (n : Int)] w fun e w' => ∃ x : Bool, e = .returned (.bool x) ∧ (x = true ↔ n = 4 ∨ n = 8 ∨ n = 16 ∨ n = 32 ∨ n = 64) ∧ w = w' := by
  by_cases c1 : n = 4
  · subst c1
    go_enter Try.func67, Try.ntmps67
    go_wp2
    go_ret
    first | exact ⟨true, rfl, by simp, rfl⟩ | exact .inr ⟨rfl, by simp, rfl⟩
  · by_cases c2 : n = 8
    · subst c2
      go_enter Try.func67, Try.ntmps67
      go_wp2
      go_ret
      exact ⟨true, rfl, by simp, rfl⟩
    · by_cases c3 : n = 16
      · subst c3
        go_enter Try.func67, Try.ntmps67
        go_wp2
        go_ret
        exact ⟨true, rfl, by simp, rfl⟩
      · by_cases c4 : n = 32
        · subst c4
          go_enter Try.func67, Try.ntmps67
          go_wp2
          go_ret
          exact ⟨true, rfl, by simp, rfl⟩
        · by_cases c5 : n = 64
          · subst c5
            go_enter Try.func67, Try.ntmps67
            go_wp2
            go_ret
            exact ⟨true, rfl, by simp, rfl⟩
          · have q1 : ((n : Int) == 4) = false := by simp; omega
            have q2 : ((n : Int) == 8) = false := by simp; omega
            have q3 : ((n : Int) == 16) = false := by simp; omega
            have q4 : ((n : Int) == 32) = false := by simp; omega
            have q5 : ((n : Int) == 64) = false := by simp; omega
            have HN := hide1 (show ¬ (n = 4 ∨ n = 8 ∨ n = 16 ∨ n = 32 ∨ n = 64) by omega)
            clear c1 c2 c3 c4 c5
            go_enter Try.func67, Try.ntmps67
            go_wp2
            go_ret
            first | exact ⟨false, rfl, ⟨(fun h => by cases h), fun h => absurd h HN.out⟩, rfl⟩ | exact .inl ⟨rfl, HN.out, rfl⟩

set_option maxRecDepth 100000 in
set_option maxHeartbeats 1000000 in
theorem specSeek_any (ao : Option Addr) (l : List Ce) (ca : Nat) (key : ByteArray) (w : World) (hl : l.length ≤ 1048576) (hk : key.size ≤ 1048576) (hA : RdC w ao l) :
    Calls Try.prog 46 #[.slice ao l.length ca, .string key] w fun e w' => e = .returned (.int .i64 (optI (seekC l key))) ∧ Below w.heap.size w w' := by
  by_cases c0 : l.length = 0
  · have q0 : ((l.length : Int) == 0) = true := by simp [c0]
    have HE := hide1 (show seekC l key = none by rw [seekC, c0]; rfl)
    clear hA c0
    go_enter Try.func46, Try.ntmps46
    go_wp2
    go_ret
    exact ⟨by rw [HE.out]; rfl, Below.refl _ _⟩
  · have q0 : ((l.length : Int) == 0) = false := by simp; intro h; exact c0 (by rw [h]; rfl)
    have hn1 : 1 ≤ l.length := by omega
    have CH := hide1 (specHash_any key 0 w hk (by omega) (by omega))
    obtain ⟨hn, hhn⟩ : ∃ hn, hashN key 0 = hn := ⟨_, rfl⟩
    have hh4 : hn < 4294967296 := by rw [← hhn]; exact hashN_lt key 0
    obtain ⟨p, hp⟩ : ∃ p, hn % l.length = p := ⟨_, rfl⟩
    have hpl : p < l.length := by rw [← hp]; exact Nat.mod_lt _ (by omega)
    have ep : (hn : Int) % (l.length : Int) = (p : Int) := by rw [← hp]; first | exact (Int.natCast_emod hn l.length).symm | exact (Int.ofNat_emod hn l.length).symm | (push_cast; rfl)
    have HS := hide1 (show seekC l key = seekD l key p 0 l.length by rw [seekC, hhn, hp])
    rw [hhn] at CH
    have HA := hide1 hA
    have q1 : ¬ (l.length : Int) = 0 := by omega
    have EP := hide1 ep
    clear hA hhn hp c0 ep
    go_enter Try.func46, Try.ntmps46
    go_wp2_with fail
    refine CH.out.mono ?_
    rintro e w1 ⟨rfl, rfl⟩
    go_upto_region 5 with fail
    rw [EP.out]
    go_wp2
    go_loopw [7] (fun iv wr => ∃ i : Nat, i ≤ l.length ∧ iv = .int .i64 (i : Int) ∧ Hid (seekC l key = seekD l key p i (l.length - i)) ∧ Hid (Below w.heap.size w wr)) (fun iv _ => l.length - (intOf iv).toNat)
    case atStart => exact ⟨0, by omega, rfl, HS.out, Below.refl _ _⟩
    case round =>
      obtain ⟨i, hi, rfl, hS, hbel⟩ := hrel
      by_cases hlt : i < l.length
      · have k1 : (i : Int) < (l.length : Int) := by omega
        obtain ⟨q, hq⟩ : ∃ q, (p + i) % l.length = q := ⟨_, rfl⟩
        have hql : q < l.length := by rw [← hq]; exact Nat.mod_lt _ (by omega)
        have eq : ((p : Int) + (i : Int)) % (l.length : Int) = (q : Int) := by
          rw [← hq, show (p : Int) + (i : Int) = ((p + i : Nat) : Int) by omega]
          first | exact (Int.natCast_emod (p + i) l.length).symm | exact (Int.ofNat_emod (p + i) l.length).symm
        have kq : (q : Int) < (l.length : Int) := by omega
        obtain ⟨g, rfl, hg, h1⟩ := HA.out.at q hql
        obtain ⟨x0, x1⟩ := h1.below hbel.out hg
        have hst : Hid (stepS l key q = if l[q].key.toList = key.toList ∧ 0 ≤ l[q].h then some (some q) else if l[q].key.toList = [] ∧ l[q].h = -1 then some none else none) := by
          show stepS l key q = _
          unfold stepS
          rw [List.getElem?_eq_getElem hql]
        have hsd : Hid (seekC l key = match stepS l key q with | some r => r | none => seekD l key p (i + 1) (l.length - (i + 1))) := by
          show seekC l key = _
          rw [hS.out, show l.length - i = (l.length - (i + 1)) + 1 by omega, seekD, hq]
        generalize l[q] = s at *
        obtain ⟨ky, hh⟩ := s
        simp only at x0 x1 hst
        have BX : Hid (Below w.heap.size w (wr.alloc (.cells #[.string ky, .int .i64 hh] 47))) := hbel.out.alloc hbel.out.size _
        have NN : Hid ((wr.alloc (.cells #[.string ky, .int .i64 hh] 47)).cell? ⟨wr.heap.size, 0, none⟩ = some (.string ky) ∧ (wr.alloc (.cells #[.string ky, .int .i64 hh] 47)).cell? ⟨wr.heap.size, 1, none⟩ = some (.int .i64 hh)) := ⟨World.cell?_alloc_at _ _ _ _ rfl, World.cell?_alloc_at _ _ _ _ rfl⟩
        clear hq h1 hS
        go_upto_region 9 with fail
        generalize (wr.alloc (.cells #[.string ky, .int .i64 hh] 47)) = wv at NN BX ⊢
        obtain ⟨n0, n1⟩ := NN.out
        clear NN x0 x1 hbel
        by_cases d1 : ky.toList = key.toList
        · have b1 : (ky.toList == key.toList) = true := by simp [d1]
          by_cases d2 : 0 ≤ hh
          · have b2 : decide (0 ≤ hh) = true := decide_eq_true d2
            have HR := hide1 (show seekC l key = some q by rw [hsd.out, hst.out, if_pos ⟨d1, d2⟩])
            clear d1 hst hsd
            go_wp2
            go_ret
            exact ⟨by rw [HR.out]; first | rfl | (show Ending.returned (.int .i64 _) = _; rw [eq]; rfl), BX.out⟩
          · have b2 : decide (0 ≤ hh) = false := decide_eq_false d2
            have HNO : Hid (¬ (ky.toList = key.toList ∧ 0 ≤ hh)) := fun h => d2 h.2
            clear d1 d2
            go_upto_region 11 with fail
            clear b1 b2
            by_cases d3 : ky.toList = []
            · have b3 : ky.toList.isEmpty = true := by rw [d3]; rfl
              by_cases d4 : hh = -1
              · have b4 : (hh == (-1 : Int)) = true := by simp [d4]
                have HR := hide1 (show seekC l key = none by rw [hsd.out, hst.out, if_neg HNO.out, if_pos ⟨d3, d4⟩])
                clear hst hsd HNO d4
                go_wp2
                go_ret
                exact ⟨by rw [HR.out]; rfl, BX.out⟩
              · have b4 : (hh == (-1 : Int)) = false := by simp [d4]
                have HR := hide1 (show seekC l key = seekD l key p (i + 1) (l.length - (i + 1)) by rw [hsd.out, hst.out, if_neg HNO.out, if_neg (fun h => d4 h.2)])
                clear hst hsd HNO d4
                go_wp2
                go_roundw
                case rel => exact ⟨i + 1, by omega, by go_num, HR, BX⟩
                case measure => simp [intOf]; omega
            · have b3 : ky.toList.isEmpty = false := by cases h : ky.toList with | nil => exact absurd h d3 | cons a b => rfl
              have HR := hide1 (show seekC l key = seekD l key p (i + 1) (l.length - (i + 1)) by rw [hsd.out, hst.out, if_neg HNO.out, if_neg (fun h => d3 h.1)])
              clear hst hsd HNO
              go_wp2
              go_roundw
              case rel => exact ⟨i + 1, by omega, by go_num, HR, BX⟩
              case measure => simp [intOf]; omega
        · have b1 : (ky.toList == key.toList) = false := by simp [d1]
          have HNO : Hid (¬ (ky.toList = key.toList ∧ 0 ≤ hh)) := fun h => d1 h.1
          clear d1
          go_upto_region 11 with fail
          clear b1
          by_cases d3 : ky.toList = []
          · have b3 : ky.toList.isEmpty = true := by rw [d3]; rfl
            by_cases d4 : hh = -1
            · have b4 : (hh == (-1 : Int)) = true := by simp [d4]
              have HR := hide1 (show seekC l key = none by rw [hsd.out, hst.out, if_neg HNO.out, if_pos ⟨d3, d4⟩])
              clear hst hsd HNO d4
              go_wp2
              go_ret
              exact ⟨by rw [HR.out]; rfl, BX.out⟩
            · have b4 : (hh == (-1 : Int)) = false := by simp [d4]
              have HR := hide1 (show seekC l key = seekD l key p (i + 1) (l.length - (i + 1)) by rw [hsd.out, hst.out, if_neg HNO.out, if_neg (fun h => d4 h.2)])
              clear hst hsd HNO d4
              go_wp2
              go_roundw
              case rel => exact ⟨i + 1, by omega, by go_num, HR, BX⟩
              case measure => simp [intOf]; omega
          · have b3 : ky.toList.isEmpty = false := by cases h : ky.toList with | nil => exact absurd h d3 | cons a b => rfl
            have HR := hide1 (show seekC l key = seekD l key p (i + 1) (l.length - (i + 1)) by rw [hsd.out, hst.out, if_neg HNO.out, if_neg (fun h => d3 h.1)])
            clear hst hsd HNO
            go_wp2
            go_roundw
            case rel => exact ⟨i + 1, by omega, by go_num, HR, BX⟩
            case measure => simp [intOf]; omega
      · obtain rfl : i = l.length := by omega
        have k1 : decide ((l.length : Int) < (l.length : Int)) = false := by simp
        have HR := hide1 (show seekC l key = none by rw [hS.out, Nat.sub_self]; rfl)
        go_wp2
        go_ret
        exact ⟨by rw [HR.out]; rfl, hbel.out⟩
end Go.Proofs.Ytldbdmofjckjkaa
