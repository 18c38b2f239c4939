/- The first cell without a key on a key's way, and putting a key there, by the model. -/
import Derived.Test.YtldbdmofjckjkaaTabN
import Derived.Test.YtldbdmofjckjkaaTabO
namespace Go.Proofs.Ytldbdmofjckjkaa
open Go.RowKit

/-- The first place without a key, from the i-th step on. -/
def freeD (l : List Ce) (p : Nat) : Nat → Nat → Option Nat
  | _, 0 => none
  | i, d + 1 => match l[(p + i) % l.length]? with
    | some x => if x.key.toList = [] then some ((p + i) % l.length) else freeD l p (i + 1) d
    | none => none
def freeC (l : List Ce) (key : ByteArray) : Option Nat := freeD l (hashN key 0 % l.length) 0 l.length
/-- How many of the first cells nobody took. -/
def noneN (l : List Ce) : Nat → Nat
  | 0 => 0
  | i + 1 => noneN l i + (match l[i]? with | some x => if x.key.toList = [] ∧ x.h = -1 then 1 else 0 | none => 0)
theorem noneN_le (l : List Ce) : ∀ i, noneN l i ≤ i
  | 0 => Nat.le_refl _
  | i + 1 => by
    have := noneN_le l i
    rw [noneN]
    split
    · split <;> omega
    · omega
theorem freeD_lt {l : List Ce} {p : Nat} : ∀ (d i k : Nat), freeD l p i d = some k → k < l.length
  | 0, _, _, h => by cases h
  | d + 1, i, k, h => by
    rw [freeD] at h
    split at h
    · rename_i x hx
      split at h
      · injection h with h; rw [← h]; exact (List.getElem?_eq_some_iff.1 hx).1
      · exact freeD_lt d (i + 1) k h
    · cases h

set_option maxRecDepth 100000 in
set_option maxHeartbeats 1000000 in
theorem specFree_any (ao : Option Addr) (l : List Ce) (ca : Nat) (key : ByteArray) (w : World) (hl : l.length ≤ 1048576) (h1 : 1 ≤ l.length) (hk : key.size ≤ 1048576) (hA : RdC w ao l) :
    Calls Try.prog 69 #[.slice ao l.length ca, .string key] w fun e w' => e = .returned (.tuple #[.int .i64 (optI (freeC l key)), .int .i64 (noneN l l.length : Int)]) ∧ w' = w := by
  have CH := hide1 (specHash_any key 0 w hk (by omega) (by omega))
  obtain ⟨hn, hhn⟩ : ∃ hn, hashN key 0 = hn := ⟨_, rfl⟩
  have hh4 : hn < 4294967296 := by rw [← hhn]; exact hashN_lt key 0
  obtain ⟨p, hp⟩ : ∃ p, hn % l.length = p := ⟨_, rfl⟩
  have hpl : p < l.length := by rw [← hp]; exact Nat.mod_lt _ (by omega)
  have EP : Hid ((hn : Int) % (l.length : Int) = (p : Int)) := by
    show _ = _
    rw [← hp]
    exact (Int.natCast_emod hn l.length).symm
  have HS := hide1 (show freeC l key = freeD l p 0 l.length by rw [freeC, hhn, hp])
  rw [hhn] at CH
  have HA := hide1 hA
  have q0 : ((l.length : Int) == 0) = false := by simp; intro h; rw [h] at h1; simp at h1
  have q1 : ¬ (l.length : Int) = 0 := by omega
  clear hA hhn hp
  go_enter Try.func69, Try.ntmps69
  go_wp2
  go_loop [6, 7] (fun nv iv => ∃ (i n : Nat), i ≤ l.length ∧ iv = .int .i64 (i : Int) ∧ nv = .int .i64 (n : Int) ∧ n ≤ i ∧ Hid (n = noneN l i)) (fun _ iv => l.length - (intOf iv).toNat)
  case atStart => exact ⟨0, 0, by omega, rfl, rfl, Nat.le_refl _, rfl⟩
  case round =>
    obtain ⟨i, n, hi, rfl, rfl, hni, hnn⟩ := hrel
    by_cases hlt : i < l.length
    · have k1 : (i : Int) < (l.length : Int) := by omega
      obtain ⟨g, hao, hg, hc⟩ := HA.out.at i hlt
      obtain ⟨x0, x1⟩ := hc
      have hnx : Hid (noneN l (i + 1) = n + (if l[i].key.toList = [] ∧ l[i].h = -1 then 1 else 0)) := by
        show noneN l (i + 1) = _
        rw [noneN, List.getElem?_eq_getElem hlt, hnn.out]
      rw [hao]
      generalize l[i] = s at *
      obtain ⟨ky, hh⟩ := s
      simp only at x0 x1 hnx
      by_cases d1 : ky.toList = []
      · have b1 : ky.toList.isEmpty = true := by rw [d1]; rfl
        by_cases d2 : hh = -1
        · have b2 : (hh == (-1 : Int)) = true := by simp [d2]
          have HY : Hid (n + 1 = noneN l (i + 1)) := by show n + 1 = _; rw [hnx.out, if_pos ⟨d1, d2⟩]
          clear d2 hnx
          go_wp2
          go_round
          case rel => exact ⟨i + 1, n + 1, by omega, by go_num, by go_num, by omega, HY⟩
          case measure => simp [intOf]; omega
        · have b2 : (hh == (-1 : Int)) = false := by simp [d2]
          have HY : Hid (n = noneN l (i + 1)) := by show n = _; rw [hnx.out, if_neg (fun h => d2 h.2)]; rfl
          clear d2 hnx
          go_wp2
          go_round
          case rel => exact ⟨i + 1, n, by omega, by go_num, rfl, by omega, HY⟩
          case measure => simp [intOf]; omega
      · have b1 : ky.toList.isEmpty = false := by cases h : ky.toList with | nil => exact absurd h d1 | cons a b => rfl
        have HY : Hid (n = noneN l (i + 1)) := by show n = _; rw [hnx.out, if_neg (fun h => d1 h.1)]; rfl
        clear hnx
        go_wp2
        go_round
        case rel => exact ⟨i + 1, n, by omega, by go_num, rfl, by omega, HY⟩
        case measure => simp [intOf]; omega
    · obtain rfl : i = l.length := by omega
      have k1 : decide ((l.length : Int) < (l.length : Int)) = false := by simp
      have HNN := hide1 hnn.out
      clear hnn
      go_wp2_with fail
      refine CH.out.mono ?_
      rintro e w1 ⟨rfl, rfl⟩
      go_upto_region 9 with fail
      rw [EP.out]
      go_wp2
      go_loop [10] (fun iv => ∃ i : Nat, i ≤ l.length ∧ iv = .int .i64 (i : Int) ∧ Hid (freeC l key = freeD l p i (l.length - i))) (fun iv => l.length - (intOf iv).toNat)
      case atStart => exact ⟨0, by omega, rfl, HS.out⟩
      case round =>
        obtain ⟨i, hi2, rfl, hS⟩ := hrel
        by_cases hlt2 : i < l.length
        · have k2 : (i : Int) < (l.length : Int) := by omega
          obtain ⟨q, hq⟩ : ∃ q, (p + i) % l.length = q := ⟨_, rfl⟩
          have hql : q < l.length := by rw [← hq]; exact Nat.mod_lt _ (by omega)
          have eq : ((p : Int) + (i : Int)) % (l.length : Int) = (q : Int) := by
            rw [← hq, show (p : Int) + (i : Int) = ((p + i : Nat) : Int) by omega]
            exact (Int.natCast_emod (p + i) l.length).symm
          have kq : (q : Int) < (l.length : Int) := by omega
          obtain ⟨g, hao, hg, hc⟩ := HA.out.at q hql
          have x0 := hc.1
          have hsd : Hid (freeC l key = if l[q].key.toList = [] then some q else freeD l p (i + 1) (l.length - (i + 1))) := by
            show freeC l key = _
            rw [hS.out, show l.length - i = (l.length - (i + 1)) + 1 by omega, freeD, hq, List.getElem?_eq_getElem hql]
          rw [hao]
          generalize l[q].key = ky at *
          clear hq hc hS
          by_cases d1 : ky.toList = []
          · have b1 : ky.toList.isEmpty = true := by rw [d1]; rfl
            have HR := hide1 (show freeC l key = some q by rw [hsd.out, if_pos d1])
            clear hsd
            go_wp2
            go_ret2
            exact ⟨by rw [HR.out, ← HNN.out]; first | rfl | (show Ending.returned (.tuple #[.int .i64 _, _]) = _; rw [eq]; rfl), rfl⟩
          · have b1 : ky.toList.isEmpty = false := by cases h : ky.toList with | nil => exact absurd h d1 | cons a b => rfl
            have HR := hide1 (show freeC l key = freeD l p (i + 1) (l.length - (i + 1)) by rw [hsd.out, if_neg d1])
            clear hsd
            go_wp2
            go_round
            case rel => exact ⟨i + 1, by omega, by go_num, HR⟩
            case measure => simp [intOf]; omega
        · obtain rfl : i = l.length := by omega
          have HR := hide1 (show freeC l key = none by rw [hS.out, Nat.sub_self]; rfl)
          go_wp2
          go_ret2
          exact ⟨by rw [HR.out, ← HNN.out]; rfl, rfl⟩

/-- A key put into cells where there is room. -/
def putC (l : List Ce) (key : ByteArray) (h : Int) : Option (List Ce) :=
  match freeC l key with
  | some k => match l[k]? with
    | some x => if noneN l l.length ≤ 1 ∧ x.h = -1 then none else some (l.set k ⟨key, h⟩)
    | none => none
  | none => none

set_option maxRecDepth 100000 in
set_option maxHeartbeats 1000000 in
theorem specPut_any (g c base : Nat) (l : List Ce) (key : ByteArray) (h : Int) (w : World) (hl : l.length ≤ 1048576) (h1 : 1 ≤ l.length) (hk : key.size ≤ 1048576) (hown : w.ownsRow base 47 2 (.slice (some ⟨g, 0, none⟩) l.length c) l.length (ces l)) :
    Calls Try.prog 47 #[.slice (some ⟨g, 0, none⟩) l.length c, .string key, .int .i64 h] w fun e w' => ((∃ l', putC l key h = some l' ∧ e = .returned (.bool true) ∧ w'.ownsRow base 47 2 (.slice (some ⟨g, 0, none⟩) l.length c) l.length (ces l')) ∨ (putC l key h = none ∧ e = .returned (.bool false) ∧ w' = w)) ∧ w.grownBy w' (some g) := by
  have CF := hide1 (specFree_any (some ⟨g, 0, none⟩) l c key w hl h1 hk (rdC_of_own hown))
  have HO := hide1 hown
  clear hown
  have n4 := noneN_le l l.length
  rcases hf : freeC l key with _ | k
  · have HP := hide1 (show putC l key h = none by rw [putC, hf])
    rw [hf] at CF
    unfold optI at CF
    clear hf
    go_enter Try.func47, Try.ntmps47
    go_wp2_with fail
    refine CF.out.mono ?_
    rintro e w1 ⟨rfl, rfl⟩
    go_wp2
    go_ret
    exact ⟨.inr ⟨HP.out, rfl, rfl⟩, World.grownBy.refl _ _⟩
  · have hkl : k < l.length := freeD_lt _ _ _ hf
    have k1 : (k : Int) < (l.length : Int) := by omega
    have q0 : decide ((k : Int) < 0) = false := by simp
    have hpc : Hid (putC l key h = if noneN l l.length ≤ 1 ∧ l[k].h = -1 then none else some (l.set k ⟨key, h⟩)) := by
      show putC l key h = _
      rw [putC, hf]
      simp only []
      rw [List.getElem?_eq_getElem hkl]
    have x0 : w.cell? ⟨g, k * 2, none⟩ = some (.string l[k].key) := (HO.out.cellAt (k * 2) (by omega)).trans (ces_at l k 0 hkl (by omega))
    have x1 : w.cell? ⟨g, k * 2 + 1, none⟩ = some (.int .i64 l[k].h) := (HO.out.cellAt (k * 2 + 1) (by omega)).trans (ces_at l k 1 hkl (by omega))
    have f0 := HO.out.frozenAt (k * 2)
    have f1 := HO.out.frozenAt (k * 2 + 1)
    have OS := hide1 (own_set2 HO.out rfl k hkl ⟨key, h⟩)
    rw [hf] at CF
    unfold optI at CF
    generalize l[k].h = xh at *
    generalize noneN l l.length = nn at *
    have GS : Hid (w.grownBy ((w.setCell ⟨g, k * 2, none⟩ (.string key)).setCell ⟨g, k * 2 + 1, none⟩ (.int .i64 h)) (some g)) := gset (gset (World.grownBy.refl _ _) (k * 2) (.string key)) (k * 2 + 1) (.int .i64 h)
    clear hf
    by_cases e1 : nn ≤ 1
    · have q1 : (nn : Int) ≤ 1 := by omega
      by_cases e2 : xh = -1
      · have q2 : (xh == (-1 : Int)) = true := by simp [e2]
        have HP := hide1 (show putC l key h = none by rw [hpc.out, if_pos ⟨e1, e2⟩])
        clear e2 hpc
        go_enter Try.func47, Try.ntmps47
        go_wp2_with fail
        refine CF.out.mono ?_
        rintro e w1 ⟨rfl, rfl⟩
        go_wp2
        go_ret
        exact ⟨.inr ⟨HP.out, rfl, rfl⟩, World.grownBy.refl _ _⟩
      · have q2 : (xh == (-1 : Int)) = false := by simp [e2]
        have HP := hide1 (show putC l key h = some (l.set k ⟨key, h⟩) by rw [hpc.out, if_neg (fun h => e2 h.2)])
        clear e2 hpc
        go_enter Try.func47, Try.ntmps47
        go_wp2_with fail
        refine CF.out.mono ?_
        rintro e w1 ⟨rfl, rfl⟩
        go_wp2
        go_ret
        exact ⟨.inl ⟨_, HP.out, rfl, OS.out⟩, GS.out⟩
    · have q1 : decide ((nn : Int) ≤ 1) = false := decide_eq_false (by omega)
      have HP := hide1 (show putC l key h = some (l.set k ⟨key, h⟩) by rw [hpc.out, if_neg (fun h => e1 h.1)])
      clear hpc
      go_enter Try.func47, Try.ntmps47
      go_wp2_with fail
      refine CF.out.mono ?_
      rintro e w1 ⟨rfl, rfl⟩
      go_wp2
      go_ret
      exact ⟨.inl ⟨_, HP.out, rfl, OS.out⟩, GS.out⟩
end Go.Proofs.Ytldbdmofjckjkaa
