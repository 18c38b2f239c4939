/- The model's functions on queues: whether one is right, a key is there, all others. -/
import Derived.Test.YtaafofgfeaodhaaQuJ
namespace Go.Proofs.Ytaafofgfeaodhaa
open Go.RowKit

theorem inQ (x lo hi : Int) (w : World) : Calls Try.prog 43 #[.int .i64 x, .int .i64 lo, .int .i64 hi] w fun e w' => e = .returned (.bool (decide (lo ≤ x) && decide (x ≤ hi))) ∧ w' = w :=
  (in_any x lo hi w).mono fun _ _ h => ⟨h.1, h.2.symm⟩

set_option maxRecDepth 100000 in
set_option maxHeartbeats 800000 in
theorem specHas_any (ao : Option Addr) (l : List ByteArray) (ca : Nat) (m : Int) (k : ByteArray) (w : World) (hl : l.length ≤ 1048576) (hA : RdQ w ao l) :
    Calls Try.prog 29 #[.agg #[.int .i64 m, .slice ao l.length ca], .string k] w fun e w' => e = .returned (.bool (hasQ l k)) ∧ Below w.heap.size w w' := by
  have BX := hide1 (Blk.new w 26 #[.int .i64 m, .slice ao l.length ca])
  have B0 := hide1 ((Below.refl w.heap.size w).alloc (Nat.le_refl _) (.cells #[.int .i64 m, .slice ao l.length ca] 26))
  have HA := hide1 (hA.later B0.out)
  clear hA
  go_enter Try.func29, Try.ntmps29
  go_wp2
  generalize w.alloc (.cells #[.int .i64 m, .slice ao l.length ca] 26) = w1 at BX B0 HA ⊢
  have x1 : w1.cell? ⟨w.heap.size, 1, none⟩ = some (.slice ao l.length ca) := BX.out.cell 1
  go_loop [5] (fun iv => ∃ i : Nat, i ≤ l.length ∧ iv = .int .i64 (i : Int) ∧ Hid (¬ k ∈ l.take i)) (fun iv => l.length - (intOf iv).toNat)
  case atStart => exact ⟨0, by omega, rfl, by show ¬ k ∈ l.take 0; simp⟩
  case round =>
    obtain ⟨i, hi, rfl, hno⟩ := hrel
    by_cases hlt : i < l.length
    · have k1 : (i : Int) < (l.length : Int) := by omega
      obtain ⟨b, o, rfl, hb, h1⟩ := HA.out i hlt
      obtain ⟨s, hs⟩ : ∃ s, l[i] = s := ⟨_, rfl⟩
      rw [hs] at h1
      have HS := hide1 hs
      clear hs
      by_cases ce : s = k
      · obtain ⟨q, q'⟩ := text_eq ce
        have HM := hide1 ((hasQ_iff l k).2 (show k ∈ l by rw [← ce, ← HS.out]; exact List.getElem_mem _))
        clear ce
        go_wp2
        go_ret
        exact ⟨by rw [HM.out]; rfl, B0.out⟩
      · obtain ⟨q, q'⟩ := text_ne ce
        have HM := hide1 (mem_take_succ hlt hno.out (fun e => ce (by rw [← HS.out, e])))
        clear ce
        go_wp2
        go_round
        case rel => exact ⟨i + 1, by omega, by go_num, HM⟩
        case measure => simp [intOf]; omega
    · obtain rfl : i = l.length := by omega
      have HM := hide1 (hasQ_not (show ¬ k ∈ l by have := hno.out; rwa [List.take_length] at this))
      go_wp2
      go_ret
      exact ⟨by rw [HM.out]; rfl, B0.out⟩

set_option maxRecDepth 100000 in
set_option maxHeartbeats 2000000 in
theorem specQOk_any (ao : Option Addr) (l : List ByteArray) (ca : Nat) (m : Int) (w : World) (hl : l.length ≤ 1048576) (hA : RdQ w ao l) :
    Calls Try.prog 21 #[.agg #[.int .i64 m, .slice ao l.length ca]] w fun e w' => ∃ x : Bool, e = .returned (.bool x) ∧ (x = true ↔ OkQ l m) ∧ Below w.heap.size w w' := by
  have CI := hide1 (fun x lo hi w => inQ x lo hi w)
  have BX := hide1 (Blk.new w 26 #[.int .i64 m, .slice ao l.length ca])
  have B0 := hide1 ((Below.refl w.heap.size w).alloc (Nat.le_refl _) (.cells #[.int .i64 m, .slice ao l.length ca] 26))
  have HA := hide1 (hA.later B0.out)
  have C9 := hide1 (CI.out m 0 24)
  clear hA
  go_enter Try.func21, Try.ntmps21
  rcases hq : (decide (0 ≤ m) && decide (m ≤ 24)) with _ | _
  · have HN := hide1 (show ¬ OkQ l m from fun h => by have := h.1; have := h.2.1; simp at hq; omega)
    rw [hq] at C9
    clear hq
    go_wp2_with fail
    refine (C9.out _).mono ?_
    rintro e w1 ⟨rfl, rfl⟩
    go_wp2
    go_ret
    first | exact ⟨false, rfl, ⟨(fun h => by cases h), fun h => absurd h HN.out⟩, B0.out⟩ | exact .inl ⟨rfl, HN.out, B0.out⟩
  have HQ := hide1 (show 0 ≤ m ∧ m ≤ 24 by simpa using hq)
  rw [hq] at C9
  clear hq
  by_cases c3 : m < (l.length : Int)
  · have HN := hide1 (show ¬ OkQ l m from fun h => by have := h.2.2.1; omega)
    have q3 : decide (m < (l.length : Int)) = true := decide_eq_true c3
    go_wp2_with fail
    refine (C9.out _).mono ?_
    rintro e w1 ⟨rfl, rfl⟩
    go_wp2
    go_ret
    first | exact ⟨false, rfl, ⟨(fun h => by cases h), fun h => absurd h HN.out⟩, B0.out⟩ | exact .inl ⟨rfl, HN.out, B0.out⟩
  have q3 : decide (m < (l.length : Int)) = false := decide_eq_false c3
  have HB := hide1 (show 0 ≤ m ∧ m ≤ 24 ∧ (l.length : Int) ≤ m by have := HQ.out; omega)
  clear c3
  go_wp2_with fail
  refine (C9.out _).mono ?_
  rintro e w1 ⟨rfl, rfl⟩
  clear C9
  generalize w.alloc (.cells #[.int .i64 m, .slice ao l.length ca] 26) = w1 at BX B0 HA ⊢
  have x0 : w1.cell? ⟨w.heap.size, 0, none⟩ = some (.int .i64 m) := BX.out.cell 0
  have x1 : w1.cell? ⟨w.heap.size, 1, none⟩ = some (.slice ao l.length ca) := BX.out.cell 1
  go_wp2
  clear x0 x1
  go_loopw [3] (fun iv wr => ∃ i : Nat, i ≤ l.length ∧ iv = .int .i64 (i : Int) ∧ Hid (∀ j (h : j < l.length), j < i → keyQ l[j]) ∧ Hid ((l.take i).Nodup) ∧ Hid (Below w1.heap.size w1 wr)) (fun iv _ => l.length - (intOf iv).toNat)
  case atStart => exact ⟨0, by omega, rfl, (fun j h hj => by omega), (by show (l.take 0).Nodup; simp), Below.refl _ _⟩
  case round =>
    obtain ⟨i, hi, rfl, hall, hno, hbel⟩ := hrel
    obtain ⟨W, hW⟩ : ∃ W, W = wr := ⟨_, rfl⟩
    subst hW
    have BX2 := hide1 (BX.out.below hbel.out BX.out.lt)
    have x1 : W.cell? ⟨w.heap.size, 1, none⟩ = some (.slice ao l.length ca) := BX2.out.cell 1
    by_cases hlt : i < l.length
    · have k1 : (i : Int) < (l.length : Int) := by omega
      obtain ⟨b, o, rfl, hb, h1⟩ := HA.out i hlt
      have y1 := (hbel.out.cell (p := ⟨b, o + i, none⟩) hb).trans h1
      obtain ⟨s, hs⟩ : ∃ s, l[i] = s := ⟨_, rfl⟩
      rw [hs] at y1
      have HS := hide1 hs
      clear hs h1
      have CE := hide1 (CI.out (s.size : Int) 1 12)
      rcases hq : (decide ((1 : Int) ≤ (s.size : Int)) && decide ((s.size : Int) ≤ 12)) with _ | _
      · have HN := hide1 (show ¬ OkQ l m from fun h => by
          have := h.2.2.2.1 s (by rw [← HS.out]; exact List.getElem_mem _)
          obtain ⟨u1, u2⟩ := this
          have e1 : decide ((1 : Int) ≤ (s.size : Int)) = true := decide_eq_true (by omega)
          have e2 : decide ((s.size : Int) ≤ 12) = true := decide_eq_true (by omega)
          rw [e1, e2] at hq
          cases hq)
        rw [hq] at CE
        clear hq
        go_wp2_with fail
        refine (CE.out _).mono ?_
        rintro e w2 ⟨rfl, hw⟩
        have hw2 := hw.symm
        clear hw
        subst hw2
        go_wp2
        go_ret
        have BB := B0.out.trans (hbel.out.mono B0.out.size)
        first | exact ⟨false, rfl, ⟨(fun h => by cases h), fun h => absurd h HN.out⟩, BB⟩ | exact .inl ⟨rfl, HN.out, BB⟩
      · have HK := hide1 (show keyQ s by
          rw [Bool.and_eq_true] at hq
          have u1 := of_decide_eq_true hq.1
          have u2 := of_decide_eq_true hq.2
          exact ⟨by omega, by omega⟩)
        rw [hq] at CE
        clear hq
        go_wp2_with fail
        refine (CE.out _).mono ?_
        rintro e w2 ⟨rfl, hw⟩
        have hw2 := hw.symm
        clear hw
        subst hw2
        go_wp2
        have Y := hide1 (And.intro x1 y1)
        clear x1 y1
        go_loopw [4] (fun jv wr => ∃ j : Nat, j ≤ i ∧ jv = .int .i64 (j : Int) ∧ Hid (¬ s ∈ l.take j) ∧ Hid (Below W.heap.size W wr)) (fun jv _ => i - (intOf jv).toNat)
        case atStart => exact ⟨0, by omega, rfl, (by show ¬ s ∈ l.take 0; simp), Below.refl _ _⟩
        case round =>
          obtain ⟨j, hj, rfl, hns, hbj⟩ := hrel
          have z1 : wr.cell? ⟨w.heap.size, 1, none⟩ = some (.slice (some ⟨b, o, none⟩) l.length ca) := (hbj.out.cell (p := ⟨w.heap.size, 1, none⟩) BX2.out.lt).trans Y.out.1
          have z2 : wr.cell? ⟨b, o + i, none⟩ = some (.string s) := (hbj.out.cell (p := ⟨b, o + i, none⟩) (Nat.lt_of_lt_of_le hb hbel.out.size)).trans Y.out.2
          by_cases hlj : j < i
          · have k3 : (j : Int) < (i : Int) := by omega
            have hjl : j < l.length := by omega
            have k4 : (j : Int) < (l.length : Int) := by omega
            obtain ⟨b', o', hbo, hb', h2⟩ := HA.out j hjl
            simp only [Option.some.injEq, Addr.mk.injEq, and_true] at hbo
            obtain ⟨rfl, rfl⟩ := hbo
            have z3 := (hbj.out.cell (p := ⟨b, o + j, none⟩) (Nat.lt_of_lt_of_le hb hbel.out.size)).trans ((hbel.out.cell (p := ⟨b, o + j, none⟩) hb).trans h2)
            obtain ⟨t, ht⟩ : ∃ t, l[j] = t := ⟨_, rfl⟩
            rw [ht] at z3
            have HT := hide1 ht
            clear ht h2
            by_cases ce : t = s
            · obtain ⟨q, q'⟩ := text_eq ce
              have HN := hide1 (show ¬ OkQ l m from fun h => by
                have := ((nodup_take_succ hlt).1 (h.2.2.2.2.sublist (List.take_sublist _ _))).2
                rw [HS.out, ← ce, ← HT.out] at this
                exact this (List.mem_take_iff_getElem.2 ⟨j, by omega, rfl⟩))
              clear ce
              go_wp2_with fail
              go_quiet (fail)
              go_wp2
              go_ret
              have BB := below_drewN ((B0.out.trans (hbel.out.mono B0.out.size)).trans (hbj.out.mono (by have := B0.out.size; have := hbel.out.size; omega)))
              first | exact ⟨false, rfl, ⟨(fun h => by cases h), fun h => absurd h HN.out⟩, BB _⟩ | exact .inl ⟨rfl, HN.out, BB _⟩
            · obtain ⟨q, q'⟩ := text_ne ce
              have HM := hide1 (mem_take_succ hjl hns.out (fun e => ce (by rw [← HT.out, e])))
              clear ce
              go_wp2_with fail
              go_quiet (fail)
              go_wp2
              go_roundw
              case rel => exact ⟨j + 1, by omega, by go_num, HM, below_drewN hbj.out _⟩
              case measure => simp [intOf]; omega
          · obtain rfl : j = i := by omega
            go_wp2
            go_roundw
            case rel =>
              refine ⟨j + 1, by omega, by go_num, fun j' h hj' => ?_, (nodup_take_succ hlt).2 ⟨hno.out, by rw [HS.out]; exact hns.out⟩, hbel.out.trans (hbj.out.mono hbel.out.size)⟩
              by_cases hj2 : j' < j
              · exact hall.out j' h hj2
              · obtain rfl : j' = j := by omega
                rw [HS.out]; exact HK.out
            case measure => simp [intOf]; omega
    · obtain rfl : i = l.length := by omega
      have HOK := hide1 (show OkQ l m from ⟨HB.out.1, HB.out.2.1, HB.out.2.2, (fun s hs => by obtain ⟨j, hj, rfl⟩ := List.getElem_of_mem hs; exact hall.out j hj hj), (by have := hno.out; rwa [List.take_length] at this)⟩)
      go_wp2
      go_ret
      have BB := B0.out.trans (hbel.out.mono B0.out.size)
      first | exact ⟨true, rfl, ⟨(fun _ => HOK.out), fun _ => rfl⟩, BB⟩ | exact .inr ⟨rfl, HOK.out, BB⟩

set_option maxRecDepth 100000 in
set_option maxHeartbeats 800000 in
theorem specWithout_any (ao : Option Addr) (l : List ByteArray) (ca : Nat) (k : ByteArray) (w : World) (hl : l.length ≤ 65536) (hA : RdQ w ao l) :
    Calls Try.prog 46 #[.slice ao l.length ca, .string k] w fun e w' => ∃ po pc, e = .returned (.slice po (wthQ l k).length pc) ∧ OwnQ w' w.heap.size po pc (wthQ l k) ∧ Below w.heap.size w w' := by
  obtain ⟨i0, hi0, hz0, hz1, hz2⟩ := info_parts Try.infoQ
  have HA := hide1 hA
  clear hA
  go_enter Try.func46, Try.ntmps46
  go_wp2
  go_loopw [5, 6] (fun lv iv wr => ∃ (i : Nat) (R : List ByteArray) (po : Option Addr) (pc : Nat), i ≤ l.length ∧ R.length ≤ i ∧ iv = .int .i64 (i : Int) ∧ lv = .slice po R.length pc ∧ Hid (R = wthQ (l.take i) k) ∧ Hid (wr.ownsRow w.heap.size 9 1 (.slice po R.length pc) R.length (sc R)) ∧ Hid (Below w.heap.size w wr)) (fun _ iv _ => l.length - (intOf iv).toNat)
  case atStart => exact ⟨0, [], _, _, by omega, Nat.le_refl _, rfl, rfl, rfl, owns_empty w 9, (Below.refl _ _).alloc (Nat.le_refl _) _⟩
  case round =>
    obtain ⟨i, R, po, pc, hi, hRi, rfl, rfl, hR, hown, hbel⟩ := hrel
    by_cases hlt : i < l.length
    · have k1 : (i : Int) < (l.length : Int) := by omega
      obtain ⟨g, o, hlo, hg, h1⟩ := HA.out i hlt
      have x0 : wr.cell? ⟨g, o + i, none⟩ = some (.string l[i]) := (hbel.out.cell (p := ⟨g, o + i, none⟩) hg).trans h1
      have hft := hide1 (wthQ_take (k := k) hlt)
      generalize l[i] = y at *
      have hbs := hbel.out.size
      rw [hlo]
      clear h1 hlo
      cases e : (y.toList != k.toList) with
      | true =>
        have b1 : (y.toList == k.toList) = false := by rw [bne] at e; simpa using e
        have HR2 := hide1 (show R ++ [y] = wthQ (l.take (i + 1)) k by rw [hft.out, if_pos e, hR.out])
        clear hft
        go_wp2_with (at_builtin; (refine wpList_push1 rfl _ _ 24 rfl w.heap.size 9 i0 (.string ⟨#[]⟩) 16 Try.underlying24 hi0 hz0 hz1 hz2 rfl (by decide) _ R.length (sc R) rfl hown.out (.string y) rfl rfl (by omega) hbs ?_; intro v' w6 hown6 hb6))
        have O6 : Hid (w6.ownsRow w.heap.size 9 1 v' (R ++ [y]).length (sc (R ++ [y]))) := by
          show World.ownsRow _ _ _ _ _ _ _
          rw [sc_append, List.length_append]
          exact hown6
        obtain ⟨lo2, lc2, rfl⟩ := own_slice O6.out
        have B6 := hide1 (hbel.out.trans hb6)
        have hll : (R ++ [y]).length = R.length + 1 := by simp
        clear hown6 hb6
        go_wp2
        go_roundw
        case rel => exact ⟨i + 1, R ++ [y], lo2, lc2, by omega, by omega, by go_num, rfl, HR2, O6, B6⟩
        case measure => simp [intOf]; omega
      | false =>
        have b1 : (y.toList == k.toList) = true := by rw [bne] at e; simpa using e
        have HR2 := hide1 (show R = wthQ (l.take (i + 1)) k by rw [hft.out, if_neg (by rw [e]; simp), hR.out, List.append_nil])
        clear hft
        go_wp2
        go_roundw
        case rel => exact ⟨i + 1, R, po, pc, by omega, by omega, by go_num, rfl, HR2, hown, hbel⟩
        case measure => simp [intOf]; omega
    · obtain rfl : i = l.length := by omega
      have HR1 := hide1 (show R = wthQ l k by rw [hR.out, List.take_length])
      go_wp2
      go_ret
      refine ⟨po, pc, ?_, ?_, hbel.out⟩
      · rw [← HR1.out]; rfl
      · rw [← HR1.out]; exact hown.out
end Go.Proofs.Ytaafofgfeaodhaa
