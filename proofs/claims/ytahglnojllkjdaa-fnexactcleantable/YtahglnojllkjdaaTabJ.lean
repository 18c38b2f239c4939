/- Seeking a key, by the program. -/
import Derived.Test.YtahglnojllkjdaaTabG
import Derived.ScopeJumps
import Derived.WalkMore
namespace Go.Proofs.Ytahglnojllkjdaa
open Go.RowKit

/-- A scope whose label is jumped to from ahead of it. -/
theorem wp_scope_fwd {P : Program} {a : Act} {w : World} {Q : Exit → Act → World → Prop} {c rest : Code} (l : Nat) (hf : findLabel c l = some rest)
    (h : ∀ Q1 : Exit → Act → World → Prop, (∀ a w, Q .ret a w → Q1 .ret a w) → (∀ a w, Q .normal a w → Q1 .normal a w) → (∀ a w, rest.wp P (Exit.noGoto Q) a w → Q1 (.goto l) a w) → c.wp P Q1 a w) : (Code.scope c).wp P Q a w := by
  refine wp_scope_jumps l (fun a w => rest.wp P (Exit.noGoto Q) a w) (fun _ _ => 0) hf ?_ ?_
  · exact h _ (fun _ _ x => x) (fun _ _ x => x) (fun _ _ x => ⟨rfl, x⟩)
  · intro a w hj
    refine Code.wp_mono ?_ hj
    intro e a w x
    cases e <;> first | exact x | exact x.elim

set_option maxRecDepth 100000 in
set_option maxHeartbeats 1000000 in
theorem search_any (ao : Option Addr) (l : List Ce) (ca : Nat) (key : ByteArray) (w : World) (hl : l.length ≤ 1048576) (hk : key.size ≤ 1048576) (hA : RdJ w ao l) :
    Calls Try.prog 72 #[.slice ao l.length ca, .string key] w fun e w' => e = .returned (.tuple #[.int .i64 (optI (srchC l key).1), .int .i64 (optI (srchC l key).2)]) ∧ Below w.heap.size w w' := by
  by_cases c0 : l.length = 0
  · have q0 : ((l.length : Int) == 0) = true := by simp [c0]
    have HE := hide1 (show srchC l key = (none, none) by rw [srchC, c0]; rfl)
    clear hA c0
    go_enter Try.func72, Try.ntmps72
    go_wp2
    refine wp_scope_fwd 0 rfl ?_
    intro Q1 hret hnorm hgo
    go_wp2
    refine hret _ _ ?_
    go_ret2
    exact ⟨by rw [HE.out]; rfl, Below.refl _ _⟩
  · have q0 : ((l.length : Int) == 0) = false := by simp; intro h; exact c0 (by rw [h]; rfl)
    have hn1 : 1 ≤ l.length := by omega
    have CH := hide1 (implHash_any key 0 w hk (by omega) (by omega))
    obtain ⟨hn, hhn⟩ : ∃ hn, hashN key 0 = hn := ⟨_, rfl⟩
    have hh4 : hn < 4294967296 := by rw [← hhn]; exact hashN_lt key 0
    obtain ⟨p, hp⟩ : ∃ p, hn % l.length = p := ⟨_, rfl⟩
    have hpl : p < l.length := by rw [← hp]; exact Nat.mod_lt _ (by omega)
    have EP := hide1 (show (hn : Int) % (l.length : Int) = (p : Int) by rw [← hp]; exact (Int.natCast_emod hn l.length).symm)
    have HS := hide1 (show srchC l key = srchD l key p 0 l.length none by rw [srchC, hhn, hp])
    rw [hhn] at CH
    have HA := hide1 hA
    have q1 : ¬ (l.length : Int) = 0 := by omega
    have HP0 := hide1 (show p = (p + 0) % l.length by rw [Nat.add_zero, Nat.mod_eq_of_lt hpl])
    clear hA hhn hp c0
    go_enter Try.func72, Try.ntmps72
    go_wp2
    refine wp_scope_fwd 0 rfl ?_
    intro Q1 hret hnorm hgo
    have HRET := hide1 hret
    have HGO := hide1 hgo
    clear hret hnorm hgo
    go_wp2_with fail
    refine CH.out.mono ?_
    rintro e w1 ⟨rfl, rfl⟩
    go_upto_region 4 with fail
    rw [EP.out]
    go_wp2
    go_loopw [6, 7, 19] (fun av fv iv wr => ∃ (i q : Nat) (f : Option Nat), i ≤ l.length ∧ q < l.length ∧ iv = .int .i64 (i : Int) ∧ av = .int .i64 (q : Int) ∧ fv = .int .i64 (optI f) ∧ Hid (q = (p + i) % l.length) ∧ Hid (∀ k, f = some k → k < l.length) ∧ Hid (srchC l key = srchD l key p i (l.length - i) f) ∧ Hid (Below w.heap.size w wr)) (fun _ _ iv _ => l.length - (intOf iv).toNat)
    case atStart => exact ⟨0, p, none, by omega, hpl, rfl, rfl, rfl, HP0.out, (fun k h => by cases h), HS.out, Below.refl _ _⟩
    case round =>
      obtain ⟨i, q, f, hi, hql, rfl, rfl, rfl, hq, hfl, hS, hbel⟩ := hrel
      by_cases hlt : i < l.length
      · have k1 : (i : Int) < (l.length : Int) := by omega
        have kq : (q : Int) < (l.length : Int) := by omega
        obtain ⟨q2, hq2⟩ : ∃ q2, (q + 1) % l.length = q2 := ⟨_, rfl⟩
        have hq2l : q2 < l.length := by rw [← hq2]; exact Nat.mod_lt _ (by omega)
        have eq2 : ((q : Int) + 1) % (l.length : Int) = (q2 : Int) := by
          rw [← hq2, show (q : Int) + 1 = ((q + 1 : Nat) : Int) by omega]
          exact (Int.natCast_emod (q + 1) l.length).symm
        have HQ2 := hide1 (show q2 = (p + (i + 1)) % l.length by rw [← hq2, hq.out, Nat.mod_add_mod, Nat.add_assoc])
        obtain ⟨b, o, hao, hb, h1⟩ := HA.out q hql
        obtain ⟨x0, x1⟩ := h1.below hbel.out hb
        have hsd : Hid (srchC l key = if l[q].key.toList ≠ [] ∧ l[q].key.toList = key.toList then (some q, f) else if l[q].h = -1 then (none, if l[q].key.toList = [] ∧ f = none then some q else f) else srchD l key p (i + 1) (l.length - (i + 1)) (if l[q].key.toList = [] ∧ f = none then some q else f)) := by
          show srchC l key = _
          rw [hS.out, show l.length - i = (l.length - (i + 1)) + 1 by omega, srchD, ← hq.out, List.getElem?_eq_getElem hql]
        have HQL := hide1 hql
        generalize l[q] = s at *
        obtain ⟨ky, hh⟩ := s
        simp only at x0 x1 hsd
        have BX : Hid (Below w.heap.size w (wr.alloc (.cells #[.string ky, .int .i64 hh] 65))) := hbel.out.alloc hbel.out.size _
        have NN : Hid ((wr.alloc (.cells #[.string ky, .int .i64 hh] 65)).cell? ⟨wr.heap.size, 0, none⟩ = some (.string ky) ∧ (wr.alloc (.cells #[.string ky, .int .i64 hh] 65)).cell? ⟨wr.heap.size, 1, none⟩ = some (.int .i64 hh)) := ⟨World.cell?_alloc_at _ _ _ _ rfl, World.cell?_alloc_at _ _ _ _ rfl⟩
        rw [hao]
        clear hq hq2 h1 hS hao
        go_upto_region 7 with fail
        generalize (wr.alloc (.cells #[.string ky, .int .i64 hh] 65)) = wv at NN BX ⊢
        obtain ⟨n0, n1⟩ := NN.out
        clear NN x0 x1 hbel
        by_cases d1 : ky.toList = []
        · have b1 : ky.toList.isEmpty = true := by rw [d1]; rfl
          rw [if_neg (show ¬ (ky.toList ≠ [] ∧ ky.toList = key.toList) from fun h => h.1 d1)] at hsd
          rcases f with _ | k
          · rw [if_pos (show ky.toList = [] ∧ (none : Option Nat) = none from ⟨d1, rfl⟩)] at hsd
            have HFL := hide1 (fun k (h : some q = some k) => show k < l.length by injection h with h; rw [← h]; exact HQL.out)
            unfold optI
            by_cases d4 : hh = -1
            · have b4 : (hh == (-1 : Int)) = true := by simp [d4]
              have HR := hide1 (show srchC l key = (none, some q) by rw [hsd.out, if_pos d4])
              clear hsd d1 d4
              go_wp2
              go_step3
              go_wp2
              refine HRET.out _ _ ?_
              go_ret2
              exact ⟨by rw [HR.out]; rfl, BX.out⟩
            · have b4 : (hh == (-1 : Int)) = false := by simp [d4]
              have HR := hide1 (show srchC l key = srchD l key p (i + 1) (l.length - (i + 1)) (some q) by rw [hsd.out, if_neg d4])
              clear hsd d1 d4
              go_wp2
              go_roundw
              case rel => exact ⟨i + 1, q2, some q, by omega, hq2l, by go_num, (by first | rfl | rw [← eq2]), rfl, HQ2, HFL, HR, BX⟩
              case measure => simp [intOf]; omega
          · rw [if_neg (show ¬ (ky.toList = [] ∧ some k = none) from fun h => by cases h.2)] at hsd
            unfold optI
            by_cases d4 : hh = -1
            · have b4 : (hh == (-1 : Int)) = true := by simp [d4]
              have HR := hide1 (show srchC l key = (none, some k) by rw [hsd.out, if_pos d4])
              clear hsd d1 d4
              go_wp2
              go_step3
              go_wp2
              refine HRET.out _ _ ?_
              go_ret2
              exact ⟨by rw [HR.out]; rfl, BX.out⟩
            · have b4 : (hh == (-1 : Int)) = false := by simp [d4]
              have HR := hide1 (show srchC l key = srchD l key p (i + 1) (l.length - (i + 1)) (some k) by rw [hsd.out, if_neg d4])
              clear hsd d1 d4
              go_wp2
              go_roundw
              case rel => exact ⟨i + 1, q2, some k, by omega, hq2l, by go_num, (by first | rfl | rw [← eq2]), rfl, HQ2, hfl, HR, BX⟩
              case measure => simp [intOf]; omega
        · have b1 : ky.toList.isEmpty = false := by cases h : ky.toList with | nil => exact absurd h d1 | cons a b => rfl
          have HD1 := hide1 d1
          by_cases d2 : ky.toList = key.toList
          · have b2 : (ky.toList == key.toList) = true := by simp [d2]
            have HR := hide1 (show srchC l key = (some q, f) by rw [hsd.out, if_pos ⟨d1, d2⟩])
            clear hsd d1 d2
            obtain ⟨fi, hfi⟩ : ∃ fi, optI f = fi := ⟨_, rfl⟩
            have HFI := hide1 hfi
            rw [hfi]
            clear hfi
            go_wp2
            go_step3
            show Q1 (.goto 0) _ _
            refine HGO.out _ _ ?_
            go_wp2
            try rw [Exit.noGoto_ret]
            go_ret2
            exact ⟨by rw [HR.out]; first | rfl | (rw [← HFI.out]; rfl), BX.out⟩
          · have b2 : (ky.toList == key.toList) = false := by simp [d2]
            rw [if_neg (show ¬ (ky.toList ≠ [] ∧ ky.toList = key.toList) from fun h => d2 h.2), if_neg (show ¬ (ky.toList = [] ∧ f = none) from fun h => HD1.out h.1)] at hsd
            by_cases d4 : hh = -1
            · have b4 : (hh == (-1 : Int)) = true := by simp [d4]
              have HR := hide1 (show srchC l key = (none, f) by rw [hsd.out, if_pos d4])
              clear hsd d1 d2 d4
              go_wp2
              go_step3
              go_wp2
              refine HRET.out _ _ ?_
              go_ret2
              exact ⟨by rw [HR.out]; rfl, BX.out⟩
            · have b4 : (hh == (-1 : Int)) = false := by simp [d4]
              have HR := hide1 (show srchC l key = srchD l key p (i + 1) (l.length - (i + 1)) f by rw [hsd.out, if_neg d4])
              clear hsd d1 d2 d4
              go_wp2
              go_roundw
              case rel => exact ⟨i + 1, q2, f, by omega, hq2l, by go_num, (by first | rfl | rw [← eq2]), rfl, HQ2, hfl, HR, BX⟩
              case measure => simp [intOf]; omega
      · obtain rfl : i = l.length := by omega
        have k1 : decide ((l.length : Int) < (l.length : Int)) = false := by simp
        have HR := hide1 (show srchC l key = (none, f) by rw [hS.out, Nat.sub_self]; rfl)
        clear hS
        go_wp2
        go_step3
        go_wp2
        refine HRET.out _ _ ?_
        go_ret2
        exact ⟨by rw [HR.out]; rfl, hbel.out⟩
end Go.Proofs.Ytahglnojllkjdaa
