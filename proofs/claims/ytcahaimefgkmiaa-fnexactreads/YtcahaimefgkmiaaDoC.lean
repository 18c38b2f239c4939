/- The calls that are done, one behind the other: the program's doneCalls, Collect. -/
import Derived.Test.YtcahaimefgkmiaaRfI
import Derived.Test.YtcahaimefgkmiaaStJ
namespace Go.Proofs.Ytcahaimefgkmiaa
open Go.RowKit Go.Shelf
set_option linter.unusedVariables false
attribute [local go_sem] Oper.semAt_some

def dnL (l : List Cl) : List Cl := l.filter (fun c => decide (0 ≤ c.dn))
theorem dnL_next {l : List Cl} {i : Nat} (hi : i < l.length) : dnL (l.take (i + 1)) = dnL (l.take i) ++ (if 0 ≤ l[i].dn then [l[i]] else []) := by
  unfold dnL
  rw [List.take_succ_eq_append_getElem hi, List.filter_append]
  by_cases h : 0 ≤ l[i].dn <;> simp [h]
theorem dnL_pre {l : List Cl} (i : Nat) : dnL (l.take i) <+: dnL l := by
  unfold dnL
  exact (List.take_prefix i l).filter _
set_option maxRecDepth 100000 in
set_option maxHeartbeats 4000000 in
theorem doneCalls1_in (l Bs n₀ : Nat) (ao : Option Addr) (ls : List Cl) (ca : Nat) (hls : ls.length ≤ 1048576) (J Jx : List Cl → World → Prop) (W : World) (hn₀ : n₀ ≤ W.heap.size)
    (hJ : AbidesFrom W.heap.size J)
    (hY : ∀ pre x W, J pre W → pre.length < ls.length → YieldAt Fence.wide 5 Try.prog l #[.agg (clA x)] W fun e W' =>
      (e = .returned (.bool true) ∧ J (pre ++ [x]) W' ∧ Below n₀ W W') ∨ (e = .returned (.bool false) ∧ Jx (pre ++ [x]) W'))
    (hB : Bs < n₀) (hBs : W.cell? ⟨Bs, 0, none⟩ = some (.slice ao ls.length ca)) (hR : RdG clC 9 W ao ls) (hb0 : ∀ b o, ao = some ⟨b, o, none⟩ → 0 < ls.length → b < n₀) (h0 : J [] W) :
    CallsIn Fence.wide 6 Try.prog 55 #[.func (.yield l) #[] #[], .pointer (some ⟨Bs, 0, none⟩)] W fun e W' => (∃ v, e = .returned v) ∧
      ((∃ xs, xs = dnL ls ∧ J xs W') ∨ (∃ pre, pre <+: dnL ls ∧ Jx pre W')) := by
  have HR := hide1 hR
  have HJ := hide1 hJ
  have CD := hide1 (fun c w => isDone_any c w)
  clear hR hJ
  refine callsIn_of_wp Try.func55 rfl trivial ?_ rfl
  simp only [Try.ntmps55, List.size_toArray, List.length_cons, List.length_nil, Nat.reduceAdd, Nat.reduceSub, Array.replicate_succ, Array.replicate_zero, List.push_toArray, List.append_toArray, List.nil_append, List.cons_append]
  gi_wp2
  gi_loopw [7] (fun iv wr => ∃ i : Nat, i ≤ ls.length ∧ iv = .int .i64 (i : Int) ∧ J (dnL (ls.take i)) wr ∧ Below n₀ W wr) (fun iv _ => ls.length - (intOf iv).toNat)
  case atStart => exact ⟨0, by omega, rfl, by simpa [dnL] using h0, Below.refl _ _⟩
  case round =>
    obtain ⟨i, hi, rfl, hJ, hbel⟩ := hrel
    by_cases hlt : i < ls.length
    · have k1 : (i : Int) < (ls.length : Int) := by omega
      obtain ⟨b1, o1, rfl, hb1, hc1⟩ := RdG.at encCl HR.out i hlt
      have hb1n := hb0 b1 o1 rfl (by omega)
      have C1 := hide1 (show CsAt wr b1 (o1 + i * 9) (clA ls[i]) from fun j hj => (hbel.cell (p := ⟨b1, o1 + i * 9 + j, none⟩) hb1n).trans (hc1 j hj))
      have ONE1 := hide1 (oneCl ls[i])
      have BX := hide1 (BlkA.new wr 26 (clA ls[i]))
      have bx := (Below.refl wr.heap.size wr).alloc (Nat.le_refl _) (.cells (clA ls[i]) 26)
      have J1 := hide1 (HJ.out _ wr _ none hJ (World.grownBy_alloc wr (.cells (clA ls[i]) 26) none) (fun r e => by cases e))
      have nx := dnL_next hlt
      have HB := hide1 (hbel.trans (bx.mono (Nat.le_trans hn₀ hbel.size)))
      have HN := hide1 (Nat.le_trans hn₀ hbel.size)
      have hlen : (dnL (ls.take i)).length < ls.length := by
        have h1 : (dnL (ls.take i)).length ≤ (ls.take i).length := List.length_filter_le _ _
        simp at h1
        omega
      have HL := hide1 hlen
      clear hc1 hJ bx hbel hlen
      by_cases d : 0 ≤ ls[i].dn
      · rw [if_pos d] at nx
        have D : Hid (∀ w, Calls Try.prog 56 #[.agg (clA ls[i])] w fun e w' => e = .returned (.bool true) ∧ Below w.heap.size w w') := fun w => by have := CD.out ls[i] w; rwa [decide_eq_true d] at this
        gi_wp2_with (first | (refine wpListIn_load_at rfl 26 _ rfl b1 (o1 + i * 9) rfl (clA ls[i]) _ C1.out Try.underlying26 rfl sizeCl ?_) | (refine wpListIn_store_row rfl 26 _ _ rfl wr.heap.size (clA ls[i]) rfl rfl 26 _ (heap_alloc_last _ _) sizeCl rfl ONE1.out ?_; rw [World.setRow_alloc_new]) | (refine wpListIn_load_A rfl 26 _ rfl wr.heap.size rfl 26 (clA ls[i]) _ BX2.out Try.underlying26 rfl sizeCl ?_) | (refine wpListIn_load_A rfl 26 _ rfl wr.heap.size rfl 26 (clA ls[i]) _ BX.out Try.underlying26 rfl sizeCl ?_) | (refine ⟨trivial, ?_⟩; gi_at_call 56; refine (callsIn_wide.2 (D.out _)).mono ?_; rintro e w2 ⟨rfl, hb2⟩; have BX2 := hide1 (BX.out.below hb2 BX.out.lt); have HB2 := hide1 (HB.out.trans (hb2.mono (Nat.le_trans hn₀ HB.out.size))); have J2 := hide1 (HJ.out _ _ w2 none J1.out (gnew hb2) (fun r e => by cases e)); clear hb2; obtain ⟨fn, tmps, assign, body, hy, hR⟩ := hY _ ls[i] w2 J2.out HL.out))
        refine hR.mono ?_
        rintro e W3 (⟨rfl, hJ3, hk3⟩ | ⟨rfl, hJx3⟩)
        · gi_wp2
          go_roundw
          case rel => exact ⟨i + 1, by omega, by go_num, by rw [nx]; exact hJ3, HB2.out.trans hk3⟩
          case measure => simp [intOf]; omega
        · gi_wp2
          refine bodyPost_ret (results_none rfl _ _ _) rfl ?_
          exact ⟨⟨_, rfl⟩, .inr ⟨_, by rw [← nx]; exact dnL_pre _, hJx3⟩⟩
      · rw [if_neg d, List.append_nil] at nx
        have D : Hid (∀ w, Calls Try.prog 56 #[.agg (clA ls[i])] w fun e w' => e = .returned (.bool false) ∧ Below w.heap.size w w') := fun w => by have := CD.out ls[i] w; rwa [decide_eq_false d] at this
        gi_wp2_with (first | (refine wpListIn_load_at rfl 26 _ rfl b1 (o1 + i * 9) rfl (clA ls[i]) _ C1.out Try.underlying26 rfl sizeCl ?_) | (refine wpListIn_store_row rfl 26 _ _ rfl wr.heap.size (clA ls[i]) rfl rfl 26 _ (heap_alloc_last _ _) sizeCl rfl ONE1.out ?_; rw [World.setRow_alloc_new]) | (refine wpListIn_load_A rfl 26 _ rfl wr.heap.size rfl 26 (clA ls[i]) _ BX.out Try.underlying26 rfl sizeCl ?_) | (refine ⟨trivial, ?_⟩; gi_at_call 56; refine (callsIn_wide.2 (D.out _)).mono ?_; rintro e w2 ⟨rfl, hb2⟩; have HB2 := hide1 (HB.out.trans (hb2.mono (Nat.le_trans hn₀ HB.out.size))); have J2 := hide1 (HJ.out _ _ w2 none J1.out (gnew hb2) (fun r e => by cases e)); clear hb2))
        refine ⟨fun _ h => (by cases h), ?_⟩
        gi_wp2
        go_roundw
        case rel => exact ⟨i + 1, by omega, by go_num, by rw [nx]; exact J2.out, HB2.out⟩
        case measure => simp [intOf]; omega
    · obtain rfl : i = ls.length := by omega
      gi_wp2
      go_end0
      exact ⟨⟨_, rfl⟩, .inl ⟨_, rfl, by simpa using hJ⟩⟩
set_option maxHeartbeats 1000000 in
theorem doneCalls_any (ao : Option Addr) (len ca : Nat) (w : World) :
    CallsIn Fence.wide 6 Try.prog 28 #[.slice ao len ca] w fun e w' => e = .returned (.func (.func 55) #[] #[.pointer (some ⟨w.heap.size, 0, none⟩)]) ∧ w' = w.alloc (.cells #[.slice ao len ca] 32) := by
  refine callsIn_of_wp Try.func28 rfl trivial ?_ rfl
  simp only [Try.ntmps28, List.size_toArray, List.length_cons, List.length_nil, Nat.reduceAdd, Nat.reduceSub, Array.replicate_succ, Array.replicate_zero, List.push_toArray, List.append_toArray, List.nil_append, List.cons_append]
  gi_wp2
  go_ret
  exact ⟨rfl, rfl⟩
theorem doneCalls_stops (Bs n₀ : Nat) (ao : Option Addr) (ls : List Cl) (ca : Nat) (hls : ls.length ≤ 1048576) (w : World) (hn₀ : n₀ ≤ w.heap.size) (hB : Bs < n₀) (hc : w.cell? ⟨Bs, 0, none⟩ = some (.slice ao ls.length ca)) (hR : RdG clC 9 w ao ls) (hb0 : ∀ b o, ao = some ⟨b, o, none⟩ → 0 < ls.length → b < n₀) :
    SeqStopsK Fence.wide 6 Try.prog 55 #[.pointer (some ⟨Bs, 0, none⟩)] (fun x : Cl => #[.agg (clA x)]) (Below n₀) (fun xs => xs = dnL ls) (fun pre => pre <+: dnL ls) ls.length w := fun l J Jx W hW hJ _ hY h0 =>
  doneCalls1_in l Bs n₀ ao ls ca hls J Jx W (Nat.le_trans hn₀ hW.size) hJ hY hB ((hW.cell (p := ⟨Bs, 0, none⟩) (Nat.lt_of_lt_of_le hB hn₀)).trans hc) (hR.later hW) hb0 h0
end Go.Proofs.Ytcahaimefgkmiaa
