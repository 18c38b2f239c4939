/- All two of a row, one behind the other: the program's eachTwo at Call. -/
import Derived.Test.YtcahaimefgkmiaaRfI
import Derived.Test.YtcahaimefgkmiaaStI
namespace Go.Proofs.Ytcahaimefgkmiaa
open Go.RowKit Go.Shelf
set_option linter.unusedVariables false
attribute [local go_sem] Oper.semAt_some

def PrsS (l : List Cl) (pre : List (Cl × Cl)) : Prop := ∀ p ∈ pre, ∃ i, ∃ hi : i < l.length, ∃ k, ∃ hk : k < l.length, i ≠ k ∧ p = (l[i], l[k])
def PrsA (l : List Cl) (xs : List (Cl × Cl)) : Prop := PrsS l xs ∧ ∀ i (hi : i < l.length) k (hk : k < l.length), i ≠ k → (l[i], l[k]) ∈ xs
theorem PrsS.push {l : List Cl} {pre : List (Cl × Cl)} (h : PrsS l pre) {i k : Nat} (hi : i < l.length) (hk : k < l.length) (hne : i ≠ k) : PrsS l (pre ++ [(l[i], l[k])]) := fun p hp => by
  rcases List.mem_append.1 hp with h1 | h1
  · exact h p h1
  · exact ⟨i, hi, k, hk, hne, List.mem_singleton.1 h1⟩
/-- What has come ahead of the place (i, k). -/
structure PrsI (l : List Cl) (i k : Nat) (pre : List (Cl × Cl)) : Prop where
  s : PrsS l pre
  a : ∀ a (ha : a < l.length) b (hb : b < l.length), (a < i ∨ a = i ∧ b < k) → a ≠ b → (l[a], l[b]) ∈ pre
  n : pre.length ≤ i * l.length + k
theorem PrsI.skip {l : List Cl} {i : Nat} {pre : List (Cl × Cl)} (h : PrsI l i i pre) : PrsI l i (i + 1) pre :=
  ⟨h.s, fun a ha b hb hc hne => h.a a ha b hb (by omega) hne, by have := h.n; omega⟩
theorem PrsI.push {l : List Cl} {i k : Nat} {pre : List (Cl × Cl)} (h : PrsI l i k pre) (hi : i < l.length) (hk : k < l.length) (hne : i ≠ k) : PrsI l i (k + 1) (pre ++ [(l[i], l[k])]) :=
  ⟨h.s.push hi hk hne, fun a ha b hb hc hne2 => by
    by_cases e : a = i ∧ b = k
    · obtain ⟨rfl, rfl⟩ := e
      simp
    · exact List.mem_append_left _ (h.a a ha b hb (by omega) hne2), by have := h.n; simp; omega⟩
theorem PrsI.next {l : List Cl} {i : Nat} {pre : List (Cl × Cl)} (h : PrsI l i l.length pre) : PrsI l (i + 1) 0 pre :=
  ⟨h.s, fun a ha b hb hc hne => h.a a ha b hb (by omega) hne, by have := h.n; rw [Nat.add_mul]; omega⟩
theorem PrsI.lt {l : List Cl} {i k : Nat} {pre : List (Cl × Cl)} (h : PrsI l i k pre) (hi : i < l.length) (hk : k < l.length) : pre.length < l.length * l.length := by
  have h1 := h.n
  have h2 : (i + 1) * l.length ≤ l.length * l.length := Nat.mul_le_mul_right _ hi
  rw [Nat.add_mul] at h2
  omega
set_option maxRecDepth 100000 in
set_option maxHeartbeats 4000000 in
theorem eachTwo1Call_in (F : Fence) (n : Nat) (hF : F.fn 74) (hro : F.round = none) (hn : 1 ≤ n) (l Bs : Nat) (ao : Option Addr) (ls : List Cl) (ca : Nat) (hls : ls.length ≤ 1048576) (J Jx : List (Cl × Cl) → World → Prop) (W : World)
    (hJ : AbidesFrom W.heap.size J)
    (hY : ∀ pre x W, J pre W → pre.length < ls.length * ls.length → YieldAt F (n - 1) Try.prog l #[.agg (clA x.1), .agg (clA x.2)] W fun e W' =>
      (e = .returned (.bool true) ∧ J (pre ++ [x]) W' ∧ CK W W') ∨ (e = .returned (.bool false) ∧ Jx (pre ++ [x]) W'))
    (hBs : W.cell? ⟨Bs, 0, none⟩ = some (.slice ao ls.length ca)) (hR : RdG clC 9 W ao ls) (h0 : J [] W) :
    CallsIn F n Try.prog 74 #[.func (.yield l) #[] #[], .pointer (some ⟨Bs, 0, none⟩)] W fun e W' => (∃ v, e = .returned v) ∧
      ((∃ xs, PrsA ls xs ∧ J xs W') ∨ (∃ pre, PrsS ls pre ∧ Jx pre W')) := by
  have HR := hide1 hR
  have HJ := hide1 hJ
  clear hR hJ
  refine callsIn_of_wp Try.func74 rfl hF ?_ hro
  simp only [Try.ntmps74, List.size_toArray, List.length_cons, List.length_nil, Nat.reduceAdd, Nat.reduceSub, Array.replicate_succ, Array.replicate_zero, List.push_toArray, List.append_toArray, List.nil_append, List.cons_append]
  gi_wp2
  gi_loopw [9] (fun iv wr => ∃ (i : Nat) (pre : List (Cl × Cl)), i ≤ ls.length ∧ iv = .int .i64 (i : Int) ∧ J pre wr ∧ PrsI ls i 0 pre ∧ CK W wr) (fun iv _ => ls.length - (intOf iv).toNat)
  case atStart => exact ⟨0, [], by omega, rfl, h0, ⟨fun p hp => by simp at hp, fun a ha b hb hc _ => by omega, by simp⟩, CK.refl _⟩
  case round =>
    obtain ⟨i, pre, hi, rfl, hJ, hP, hK⟩ := hrel
    by_cases hlt : i < ls.length
    · have k1 : (i : Int) < (ls.length : Int) := by omega
      obtain ⟨b1, o1, rfl, hb1, hc1⟩ := RdG.at encCl HR.out i hlt
      have C1 := hide1 (show CsAt wr b1 (o1 + i * 9) (clA ls[i]) from CsAt.ck hc1 hK)
      have ONE1 := hide1 (oneCl ls[i])
      obtain ⟨X, hX⟩ : ∃ G, G = wr.heap.size := ⟨_, rfl⟩
      have F1 := hide1 (And.intro (BlkA.new wr 26 (clA ls[i])) (And.intro (CK.bel ((Below.refl wr.heap.size wr).alloc (Nat.le_refl _) (.cells (clA ls[i]) 26))) (HJ.out _ wr _ none hJ (World.grownBy_alloc wr (.cells (clA ls[i]) 26) none) (fun r e => by cases e))))
      have bs2 : (wr.alloc (.cells (clA ls[i]) 26)).cell? ⟨Bs, 0, none⟩ = some (.slice (some ⟨b1, o1, none⟩) ls.length ca) := F1.out.2.1.cell (hK.cell hBs)
      clear hJ hc1
      gi_wp2_with (first | (refine wpListIn_load_at rfl 26 _ rfl b1 (o1 + i * 9) rfl (clA ls[i]) _ C1.out Try.underlying26 rfl sizeCl ?_) | (refine wpListIn_store_row rfl 26 _ _ rfl wr.heap.size (clA ls[i]) rfl rfl 26 _ (heap_alloc_last _ _) sizeCl rfl ONE1.out ?_; rw [World.setRow_alloc_new]))
      clear bs2
      have HK := hide1 hK
      have HP := hide1 hP
      clear hK hP
      generalize (wr.alloc (.cells (clA ls[i]) 26)) = u at F1 ⊢
      rw [← hX] at F1 ⊢
      clear hX
      gi_loopw [16] (fun kv W2 => ∃ (k : Nat) (pre2 : List (Cl × Cl)), k ≤ ls.length ∧ kv = .int .i64 (k : Int) ∧ J pre2 W2 ∧ PrsI ls i k pre2 ∧ CK u W2) (fun kv _ => ls.length - (intOf kv).toNat)
      case atStart => exact ⟨0, pre, by omega, rfl, F1.out.2.2, HP.out, CK.refl _⟩
      case round =>
        obtain ⟨k, pre2, hk, rfl, hJ2, hP2, hK2⟩ := hrel
        by_cases hlk : k < ls.length
        · have k2 : (k : Int) < (ls.length : Int) := by omega
          obtain ⟨b2, o2, e2, hb2, hc2⟩ := RdG.at encCl HR.out k hlk
          obtain ⟨rfl, rfl⟩ : b1 = b2 ∧ o1 = o2 := by injection e2 with e2; injection e2 with e3 e4; exact ⟨e3, e4⟩
          have C2 := hide1 (show CsAt wr b1 (o1 + k * 9) (clA ls[k]) from (CsAt.ck hc2 (HK.out.t F1.out.2.1)).ck hK2)
          have ONE2 := hide1 (oneCl ls[k])
          have F2 := hide1 (And.intro (BlkA.new wr 26 (clA ls[k])) (And.intro (CK.bel ((Below.refl wr.heap.size wr).alloc (Nat.le_refl _) (.cells (clA ls[k]) 26))) (HJ.out _ wr _ none hJ2 (World.grownBy_alloc wr (.cells (clA ls[k]) 26) none) (fun r e => by cases e))))
          have X2 := hide1 (show BlkA wr X 26 (clA ls[i]) from hK2.blk F1.out.1)
          have K2 := hide1 hK2
          have P2 := hide1 hP2
          clear hJ2 hc2 hK2 hP2
          have X3 := hide1 (show BlkA (wr.alloc (.cells (clA ls[k]) 26)) X 26 (clA ls[i]) from F2.out.2.1.blk X2.out)
          by_cases d : k = i
          · have k3 : ((k : Int) != (i : Int)) = false := by simp [d]
            have D := hide1 d
            clear d
            gi_wp2_with (first | (refine wpListIn_load_at rfl 26 _ rfl b1 (o1 + k * 9) rfl (clA ls[k]) _ C2.out Try.underlying26 rfl sizeCl ?_) | (refine wpListIn_store_row rfl 26 _ _ rfl wr.heap.size (clA ls[k]) rfl rfl 26 _ (heap_alloc_last _ _) sizeCl rfl ONE2.out ?_; rw [World.setRow_alloc_new]))
            refine ⟨fun _ h => (by cases h), ?_⟩
            gi_wp2
            go_roundw
            case rel => exact ⟨k + 1, pre2, by omega, by go_num, F2.out.2.2, by have := P2.out; rw [D.out] at this ⊢; exact this.skip, K2.out.t F2.out.2.1⟩
            case measure => simp [intOf]; omega
          · have k3 : ((k : Int) != (i : Int)) = true := by simp; omega
            obtain ⟨fn, tmps, assign, body, hy, hR⟩ := hY pre2 (ls[i], ls[k]) (wr.alloc (.cells (clA ls[k]) 26)) F2.out.2.2 (P2.out.lt hlt hlk)
            dsimp only at hy
            gi_wp2_with (first | (refine wpListIn_load_at rfl 26 _ rfl b1 (o1 + k * 9) rfl (clA ls[k]) _ C2.out Try.underlying26 rfl sizeCl ?_) | (refine wpListIn_store_row rfl 26 _ _ rfl wr.heap.size (clA ls[k]) rfl rfl 26 _ (heap_alloc_last _ _) sizeCl rfl ONE2.out ?_; rw [World.setRow_alloc_new]) | (refine wpListIn_load_A rfl 26 _ rfl X rfl 26 (clA ls[i]) _ X3.out Try.underlying26 rfl sizeCl ?_) | (refine wpListIn_load_A rfl 26 _ rfl wr.heap.size rfl 26 (clA ls[k]) _ F2.out.1 Try.underlying26 rfl sizeCl ?_))
            refine hR.mono ?_
            rintro e W3 (⟨rfl, hJ3, hk3⟩ | ⟨rfl, hJx3⟩)
            · have K3 := hide1 ((K2.out.t F2.out.2.1).t hk3)
              gi_wp2
              go_roundw
              case rel => exact ⟨k + 1, pre2 ++ [(ls[i], ls[k])], by omega, by go_num, hJ3, P2.out.push hlt hlk (fun e => d e.symm), K3.out⟩
              case measure => simp [intOf]; omega
            · gi_wp2
              refine bodyPost_ret (results_none rfl _ _ _) rfl ?_
              exact ⟨⟨_, rfl⟩, .inr ⟨_, P2.out.s.push hlt hlk (fun e => d e.symm), hJx3⟩⟩
        · obtain rfl : k = ls.length := by omega
          gi_wp2
          go_roundw
          case rel => exact ⟨i + 1, pre2, by omega, by go_num, hJ2, hP2.next, (HK.out.t F1.out.2.1).t hK2⟩
          case measure => simp [intOf]; omega
    · obtain rfl : i = ls.length := by omega
      gi_wp2
      go_end0
      exact ⟨⟨_, rfl⟩, .inl ⟨pre, ⟨hP.s, fun a ha b hb hne => hP.a a ha b hb (.inl ha) hne⟩, hJ⟩⟩
set_option maxHeartbeats 1000000 in
theorem eachTwoCall_in (F : Fence) (n : Nat) (hF : F.fn 57) (hro : F.round = none) (ao : Option Addr) (len ca : Nat) (w : World) :
    CallsIn F n Try.prog 57 #[.slice ao len ca] w fun e w' => e = .returned (.func (.func 74) #[] #[.pointer (some ⟨w.heap.size, 0, none⟩)]) ∧ w' = w.alloc (.cells #[.slice ao len ca] 32) := by
  refine callsIn_of_wp Try.func57 rfl hF ?_ hro
  simp only [Try.ntmps57, List.size_toArray, List.length_cons, List.length_nil, Nat.reduceAdd, Nat.reduceSub, Array.replicate_succ, Array.replicate_zero, List.push_toArray, List.append_toArray, List.nil_append, List.cons_append]
  gi_wp2
  go_ret
  exact ⟨rfl, rfl⟩
theorem eachTwoCall_stops (F : Fence) (n : Nat) (hF : F.fn 74) (hro : F.round = none) (hn : 1 ≤ n) (Bs : Nat) (ao : Option Addr) (ls : List Cl) (ca : Nat) (hls : ls.length ≤ 1048576) (w : World)
    (hB : Bs < w.heap.size) (hc : w.cell? ⟨Bs, 0, none⟩ = some (.slice ao ls.length ca)) (hR : RdG clC 9 w ao ls) :
    SeqStopsK F n Try.prog 74 #[.pointer (some ⟨Bs, 0, none⟩)] (fun x : Cl × Cl => #[.agg (clA x.1), .agg (clA x.2)]) CK (PrsA ls) (PrsS ls) (ls.length * ls.length) w := fun l J Jx W hW hJ _ hY h0 =>
  eachTwo1Call_in F n hF hro hn l Bs ao ls ca hls J Jx W hJ hY ((hW.cell (p := ⟨Bs, 0, none⟩) hB).trans hc) (hR.later hW) h0
end Go.Proofs.Ytcahaimefgkmiaa
