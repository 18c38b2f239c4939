/- All two of a row, one behind the other: the program's eachTwo at MemberP. -/
import Derived.Test.YtcahaimefgkmiaaRfI
import Derived.Test.YtcahaimefgkmiaaRsM
import Derived.Test.YtcahaimefgkmiaaEaP
namespace Go.Proofs.Ytcahaimefgkmiaa
open Go.RowKit Go.Shelf
set_option linter.unusedVariables false
attribute [local go_sem] Oper.semAt_some

variable {P : Mr → Prop}
/-- A member of which something holds. -/
abbrev MrP (P : Mr → Prop) : Type := {x : Mr // P x}
def mpA (x : MrP P) : Array Value := mrA x.1
def mpC (x : MrP P) : List Value := mrC x.1
theorem encMp : EncK (mpC (P := P)) 16 := ⟨fun x => encMr.len x.1, fun x u hu => encMr.one x.1 u hu⟩
theorem oneMp (x : MrP P) : (mpA x).all (·.oneCell') = true := oneMr x.1
set_option maxRecDepth 100000 in
set_option maxHeartbeats 4000000 in
theorem eachTwo1MemberP_in (F : Fence) (n : Nat) (hF : F.fn 80) (hro : F.round = none) (hn : 1 ≤ n) (l Bs : Nat) (ao : Option Addr) (ls : List (MrP P)) (ca : Nat) (hls : ls.length ≤ 1048576) (J Jx : List ((MrP P) × (MrP P)) → World → Prop) (W : World)
    (hJ : AbidesFrom W.heap.size J)
    (hY : ∀ pre x W, J pre W → pre.length < ls.length * ls.length → YieldAt F (n - 1) Try.prog l #[.agg (mpA x.1), .agg (mpA x.2)] W fun e W' =>
      (e = .returned (.bool true) ∧ J (pre ++ [x]) W' ∧ CK W W') ∨ (e = .returned (.bool false) ∧ Jx (pre ++ [x]) W'))
    (hBs : W.cell? ⟨Bs, 0, none⟩ = some (.slice ao ls.length ca)) (hR : RdG mpC 16 W ao ls) (h0 : J [] W) :
    CallsIn F n Try.prog 80 #[.func (.yield l) #[] #[], .pointer (some ⟨Bs, 0, none⟩)] W fun e W' => (∃ v, e = .returned v) ∧
      ((∃ xs, PrsA ls xs ∧ J xs W') ∨ (∃ pre, PrsS ls pre ∧ Jx pre W')) := by
  have HR := hide1 hR
  have HJ := hide1 hJ
  clear hR hJ
  refine callsIn_of_wp Try.func80 rfl hF ?_ hro
  simp only [Try.ntmps80, List.size_toArray, List.length_cons, List.length_nil, Nat.reduceAdd, Nat.reduceSub, Array.replicate_succ, Array.replicate_zero, List.push_toArray, List.append_toArray, List.nil_append, List.cons_append]
  gi_wp2
  gi_loopw [9] (fun iv wr => ∃ (i : Nat) (pre : List ((MrP P) × (MrP P))), i ≤ ls.length ∧ iv = .int .i64 (i : Int) ∧ J pre wr ∧ PrsI ls i 0 pre ∧ CK W wr) (fun iv _ => ls.length - (intOf iv).toNat)
  case atStart => exact ⟨0, [], by omega, rfl, h0, ⟨fun p hp => by simp at hp, fun a ha b hb hc _ => by omega, by simp⟩, CK.refl _⟩
  case round =>
    obtain ⟨i, pre, hi, rfl, hJ, hP, hK⟩ := hrel
    by_cases hlt : i < ls.length
    · have k1 : (i : Int) < (ls.length : Int) := by omega
      obtain ⟨b1, o1, rfl, hb1, hc1⟩ := RdG.at encMp HR.out i hlt
      have C1 := hide1 (show CsAt wr b1 (o1 + i * 16) (mpA ls[i]) from CsAt.ck hc1 hK)
      have ONE1 := hide1 (oneMp ls[i])
      obtain ⟨X, hX⟩ : ∃ G, G = wr.heap.size := ⟨_, rfl⟩
      have F1 := hide1 (And.intro (BlkA.new wr 69 (mpA ls[i])) (And.intro (CK.bel ((Below.refl wr.heap.size wr).alloc (Nat.le_refl _) (.cells (mpA ls[i]) 69))) (HJ.out _ wr _ none hJ (World.grownBy_alloc wr (.cells (mpA ls[i]) 69) none) (fun r e => by cases e))))
      have bs2 : (wr.alloc (.cells (mpA ls[i]) 69)).cell? ⟨Bs, 0, none⟩ = some (.slice (some ⟨b1, o1, none⟩) ls.length ca) := F1.out.2.1.cell (hK.cell hBs)
      clear hJ hc1
      gi_wp2_with (first | (refine wpListIn_load_at rfl 69 _ rfl b1 (o1 + i * 16) rfl (mpA ls[i]) _ C1.out Try.underlying69 rfl sizeMb ?_) | (refine wpListIn_store_row rfl 69 _ _ rfl wr.heap.size (mpA ls[i]) rfl rfl 69 _ (heap_alloc_last _ _) sizeMb rfl ONE1.out ?_; rw [World.setRow_alloc_new]))
      clear bs2
      have HK := hide1 hK
      have HP := hide1 hP
      clear hK hP
      generalize (wr.alloc (.cells (mpA ls[i]) 69)) = u at F1 ⊢
      rw [← hX] at F1 ⊢
      clear hX
      gi_loopw [16] (fun kv W2 => ∃ (k : Nat) (pre2 : List ((MrP P) × (MrP P))), k ≤ ls.length ∧ kv = .int .i64 (k : Int) ∧ J pre2 W2 ∧ PrsI ls i k pre2 ∧ CK u W2) (fun kv _ => ls.length - (intOf kv).toNat)
      case atStart => exact ⟨0, pre, by omega, rfl, F1.out.2.2, HP.out, CK.refl _⟩
      case round =>
        obtain ⟨k, pre2, hk, rfl, hJ2, hP2, hK2⟩ := hrel
        by_cases hlk : k < ls.length
        · have k2 : (k : Int) < (ls.length : Int) := by omega
          obtain ⟨b2, o2, e2, hb2, hc2⟩ := RdG.at encMp HR.out k hlk
          obtain ⟨rfl, rfl⟩ : b1 = b2 ∧ o1 = o2 := by injection e2 with e2; injection e2 with e3 e4; exact ⟨e3, e4⟩
          have C2 := hide1 (show CsAt wr b1 (o1 + k * 16) (mpA ls[k]) from (CsAt.ck hc2 (HK.out.t F1.out.2.1)).ck hK2)
          have ONE2 := hide1 (oneMp ls[k])
          have F2 := hide1 (And.intro (BlkA.new wr 69 (mpA ls[k])) (And.intro (CK.bel ((Below.refl wr.heap.size wr).alloc (Nat.le_refl _) (.cells (mpA ls[k]) 69))) (HJ.out _ wr _ none hJ2 (World.grownBy_alloc wr (.cells (mpA ls[k]) 69) none) (fun r e => by cases e))))
          have X2 := hide1 (show BlkA wr X 69 (mpA ls[i]) from hK2.blk F1.out.1)
          have K2 := hide1 hK2
          have P2 := hide1 hP2
          clear hJ2 hc2 hK2 hP2
          have X3 := hide1 (show BlkA (wr.alloc (.cells (mpA ls[k]) 69)) X 69 (mpA ls[i]) from F2.out.2.1.blk X2.out)
          by_cases d : k = i
          · have k3 : ((k : Int) != (i : Int)) = false := by simp [d]
            have D := hide1 d
            clear d
            gi_wp2_with (first | (refine wpListIn_load_at rfl 69 _ rfl b1 (o1 + k * 16) rfl (mpA ls[k]) _ C2.out Try.underlying69 rfl sizeMb ?_) | (refine wpListIn_store_row rfl 69 _ _ rfl wr.heap.size (mpA ls[k]) rfl rfl 69 _ (heap_alloc_last _ _) sizeMb rfl ONE2.out ?_; rw [World.setRow_alloc_new]))
            refine ⟨fun _ h => (by cases h), ?_⟩
            gi_wp2
            go_roundw
            case rel => exact ⟨k + 1, pre2, by omega, by go_num, F2.out.2.2, by have := P2.out; rw [D.out] at this ⊢; exact this.skip, K2.out.t F2.out.2.1⟩
            case measure => simp [intOf]; omega
          · have k3 : ((k : Int) != (i : Int)) = true := by simp; omega
            obtain ⟨fn, tmps, assign, body, hy, hR⟩ := hY pre2 (ls[i], ls[k]) (wr.alloc (.cells (mpA ls[k]) 69)) F2.out.2.2 (P2.out.lt hlt hlk)
            dsimp only at hy
            gi_wp2_with (first | (refine wpListIn_load_at rfl 69 _ rfl b1 (o1 + k * 16) rfl (mpA ls[k]) _ C2.out Try.underlying69 rfl sizeMb ?_) | (refine wpListIn_store_row rfl 69 _ _ rfl wr.heap.size (mpA ls[k]) rfl rfl 69 _ (heap_alloc_last _ _) sizeMb rfl ONE2.out ?_; rw [World.setRow_alloc_new]) | (refine wpListIn_load_A rfl 69 _ rfl X rfl 69 (mpA ls[i]) _ X3.out Try.underlying69 rfl sizeMb ?_) | (refine wpListIn_load_A rfl 69 _ rfl wr.heap.size rfl 69 (mpA ls[k]) _ F2.out.1 Try.underlying69 rfl sizeMb ?_))
            refine hR.mono ?_
            rintro e W3 (⟨rfl, hJ3, hk3⟩ | ⟨rfl, hJx3⟩)
            · have K3 := hide1 ((K2.out.t F2.out.2.1).t hk3)
              gi_wp2
              go_roundw
              case rel => exact ⟨k + 1, pre2 ++ [(ls[i], ls[k])], by omega, by go_num, hJ3, P2.out.push hlt hlk (fun e => d e.symm), K3.out⟩
              case measure => simp [intOf]; omega
            · gi_wp2
              refine bodyPost_ret (results_none rfl _ _ _) rfl ?_
              exact ⟨⟨_, rfl⟩, .inr ⟨_, P2.out.s.push hlt hlk (fun e => d e.symm), hJx3⟩⟩
        · obtain rfl : k = ls.length := by omega
          gi_wp2
          go_roundw
          case rel => exact ⟨i + 1, pre2, by omega, by go_num, hJ2, hP2.next, (HK.out.t F1.out.2.1).t hK2⟩
          case measure => simp [intOf]; omega
    · obtain rfl : i = ls.length := by omega
      gi_wp2
      go_end0
      exact ⟨⟨_, rfl⟩, .inl ⟨pre, ⟨hP.s, fun a ha b hb hne => hP.a a ha b hb (.inl ha) hne⟩, hJ⟩⟩
set_option maxHeartbeats 1000000 in
theorem eachTwoMemberP_in (F : Fence) (n : Nat) (hF : F.fn 68) (hro : F.round = none) (ao : Option Addr) (len ca : Nat) (w : World) :
    CallsIn F n Try.prog 68 #[.slice ao len ca] w fun e w' => e = .returned (.func (.func 80) #[] #[.pointer (some ⟨w.heap.size, 0, none⟩)]) ∧ w' = w.alloc (.cells #[.slice ao len ca] 43) := by
  refine callsIn_of_wp Try.func68 rfl hF ?_ hro
  simp only [Try.ntmps68, List.size_toArray, List.length_cons, List.length_nil, Nat.reduceAdd, Nat.reduceSub, Array.replicate_succ, Array.replicate_zero, List.push_toArray, List.append_toArray, List.nil_append, List.cons_append]
  gi_wp2
  go_ret
  exact ⟨rfl, rfl⟩
theorem eachTwoMemberP_stops (F : Fence) (n : Nat) (hF : F.fn 80) (hro : F.round = none) (hn : 1 ≤ n) (Bs : Nat) (ao : Option Addr) (ls : List (MrP P)) (ca : Nat) (hls : ls.length ≤ 1048576) (w : World)
    (hB : Bs < w.heap.size) (hc : w.cell? ⟨Bs, 0, none⟩ = some (.slice ao ls.length ca)) (hR : RdG mpC 16 w ao ls) :
    SeqStopsK F n Try.prog 80 #[.pointer (some ⟨Bs, 0, none⟩)] (fun x : (MrP P) × (MrP P) => #[.agg (mpA x.1), .agg (mpA x.2)]) CK (PrsA ls) (PrsS ls) (ls.length * ls.length) w := fun l J Jx W hW hJ _ hY h0 =>
  eachTwo1MemberP_in F n hF hro hn l Bs ao ls ca hls J Jx W hJ hY ((hW.cell (p := ⟨Bs, 0, none⟩) hB).trans hc) (hR.later hW) h0
end Go.Proofs.Ytcahaimefgkmiaa
