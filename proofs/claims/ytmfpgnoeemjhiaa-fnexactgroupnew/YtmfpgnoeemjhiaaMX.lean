/- Rows of members without rows of their own, compared. -/
import Derived.Test.YtmfpgnoeemjhiaaGpM
import Derived.Test.YtmfpgnoeemjhiaaRowL
import Derived.Test.YtmfpgnoeemjhiaaKit
import Derived.Test.YtmfpgnoeemjhiaaProg
import Derived.Deep.RegionHeld3
import Derived.Test.YtmfpgnoeemjhiaaRowM
import Derived.Test.YtmfpgnoeemjhiaaMark
namespace Go.Proofs.Ytmfpgnoeemjhiaa
open Go.RowKit
set_option linter.unusedVariables false

/-- A member without rows of its own. -/
def NoR (x : Mr) : Prop := x.m.wa = [] ∧ x.m.is = [] ∧ x.m.tk.lf = [] ∧ x.a = noMA
theorem NoR.sz {x : Mr} (h : NoR x) : SzMb x.m := ⟨by rw [h.1]; simp, by rw [h.2.1]; simp, by rw [h.2.2.1]; simp⟩
theorem NoR.rd {x : Mr} (h : NoR x) (w : World) : RdMb w x.m x.a := ⟨fun i hi => by rw [h.1] at hi; simp at hi, fun i hi => by rw [h.2.1] at hi; simp at hi, fun i hi => by rw [h.2.2.1] at hi; simp at hi⟩
theorem eqRow_any (x : Mr) (w : World) (h : NoR x) : Calls Try.prog 48 #[.agg (mbA x.m x.a), .agg (mbA x.m x.a)] w fun r w' => r = .returned (.bool true) ∧ Below w.heap.size w w' := eqMb_A x.m x.a x.a w h.sz (h.rd w) (h.rd w)
set_option maxRecDepth 100000 in
set_option maxHeartbeats 4000000 in
theorem eqMemberS_same (a b : Option Addr) (l : List Mr) (ca cb : Nat) (w : World) (hl : l.length ≤ 1048576) (hn : ∀ x ∈ l, NoR x) (ha : RdG mrC 16 w a l) (hb : RdG mrC 16 w b l) :
    Calls Try.prog 30 #[.slice a l.length ca, .slice b l.length cb] w fun e w' => e = .returned (.bool true) ∧ Below w.heap.size w w' := by
  have HA := hide1 ha
  have HB := hide1 hb
  have HN := hide1 hn
  clear ha hb hn
  have q0 : ((l.length : Int) != (l.length : Int)) = false := by simp
  go_enter Try.func30, Try.ntmps30
  go_wp2
  go_loopw [5] (fun iv wr => ∃ i : Nat, i ≤ l.length ∧ iv = .int .i64 (i : Int) ∧ Hid (Below w.heap.size w wr)) (fun iv _ => l.length - (intOf iv).toNat)
  case atStart => exact ⟨0, by omega, rfl, hide1 (Below.refl _ _)⟩
  case round =>
    obtain ⟨i, hi, rfl, BB⟩ := hrel
    by_cases hlt : i < l.length
    · have k1 : (i : Int) < (l.length : Int) := by omega
      obtain ⟨b1, o1, rfl, hg1, h1⟩ := (HA.out.later BB.out).at encMr i hlt
      obtain ⟨b2, o2, rfl, hg2, h2⟩ := (HB.out.later BB.out).at encMr i hlt
      have CE := hide1 (fun W => eqRow_any l[i] W (HN.out _ (List.getElem_mem hlt)))
      generalize l[i] = y at *
      have H1 := hide1 (show CsAt wr b1 (o1 + i * 16) (mbA y.m y.a) from h1)
      have H2 := hide1 (show CsAt wr b2 (o2 + i * 16) (mbA y.m y.a) from h2)
      have ZS := hide1 (fun w' (D : Below wr.heap.size wr w') => (show (Instr.loadAt 54 (.pointer (some ⟨b1, o1 + i * 16, none⟩))).run Try.prog w' = .ok (.agg (mbA y.m y.a)) w' ∧ (Instr.loadAt 54 (.pointer (some ⟨b2, o2 + i * 16, none⟩))).run Try.prog w' = .ok (.agg (mbA y.m y.a)) w' from ⟨(H1.out.later D hg1).load Try.underlying54 rfl sizeMb, (H2.out.later D hg2).load Try.underlying54 rfl sizeMb⟩))
      clear h1 h2 H1 H2
      go_wp2
      refine wp_region_held_drew (S := fun w' => (Instr.loadAt 54 (.pointer (some ⟨b1, o1 + i * 16, none⟩))).run Try.prog w' = .ok (.agg (mbA y.m y.a)) w' ∧ (Instr.loadAt 54 (.pointer (some ⟨b2, o2 + i * 16, none⟩))).run Try.prog w' = .ok (.agg (mbA y.m y.a)) w') rfl (ZS.out _ (by go_grown)) (fun hS0 => ?_)
      refine wpAnyH_take (i := 0) (oi := _) (v := ?_) rfl (by kernel_rfl) (by kernel_rfl) (by kernel_rfl) (fun _ _ _ h => h) (.inl ⟨by rfl, ?_⟩) hS0 ?_
      rotate_left
      · intro w' hSw
        go_simp
        with_reducible rfl
      refine wpAnyH_take (i := 1) (oi := _) (v := ?_) rfl (by kernel_rfl) (by kernel_rfl) (by kernel_rfl) (fun _ _ _ h => h) (.inl ⟨by rfl, ?_⟩) hS0 ?_
      rotate_left
      · intro w' hSw
        go_simp
        with_reducible rfl
      refine wpAnyH_take (i := 2) (oi := _) (v := ?_) rfl (by kernel_rfl) (by kernel_rfl) (by kernel_rfl) (fun _ _ _ h => h) (.inl ⟨by rfl, ?_⟩) hS0 ?_
      rotate_left
      · intro w' hSw
        go_simp
        with_reducible rfl
      refine wpAnyH_take (i := 4) (oi := _) (v := ?_) rfl (by kernel_rfl) (by kernel_rfl) (by kernel_rfl) (fun _ _ _ h => h) (.inl ⟨by rfl, ?_⟩) hS0 ?_
      rotate_left
      · intro w' hSw
        go_simp
        with_reducible rfl
      refine wpAnyH_take (i := 5) (oi := _) (v := ?_) rfl (by kernel_rfl) (by kernel_rfl) (by kernel_rfl) (fun _ _ _ h => h) (.inl ⟨by rfl, ?_⟩) hS0 ?_
      rotate_left
      · intro w' hSw
        go_simp
        with_reducible rfl
      refine wpAnyH_take (i := 6) (oi := _) (v := ?_) rfl (by kernel_rfl) (by kernel_rfl) (by kernel_rfl) (fun _ _ _ h => h) (.inl ⟨by rfl, ?_⟩) hS0 ?_
      rotate_left
      · intro w' hSw
        go_simp
        with_reducible rfl
      refine wpAnyH_take (i := 3) (oi := _) (v := .agg (mbA y.m y.a)) rfl (by kernel_rfl) (by kernel_rfl) (by kernel_rfl) (fun _ _ _ h => h) (yieldsIf_loadX (by rfl) 54 (.tmp 19) rfl b1 (o1 + i * 16) rfl (mbA y.m y.a) (fun w h => h.1)) hS0 ?_
      refine wpAnyH_take (i := 7) (oi := _) (v := .agg (mbA y.m y.a)) rfl (by kernel_rfl) (by kernel_rfl) (by kernel_rfl) (fun _ _ _ h => h) (yieldsIf_loadX (by rfl) 54 (.tmp 23) rfl b2 (o2 + i * 16) rfl (mbA y.m y.a) (fun w h => h.2)) hS0 ?_
      refine wpAnyH_ready (rs := [8]) (by kernel_rfl) (by simp) (AllReadyH.cons rfl (fun K hK => ?_) AllReadyH.nil)
      go_simp
      go_at_call 48
      refine (CE.out _).mono ?_
      rintro e w8 ⟨rfl, hb8⟩
      have D8 : Hid (Below wr.heap.size wr w8) := (show Below wr.heap.size wr _ by go_grown).trans hb8
      clear hb8
      go_simp
      refine hK.out _ _ (ZS.out _ D8.out) (fun hS8 => ?_)
      clear hK K
      refine wpAnyH_ready (rs := [9]) (by kernel_rfl) (by simp) (AllReadyH.cons rfl (fun K hK => ?_) AllReadyH.nil)
      go_simp
      refine hK.out _ _ (ZS.out _ D8.out) (fun hS9 => ?_)
      clear hK K hS0 hS8 hS9
      refine wpAnyH_done (by kernel_rfl) ?_ _
      go_wp2
      go_roundw
      case rel => exact ⟨i + 1, by omega, by go_num, hide1 (BB.out.trans (D8.out.mono BB.out.size))⟩
      case measure => simp [intOf]; omega
    · go_wp2
      go_ret
      exact ⟨rfl, BB.out⟩
end Go.Proofs.Ytmfpgnoeemjhiaa
namespace Go.Proofs.Ytmfpgnoeemjhiaa
open Go.RowKit
set_option linter.unusedVariables false

set_option maxRecDepth 100000 in
theorem nil_markIntS (z : Int) (w : World) : Calls Try.prog 34 #[.slice none 0 0, .int .i64 z] w fun e w' => e = .returned (.int .i64 z) ∧ w' = w := by
  go_enter Try.func34, Try.ntmps34
  go_wp2
  refine wp_loop_rounds 1 ?_
  rw [rounds_succ]
  go_wp2
  go_ret
  exact ⟨rfl, rfl⟩
set_option maxRecDepth 100000 in
theorem nil_markItemS (z : Int) (w : World) : Calls Try.prog 51 #[.slice none 0 0, .int .i64 z] w fun e w' => e = .returned (.int .i64 z) ∧ w' = w := by
  go_enter Try.func51, Try.ntmps51
  go_wp2
  refine wp_loop_rounds 1 ?_
  rw [rounds_succ]
  go_wp2
  go_ret
  exact ⟨rfl, rfl⟩
set_option maxRecDepth 100000 in
theorem nil_markMsgS (z : Int) (w : World) : Calls Try.prog 36 #[.slice none 0 0, .int .i64 z] w fun e w' => e = .returned (.int .i64 z) ∧ w' = w := by
  go_enter Try.func36, Try.ntmps36
  go_wp2
  refine wp_loop_rounds 1 ?_
  rw [rounds_succ]
  go_wp2
  go_ret
  exact ⟨rfl, rfl⟩
set_option maxRecDepth 100000 in
theorem nil_markCallS (z : Int) (w : World) : Calls Try.prog 37 #[.slice none 0 0, .int .i64 z] w fun e w' => e = .returned (.int .i64 z) ∧ w' = w := by
  go_enter Try.func37, Try.ntmps37
  go_wp2
  refine wp_loop_rounds 1 ?_
  rw [rounds_succ]
  go_wp2
  go_ret
  exact ⟨rfl, rfl⟩
set_option maxRecDepth 100000 in
theorem nil_heldIntS (z : Int) (w : World) : Calls Try.prog 53 #[.slice none 0 0, .int .i64 z] w fun e w' => e = .returned (.int .i64 z) ∧ w' = w := by
  go_enter Try.func53, Try.ntmps53
  go_wp2
  refine wp_loop_rounds 1 ?_
  rw [rounds_succ]
  go_wp2
  go_ret
  exact ⟨rfl, rfl⟩
set_option maxRecDepth 100000 in
theorem nil_heldItemS (z : Int) (w : World) : Calls Try.prog 54 #[.slice none 0 0, .int .i64 z] w fun e w' => e = .returned (.int .i64 z) ∧ w' = w := by
  go_enter Try.func54, Try.ntmps54
  go_wp2
  refine wp_loop_rounds 1 ?_
  rw [rounds_succ]
  go_wp2
  go_ret
  exact ⟨rfl, rfl⟩
set_option maxRecDepth 100000 in
theorem nil_heldMsgS (z : Int) (w : World) : Calls Try.prog 40 #[.slice none 0 0, .int .i64 z] w fun e w' => e = .returned (.int .i64 z) ∧ w' = w := by
  go_enter Try.func40, Try.ntmps40
  go_wp2
  refine wp_loop_rounds 1 ?_
  rw [rounds_succ]
  go_wp2
  go_ret
  exact ⟨rfl, rfl⟩
set_option maxRecDepth 100000 in
theorem nil_heldCallS (z : Int) (w : World) : Calls Try.prog 41 #[.slice none 0 0, .int .i64 z] w fun e w' => e = .returned (.int .i64 z) ∧ w' = w := by
  go_enter Try.func41, Try.ntmps41
  go_wp2
  refine wp_loop_rounds 1 ?_
  rw [rounds_succ]
  go_wp2
  go_ret
  exact ⟨rfl, rfl⟩
set_option maxRecDepth 100000 in
theorem nil_markMemberS (z : Int) (w : World) : Calls Try.prog 35 #[.slice none 0 0, .int .i64 z] w fun e w' => e = .returned (.int .i64 z) ∧ w' = w := by
  go_enter Try.func35, Try.ntmps35
  go_wp2
  refine wp_loop_rounds 1 ?_
  rw [rounds_succ]
  go_wp2
  go_ret
  exact ⟨rfl, rfl⟩
set_option maxRecDepth 100000 in
theorem nil_heldMemberS (z : Int) (w : World) : Calls Try.prog 39 #[.slice none 0 0, .int .i64 z] w fun e w' => e = .returned (.int .i64 z) ∧ w' = w := by
  go_enter Try.func39, Try.ntmps39
  go_wp2
  refine wp_loop_rounds 1 ?_
  rw [rounds_succ]
  go_wp2
  go_ret
  exact ⟨rfl, rfl⟩
set_option maxRecDepth 100000 in
theorem nil_markIntSS (z : Int) (w : World) : Calls Try.prog 15 #[.slice none 0 0, .int .i64 z] w fun e w' => e = .returned (.int .i64 z) ∧ w' = w := by
  go_enter Try.func15, Try.ntmps15
  go_wp2
  refine wp_loop_rounds 1 ?_
  rw [rounds_succ]
  go_wp2
  go_ret
  exact ⟨rfl, rfl⟩
set_option maxRecDepth 100000 in
theorem nil_heldIntSS (z : Int) (w : World) : Calls Try.prog 38 #[.slice none 0 0, .int .i64 z] w fun e w' => e = .returned (.int .i64 z) ∧ w' = w := by
  go_enter Try.func38, Try.ntmps38
  go_wp2
  refine wp_loop_rounds 1 ?_
  rw [rounds_succ]
  go_wp2
  go_ret
  exact ⟨rfl, rfl⟩
set_option maxRecDepth 100000 in
theorem nil_eqMsgS (w : World) : Calls Try.prog 31 #[.slice none 0 0, .slice none 0 0] w fun e w' => e = .returned (.bool true) ∧ w' = w := by
  go_enter Try.func31, Try.ntmps31
  go_wp2
  refine wp_loop_rounds 1 ?_
  rw [rounds_succ]
  go_wp2
  go_ret
  exact ⟨rfl, rfl⟩
set_option maxRecDepth 100000 in
theorem nil_eqCallS (w : World) : Calls Try.prog 32 #[.slice none 0 0, .slice none 0 0] w fun e w' => e = .returned (.bool true) ∧ w' = w := by
  go_enter Try.func32, Try.ntmps32
  go_wp2
  refine wp_loop_rounds 1 ?_
  rw [rounds_succ]
  go_wp2
  go_ret
  exact ⟨rfl, rfl⟩
set_option maxRecDepth 100000 in
theorem nil_eqIntSS (w : World) : Calls Try.prog 14 #[.slice none 0 0, .slice none 0 0] w fun e w' => e = .returned (.bool true) ∧ w' = w := by
  go_enter Try.func14, Try.ntmps14
  go_wp2
  refine wp_loop_rounds 1 ?_
  rw [rounds_succ]
  go_wp2
  go_ret
  exact ⟨rfl, rfl⟩
set_option maxRecDepth 100000 in
theorem nil_eqMemberS (w : World) : Calls Try.prog 30 #[.slice none 0 0, .slice none 0 0] w fun e w' => e = .returned (.bool true) ∧ w' = w := by
  go_enter Try.func30, Try.ntmps30
  go_wp2
  refine wp_loop_rounds 1 ?_
  rw [rounds_succ]
  go_wp2
  go_ret
  exact ⟨rfl, rfl⟩
end Go.Proofs.Ytmfpgnoeemjhiaa
namespace Go.Proofs.Ytmfpgnoeemjhiaa
open Go.RowKit
set_option linter.unusedVariables false
/-- A member marked from q on. -/
def mMr (q : Nat) : Mr := ⟨⟨(q : Int), (q : Int) + 1, ((q : Int) + 1 + 1) % 3 == 0, ((q : Int) + 1 + 1 + 1) % 3 == 0, ((q : Int) + 1 + 1 + 1 + 1) % 3 == 0, ((q : Int) + 1 + 1 + 1 + 1 + 1) % 3 == 0, [], [], (q : Int) + 1 + 1 + 1 + 1 + 1 + 1, ⟨(q : Int) + 1 + 1 + 1 + 1 + 1 + 1 + 1, (q : Int) + 1 + 1 + 1 + 1 + 1 + 1 + 1 + 1, (q : Int) + 1 + 1 + 1 + 1 + 1 + 1 + 1 + 1 + 1, ⟨mkT (q + 10), mkT (q + 11), (q : Int) + 1 + 1 + 1 + 1 + 1 + 1 + 1 + 1 + 1 + 1 + 1 + 1⟩, []⟩⟩, noMA⟩
theorem mark_atM (z : Int) (n : Nat) (w : World) (hz : z = (n : Int)) (hn : n ≤ 9223372036854775807) (h0 : 0 < n) : Calls Try.prog 52 #[.int .i64 z] w fun e w' => e = .returned (.string (mkT n)) ∧ Below w.heap.size w w' := by subst hz; exact markText_any n w hn h0
/-- The cells of a row that are empty rows. -/
def NilAt (xs : List Value) (n : Nat) : Prop := ∀ i, i < n → xs[i * 16 + 6]? = some (.slice none 0 0) ∧ xs[i * 16 + 7]? = some (.slice none 0 0) ∧ xs[i * 16 + 15]? = some (.slice none 0 0)
theorem mk_tail (m : Nat → Mr) (s k : Nat) (xs : List Value) (i j : Nat) : (mkG m s k mrC 16 xs i)[i * 16 + j]? = xs[i * 16 + j]? := by
  unfold mkG
  have hl : (rowG mrC (patG m s k i)).length = i * 16 := by rw [rowG_length mrC 16 encMr.len, patG_length]
  rw [List.getElem?_append_right (by omega), hl, List.getElem?_drop]
  congr 1
  omega
theorem nil_row {l : List Mr} (h : ∀ x ∈ l, NoR x) : NilAt (rowG mrC l) l.length := fun i hi => by
  have hx := h _ (List.getElem_mem hi)
  have e := fun j (hj : j < 16) => rowG_at mrC 16 encMr.len l i j hi hj
  rw [e 6 (by omega), e 7 (by omega), e 15 (by omega)]
  unfold mrC mbA
  rw [hx.1, hx.2.1, hx.2.2.1, hx.2.2.2]
  exact ⟨rfl, rfl, rfl⟩
theorem set_same {L : List Value} {j : Nat} {v : Value} (h : L[j]? = some v) : L.set j v = L := by
  obtain ⟨hj, e⟩ := List.getElem?_eq_some_iff.1 h
  rw [← e]
  exact List.set_getElem_self hj
set_option maxRecDepth 10000 in
theorem set_mr (L : List Value) (i : Nat) (x0 x1 x2 x3 x4 x5 x8 x9 xa xb xc xd xe : Value) (h6 : L[i * 16 + 6]? = some (.slice none 0 0)) (h7 : L[i * 16 + 7]? = some (.slice none 0 0)) (h15 : L[i * 16 + 15]? = some (.slice none 0 0)) :
    (((((((((((((L).set (i * 16) x0).set (i * 16 + 1) x1).set (i * 16 + 2) x2).set (i * 16 + 3) x3).set (i * 16 + 4) x4).set (i * 16 + 5) x5).set (i * 16 + 8) x8).set (i * 16 + 9) x9).set (i * 16 + 10) xa).set (i * 16 + 11) xb).set (i * 16 + 12) xc).set (i * 16 + 13) xd).set (i * 16 + 14) xe = setL L (i * 16) [x0, x1, x2, x3, x4, x5, .slice none 0 0, .slice none 0 0, x8, x9, xa, xb, xc, xd, xe, .slice none 0 0] := by
  simp only [setL, Nat.add_assoc, Nat.reduceAdd]
  rw [set_same (j := i * 16 + 6) (v := .slice none 0 0) (by rw [List.getElem?_set_ne (by omega), List.getElem?_set_ne (by omega), List.getElem?_set_ne (by omega), List.getElem?_set_ne (by omega), List.getElem?_set_ne (by omega), List.getElem?_set_ne (by omega)]; exact h6), set_same (j := i * 16 + 7) (v := .slice none 0 0) (by rw [List.getElem?_set_ne (by omega), List.getElem?_set_ne (by omega), List.getElem?_set_ne (by omega), List.getElem?_set_ne (by omega), List.getElem?_set_ne (by omega), List.getElem?_set_ne (by omega)]; exact h7), set_same (j := i * 16 + 15) (v := .slice none 0 0) (by rw [List.getElem?_set_ne (by omega), List.getElem?_set_ne (by omega), List.getElem?_set_ne (by omega), List.getElem?_set_ne (by omega), List.getElem?_set_ne (by omega), List.getElem?_set_ne (by omega), List.getElem?_set_ne (by omega), List.getElem?_set_ne (by omega), List.getElem?_set_ne (by omega), List.getElem?_set_ne (by omega), List.getElem?_set_ne (by omega), List.getElem?_set_ne (by omega), List.getElem?_set_ne (by omega)]; exact h15)]
set_option maxRecDepth 100000 in
set_option maxHeartbeats 4000000 in
theorem markMemberS_any (v : Value) (n k : Nat) (xs : List Value) (base : Nat) (w : World) (hn : n ≤ 6) (hk : k ≤ 16777216) (hk0 : 0 < k) (hN : NilAt xs n) (hown : w.ownsRow base 54 16 v n xs) :
    Calls Try.prog 35 #[v, .int .i64 k] w fun e w' => e = .returned (.int .i64 ((k : Int) + 13 * (n : Int))) ∧ w'.ownsRow base 54 16 v n (rowG mrC (patG mMr 13 k n)) ∧ w.grownBy w' v.ownBlock := by
  have hxl := hown.1
  rcases hown.2 with ⟨rfl, rfl⟩ | ⟨g, cap, cur, rfl, hbg, hgg, _⟩
  · go_enter Try.func35, Try.ntmps35
    go_wp2
    refine wp_loop_rounds 1 ?_
    rw [rounds_succ]
    go_wp2
    go_ret
    exact ⟨by simp, by have : xs = [] := List.eq_nil_of_length_eq_zero (by omega); subst this; exact hown, World.grownBy.refl _ _⟩
  · have HO := hide1 hown
    have HX := hide1 hxl
    have HN := hide1 hN
    clear hgg hown hxl hN
    have CZ := hide1 (fun (z : Int) (w : World) => nil_markIntS z w)
    have CI := hide1 (fun (z : Int) (w : World) => nil_markItemS z w)
    go_enter Try.func35, Try.ntmps35
    go_wp2
    go_loopw [1, 5] (fun kv iv wr => ∃ i kk : Nat, i ≤ n ∧ iv = .int .i64 (i : Int) ∧ kv = .int .i64 (kk : Int) ∧ Hid (kk = k + 13 * i) ∧ 0 < kk ∧ kk ≤ 33554432 ∧ Hid (wr.ownsRow base 54 16 (.slice (some ⟨g, 0, none⟩) n cap) n (mkG mMr 13 k mrC 16 xs i)) ∧ Hid (w.grownBy wr (some g))) (fun _ iv _ => n - (intOf iv).toNat)
    case atStart => exact ⟨0, k, by omega, rfl, rfl, rfl, hk0, by omega, hide1 (by rw [mkG_zero]; exact HO.out), hide1 (World.grownBy.refl _ _)⟩
    case round =>
      obtain ⟨i, kk, hi, rfl, rfl, hkk, hkp, hkm, OW, BW⟩ := hrel
      by_cases hlt : i < n
      · have k1 : (i : Int) < (n : Int) := by omega
        have NA := hide1 (HN.out i hlt)
        obtain ⟨u0, x0⟩ := own_some OW.out (i * 16) (by omega)
        have f0 := OW.out.frozenAt (i * 16)
        have OW0 := hide1 (World.ownsRow.stored OW.out (i * 16) (.int .i64 ((kk : Int)))).1
        have BW0 := hide1 (gset BW.out (i * 16) (.int .i64 ((kk : Int))))
        obtain ⟨u1, x1⟩ := own_some OW0.out (i * 16 + 1) (by omega)
        have f1 := OW0.out.frozenAt (i * 16 + 1)
        have OW1 := hide1 (World.ownsRow.stored OW0.out (i * 16 + 1) (.int .i64 ((kk : Int) + 1))).1
        have BW1 := hide1 (gset BW0.out (i * 16 + 1) (.int .i64 ((kk : Int) + 1)))
        obtain ⟨b2, hb2⟩ : ∃ b : Bool, (((kk : Int) + 1 + 1) % 3 == 0) = b := ⟨_, rfl⟩
        have HB2 := hide1 hb2
        obtain ⟨u2, x2⟩ := own_some OW1.out (i * 16 + 2) (by omega)
        have f2 := OW1.out.frozenAt (i * 16 + 2)
        have OW2 := hide1 (World.ownsRow.stored OW1.out (i * 16 + 2) (.bool b2)).1
        have BW2 := hide1 (gset BW1.out (i * 16 + 2) (.bool b2))
        obtain ⟨b3, hb3⟩ : ∃ b : Bool, (((kk : Int) + 1 + 1 + 1) % 3 == 0) = b := ⟨_, rfl⟩
        have HB3 := hide1 hb3
        obtain ⟨u3, x3⟩ := own_some OW2.out (i * 16 + 3) (by omega)
        have f3 := OW2.out.frozenAt (i * 16 + 3)
        have OW3 := hide1 (World.ownsRow.stored OW2.out (i * 16 + 3) (.bool b3)).1
        have BW3 := hide1 (gset BW2.out (i * 16 + 3) (.bool b3))
        obtain ⟨b4, hb4⟩ : ∃ b : Bool, (((kk : Int) + 1 + 1 + 1 + 1) % 3 == 0) = b := ⟨_, rfl⟩
        have HB4 := hide1 hb4
        obtain ⟨u4, x4⟩ := own_some OW3.out (i * 16 + 4) (by omega)
        have f4 := OW3.out.frozenAt (i * 16 + 4)
        have OW4 := hide1 (World.ownsRow.stored OW3.out (i * 16 + 4) (.bool b4)).1
        have BW4 := hide1 (gset BW3.out (i * 16 + 4) (.bool b4))
        obtain ⟨b5, hb5⟩ : ∃ b : Bool, (((kk : Int) + 1 + 1 + 1 + 1 + 1) % 3 == 0) = b := ⟨_, rfl⟩
        have HB5 := hide1 hb5
        obtain ⟨u5, x5⟩ := own_some OW4.out (i * 16 + 5) (by omega)
        have f5 := OW4.out.frozenAt (i * 16 + 5)
        have OW5 := hide1 (World.ownsRow.stored OW4.out (i * 16 + 5) (.bool b5)).1
        have BW5 := hide1 (gset BW4.out (i * 16 + 5) (.bool b5))
        have y6 := (OW5.out.cellAt (i * 16 + 6) (by omega)).trans (show _ = some (Value.slice none 0 0) by rw [List.getElem?_set_ne (by omega), List.getElem?_set_ne (by omega), List.getElem?_set_ne (by omega), List.getElem?_set_ne (by omega), List.getElem?_set_ne (by omega), List.getElem?_set_ne (by omega), mk_tail]; exact NA.out.1)
        go_wp2_with fail
        refine (CZ.out _ _).mono ?_
        rintro e v6 ⟨rfl, hw6⟩
        have OWz6 := hide1 (show v6.ownsRow base 54 16 (.slice (some ⟨g, 0, none⟩) n cap) n _ by rw [hw6]; exact OW5.out)
        have BWz6 := hide1 (show w.grownBy v6 (some g) by rw [hw6]; exact BW5.out)
        clear hw6 y6 OW5 BW5 x0 f0 x1 f1 x2 f2 x3 f3 x4 f4 x5 f5
        have y7 := (OWz6.out.cellAt (i * 16 + 7) (by omega)).trans (show _ = some (Value.slice none 0 0) by rw [List.getElem?_set_ne (by omega), List.getElem?_set_ne (by omega), List.getElem?_set_ne (by omega), List.getElem?_set_ne (by omega), List.getElem?_set_ne (by omega), List.getElem?_set_ne (by omega), mk_tail]; exact NA.out.2.1)
        go_wp2_with fail
        refine (CI.out _ _).mono ?_
        rintro e v7 ⟨rfl, hw7⟩
        have OWz7 := hide1 (show v7.ownsRow base 54 16 (.slice (some ⟨g, 0, none⟩) n cap) n _ by rw [hw7]; exact OWz6.out)
        have BWz7 := hide1 (show w.grownBy v7 (some g) by rw [hw7]; exact BWz6.out)
        clear hw7 y7 OWz6 BWz6
        obtain ⟨u8, x8⟩ := own_some OWz7.out (i * 16 + 8) (by omega)
        have f8 := OWz7.out.frozenAt (i * 16 + 8)
        have OW8 := hide1 (World.ownsRow.stored OWz7.out (i * 16 + 8) (.int .i64 ((kk : Int) + 1 + 1 + 1 + 1 + 1 + 1))).1
        have BW8 := hide1 (gset BWz7.out (i * 16 + 8) (.int .i64 ((kk : Int) + 1 + 1 + 1 + 1 + 1 + 1)))
        obtain ⟨u9, x9⟩ := own_some OW8.out (i * 16 + 9) (by omega)
        have f9 := OW8.out.frozenAt (i * 16 + 9)
        have OW9 := hide1 (World.ownsRow.stored OW8.out (i * 16 + 9) (.int .i64 ((kk : Int) + 1 + 1 + 1 + 1 + 1 + 1 + 1))).1
        have BW9 := hide1 (gset BW8.out (i * 16 + 9) (.int .i64 ((kk : Int) + 1 + 1 + 1 + 1 + 1 + 1 + 1)))
        obtain ⟨u10, x10⟩ := own_some OW9.out (i * 16 + 10) (by omega)
        have f10 := OW9.out.frozenAt (i * 16 + 10)
        have OW10 := hide1 (World.ownsRow.stored OW9.out (i * 16 + 10) (.int .i64 ((kk : Int) + 1 + 1 + 1 + 1 + 1 + 1 + 1 + 1))).1
        have BW10 := hide1 (gset BW9.out (i * 16 + 10) (.int .i64 ((kk : Int) + 1 + 1 + 1 + 1 + 1 + 1 + 1 + 1)))
        obtain ⟨u11, x11⟩ := own_some OW10.out (i * 16 + 11) (by omega)
        have f11 := OW10.out.frozenAt (i * 16 + 11)
        have OW11 := hide1 (World.ownsRow.stored OW10.out (i * 16 + 11) (.int .i64 ((kk : Int) + 1 + 1 + 1 + 1 + 1 + 1 + 1 + 1 + 1))).1
        have BW11 := hide1 (gset BW10.out (i * 16 + 11) (.int .i64 ((kk : Int) + 1 + 1 + 1 + 1 + 1 + 1 + 1 + 1 + 1)))
        have C12 := hide1 (fun (z : Int) (w : World) (hz : z = ((kk + 10 : Nat) : Int)) => mark_atM z (kk + 10) w hz (by omega) (by omega))
        go_wp2_with fail
        refine (C12.out _ _ (by omega)).mono ?_
        rintro e v12 ⟨rfl, hb12⟩
        have P12 := hide1 (own_kept OW11.out hb12)
        have D12 := hide1 (BW11.out.trans (gnew hb12))
        obtain ⟨u12, x12⟩ := own_some P12.out (i * 16 + 12) (by omega)
        have f12 := P12.out.frozenAt (i * 16 + 12)
        obtain ⟨z12, hz12⟩ : ∃ z, z = mkT (kk + 10) := ⟨_, rfl⟩
        rw [← hz12]
        have Z12 := hide1 hz12
        have OW12 := hide1 (World.ownsRow.stored P12.out (i * 16 + 12) (.string z12)).1
        have BW12 := hide1 (gset D12.out (i * 16 + 12) (.string z12))
        clear hb12 hz12 C12 P12 D12
        have C13 := hide1 (fun (z : Int) (w : World) (hz : z = ((kk + 11 : Nat) : Int)) => mark_atM z (kk + 11) w hz (by omega) (by omega))
        go_wp2_with fail
        refine (C13.out _ _ (by omega)).mono ?_
        rintro e v13 ⟨rfl, hb13⟩
        have P13 := hide1 (own_kept OW12.out hb13)
        have D13 := hide1 (BW12.out.trans (gnew hb13))
        obtain ⟨u13, x13⟩ := own_some P13.out (i * 16 + 13) (by omega)
        have f13 := P13.out.frozenAt (i * 16 + 13)
        obtain ⟨z13, hz13⟩ : ∃ z, z = mkT (kk + 11) := ⟨_, rfl⟩
        rw [← hz13]
        have Z13 := hide1 hz13
        have OW13 := hide1 (World.ownsRow.stored P13.out (i * 16 + 13) (.string z13)).1
        have BW13 := hide1 (gset D13.out (i * 16 + 13) (.string z13))
        clear hb13 hz13 C13 P13 D13
        obtain ⟨u14, x14⟩ := own_some OW13.out (i * 16 + 14) (by omega)
        have f14 := OW13.out.frozenAt (i * 16 + 14)
        have OW14 := hide1 (World.ownsRow.stored OW13.out (i * 16 + 14) (.int .i64 ((kk : Int) + 1 + 1 + 1 + 1 + 1 + 1 + 1 + 1 + 1 + 1 + 1 + 1))).1
        have BW14 := hide1 (gset BW13.out (i * 16 + 14) (.int .i64 ((kk : Int) + 1 + 1 + 1 + 1 + 1 + 1 + 1 + 1 + 1 + 1 + 1 + 1)))
        have y15 := (OW14.out.cellAt (i * 16 + 15) (by omega)).trans (show _ = some (Value.slice none 0 0) by rw [List.getElem?_set_ne (by omega), List.getElem?_set_ne (by omega), List.getElem?_set_ne (by omega), List.getElem?_set_ne (by omega), List.getElem?_set_ne (by omega), List.getElem?_set_ne (by omega), List.getElem?_set_ne (by omega), List.getElem?_set_ne (by omega), List.getElem?_set_ne (by omega), List.getElem?_set_ne (by omega), List.getElem?_set_ne (by omega), List.getElem?_set_ne (by omega), List.getElem?_set_ne (by omega), mk_tail]; exact NA.out.2.2)
        go_wp2_with fail
        refine (CZ.out _ _).mono ?_
        rintro e v15 ⟨rfl, hw15⟩
        have OWz15 := hide1 (show v15.ownsRow base 54 16 (.slice (some ⟨g, 0, none⟩) n cap) n _ by rw [hw15]; exact OW14.out)
        have BWz15 := hide1 (show w.grownBy v15 (some g) by rw [hw15]; exact BW14.out)
        clear hw15 y15 OW14 BW14 x8 f8 x9 f9 x10 f10 x11 f11 x12 f12 x13 f13 x14 f14
        go_wp2
        go_roundw
        case rel =>
          refine ⟨i + 1, kk + 13, by omega, by go_num, by go_num, ?_, by omega, by have := hkk.out; omega, ?_, BWz15⟩
          · show kk + 13 = k + 13 * (i + 1); have := hkk.out; omega
          · have st := OWz15.out
            have hn2 := mkG_next (enc := mrC) (kk := 16) mMr 13 k encMr xs i (by have := HX.out; omega)
            rw [← hn2, ← hkk.out]
            have N6 := (mk_tail mMr 13 k xs i 6).trans NA.out.1
            have N7 := (mk_tail mMr 13 k xs i 7).trans NA.out.2.1
            have N15 := (mk_tail mMr 13 k xs i 15).trans NA.out.2.2
            have e9 : (((((((((((((mkG mMr 13 k mrC 16 xs i).set (i * 16) (.int .i64 ((kk : Int)))).set (i * 16 + 1) (.int .i64 ((kk : Int) + 1))).set (i * 16 + 2) (.bool b2)).set (i * 16 + 3) (.bool b3)).set (i * 16 + 4) (.bool b4)).set (i * 16 + 5) (.bool b5)).set (i * 16 + 8) (.int .i64 ((kk : Int) + 1 + 1 + 1 + 1 + 1 + 1))).set (i * 16 + 9) (.int .i64 ((kk : Int) + 1 + 1 + 1 + 1 + 1 + 1 + 1))).set (i * 16 + 10) (.int .i64 ((kk : Int) + 1 + 1 + 1 + 1 + 1 + 1 + 1 + 1))).set (i * 16 + 11) (.int .i64 ((kk : Int) + 1 + 1 + 1 + 1 + 1 + 1 + 1 + 1 + 1))).set (i * 16 + 12) (.string z12)).set (i * 16 + 13) (.string z13)).set (i * 16 + 14) (.int .i64 ((kk : Int) + 1 + 1 + 1 + 1 + 1 + 1 + 1 + 1 + 1 + 1 + 1 + 1)) = setL (mkG mMr 13 k mrC 16 xs i) (i * 16) (mrC (mMr kk)) := by
              rw [← HB2.out, ← HB3.out, ← HB4.out, ← HB5.out, Z12.out, Z13.out]
              exact set_mr _ _ _ _ _ _ _ _ _ _ _ _ _ _ _ N6 N7 N15
            rw [← e9]
            exact hide1 st
        case measure => simp [intOf]; omega
      · obtain rfl : i = n := by omega
        go_wp2
        go_ret
        have hown1 := OW.out
        rw [mkG_all _ _ _ encMr xs i HX.out] at hown1
        exact ⟨by rw [hkk.out]; simp, hown1, BW.out⟩

set_option maxRecDepth 100000 in
set_option maxHeartbeats 4000000 in
theorem heldMemberS_any (ao : Option Addr) (n ca k : Nat) (w : World) (hn : n ≤ 6) (hk : k ≤ 16777216) (hk0 : 0 < k) (hA : RdG mrC 16 w ao (patG mMr 13 k n)) :
    Calls Try.prog 39 #[.slice ao n ca, .int .i64 k] w fun e w' => e = .returned (.int .i64 ((k : Int) + 13 * (n : Int))) ∧ Below w.heap.size w w' := by
  have HA := hide1 hA
  clear hA
  have CZ := hide1 (fun (z : Int) (w : World) => nil_heldIntS z w)
  have CI := hide1 (fun (z : Int) (w : World) => nil_heldItemS z w)
  go_enter Try.func39, Try.ntmps39
  go_wp2
  go_loopw [1, 5] (fun kv iv wr => ∃ i kk : Nat, i ≤ n ∧ iv = .int .i64 (i : Int) ∧ kv = .int .i64 (kk : Int) ∧ Hid (kk = k + 13 * i) ∧ 0 < kk ∧ kk ≤ 33554432 ∧ Hid (Below w.heap.size w wr)) (fun _ iv _ => n - (intOf iv).toNat)
  case atStart => exact ⟨0, k, by omega, rfl, rfl, rfl, hk0, by omega, hide1 (Below.refl _ _)⟩
  case round =>
    obtain ⟨i, kk, hi, rfl, rfl, hkk, hkp, hkm, BB⟩ := hrel
    by_cases hlt : i < n
    · have k1 : (i : Int) < (n : Int) := by omega
      obtain ⟨g, q, rfl, hg, h1⟩ := HA.out i (by rw [patG_length]; exact hlt)
      rw [patG_at, ← hkk.out] at h1
      have hgr : g < wr.heap.size := Nat.lt_of_lt_of_le hg BB.out.size
      have e0 : (((kk : Int) : Int) != (kk : Int)) = false := by simp
      have e1 : (((kk : Int) + 1 : Int) != (kk : Int) + 1) = false := by simp
      obtain ⟨b2, hb2⟩ : ∃ b : Bool, (((kk : Int) + 1 + 1) % 3 == 0) = b := ⟨_, rfl⟩
      have e2 : (b2 != b2) = false := by cases b2 <;> rfl
      obtain ⟨b3, hb3⟩ : ∃ b : Bool, (((kk : Int) + 1 + 1 + 1) % 3 == 0) = b := ⟨_, rfl⟩
      have e3 : (b3 != b3) = false := by cases b3 <;> rfl
      obtain ⟨b4, hb4⟩ : ∃ b : Bool, (((kk : Int) + 1 + 1 + 1 + 1) % 3 == 0) = b := ⟨_, rfl⟩
      have e4 : (b4 != b4) = false := by cases b4 <;> rfl
      obtain ⟨b5, hb5⟩ : ∃ b : Bool, (((kk : Int) + 1 + 1 + 1 + 1 + 1) % 3 == 0) = b := ⟨_, rfl⟩
      have e5 : (b5 != b5) = false := by cases b5 <;> rfl
      have e8 : (((kk : Int) + 1 + 1 + 1 + 1 + 1 + 1 : Int) != (kk : Int) + 1 + 1 + 1 + 1 + 1 + 1) = false := by simp
      have e9 : (((kk : Int) + 1 + 1 + 1 + 1 + 1 + 1 + 1 : Int) != (kk : Int) + 1 + 1 + 1 + 1 + 1 + 1 + 1) = false := by simp
      have e10 : (((kk : Int) + 1 + 1 + 1 + 1 + 1 + 1 + 1 + 1 : Int) != (kk : Int) + 1 + 1 + 1 + 1 + 1 + 1 + 1 + 1) = false := by simp
      have e11 : (((kk : Int) + 1 + 1 + 1 + 1 + 1 + 1 + 1 + 1 + 1 : Int) != (kk : Int) + 1 + 1 + 1 + 1 + 1 + 1 + 1 + 1 + 1) = false := by simp
      obtain ⟨z12, hz12⟩ : ∃ z, z = mkT (kk + 10) := ⟨_, rfl⟩
      have C12 := hide1 (fun (z : Int) (w : World) (hz : z = ((kk + 10 : Nat) : Int)) => show Calls Try.prog 52 #[.int .i64 z] w (fun e w' => e = .returned (.string z12) ∧ Below w.heap.size w w') by rw [hz12]; exact mark_atM z (kk + 10) w hz (by omega) (by omega))
      have e12 : (z12.toList == z12.toList) = true := by simp
      obtain ⟨z13, hz13⟩ : ∃ z, z = mkT (kk + 11) := ⟨_, rfl⟩
      have C13 := hide1 (fun (z : Int) (w : World) (hz : z = ((kk + 11 : Nat) : Int)) => show Calls Try.prog 52 #[.int .i64 z] w (fun e w' => e = .returned (.string z13) ∧ Below w.heap.size w w') by rw [hz13]; exact mark_atM z (kk + 11) w hz (by omega) (by omega))
      have e13 : (z13.toList == z13.toList) = true := by simp
      have e14 : (((kk : Int) + 1 + 1 + 1 + 1 + 1 + 1 + 1 + 1 + 1 + 1 + 1 + 1 : Int) != (kk : Int) + 1 + 1 + 1 + 1 + 1 + 1 + 1 + 1 + 1 + 1 + 1 + 1) = false := by simp
      have M0 := hide1 (show w.cell? ⟨g, q + i * 16, none⟩ = some (.int .i64 ((kk : Int))) from h1 0 (by omega))
      have M1 := hide1 (show w.cell? ⟨g, q + i * 16 + 1, none⟩ = some (.int .i64 ((kk : Int) + 1)) from h1 1 (by omega))
      have M2 := hide1 (show w.cell? ⟨g, q + i * 16 + 2, none⟩ = some (.bool b2) by rw [← hb2]; exact h1 2 (by omega))
      have M3 := hide1 (show w.cell? ⟨g, q + i * 16 + 3, none⟩ = some (.bool b3) by rw [← hb3]; exact h1 3 (by omega))
      have M4 := hide1 (show w.cell? ⟨g, q + i * 16 + 4, none⟩ = some (.bool b4) by rw [← hb4]; exact h1 4 (by omega))
      have M5 := hide1 (show w.cell? ⟨g, q + i * 16 + 5, none⟩ = some (.bool b5) by rw [← hb5]; exact h1 5 (by omega))
      have M6 := hide1 (show w.cell? ⟨g, q + i * 16 + 6, none⟩ = some (.slice none 0 0) from h1 6 (by omega))
      have M7 := hide1 (show w.cell? ⟨g, q + i * 16 + 7, none⟩ = some (.slice none 0 0) from h1 7 (by omega))
      have M8 := hide1 (show w.cell? ⟨g, q + i * 16 + 8, none⟩ = some (.int .i64 ((kk : Int) + 1 + 1 + 1 + 1 + 1 + 1)) from h1 8 (by omega))
      have M9 := hide1 (show w.cell? ⟨g, q + i * 16 + 9, none⟩ = some (.int .i64 ((kk : Int) + 1 + 1 + 1 + 1 + 1 + 1 + 1)) from h1 9 (by omega))
      have M10 := hide1 (show w.cell? ⟨g, q + i * 16 + 10, none⟩ = some (.int .i64 ((kk : Int) + 1 + 1 + 1 + 1 + 1 + 1 + 1 + 1)) from h1 10 (by omega))
      have M11 := hide1 (show w.cell? ⟨g, q + i * 16 + 11, none⟩ = some (.int .i64 ((kk : Int) + 1 + 1 + 1 + 1 + 1 + 1 + 1 + 1 + 1)) from h1 11 (by omega))
      have M12 := hide1 (show w.cell? ⟨g, q + i * 16 + 12, none⟩ = some (.string z12) by rw [hz12]; exact h1 12 (by omega))
      have M13 := hide1 (show w.cell? ⟨g, q + i * 16 + 13, none⟩ = some (.string z13) by rw [hz13]; exact h1 13 (by omega))
      have M14 := hide1 (show w.cell? ⟨g, q + i * 16 + 14, none⟩ = some (.int .i64 ((kk : Int) + 1 + 1 + 1 + 1 + 1 + 1 + 1 + 1 + 1 + 1 + 1 + 1)) from h1 14 (by omega))
      have M15 := hide1 (show w.cell? ⟨g, q + i * 16 + 15, none⟩ = some (.slice none 0 0) from h1 15 (by omega))
      clear hz12
      clear hz13
      clear h1
      have kn : ¬ (((kk : Int) + 1 + 1 + 1 + 1 + 1 + 1 : Int) < 0) := by omega
      have kn2 : ¬ (((kk : Int) + 1 + 1 + 1 + 1 + 1 + 1 + 1 + 1 + 1 + 1 + 1 + 1 + 1 : Int) < 0) := by omega
      have x0 : wr.cell? ⟨g, q + i * 16, none⟩ = some (.int .i64 ((kk : Int))) := (BB.out.cell (p := ⟨g, q + i * 16, none⟩) hg).trans M0.out
      have x1 : wr.cell? ⟨g, q + i * 16 + 1, none⟩ = some (.int .i64 ((kk : Int) + 1)) := (BB.out.cell (p := ⟨g, q + i * 16 + 1, none⟩) hg).trans M1.out
      have x2 : wr.cell? ⟨g, q + i * 16 + 2, none⟩ = some (.bool b2) := (BB.out.cell (p := ⟨g, q + i * 16 + 2, none⟩) hg).trans M2.out
      have x3 : wr.cell? ⟨g, q + i * 16 + 3, none⟩ = some (.bool b3) := (BB.out.cell (p := ⟨g, q + i * 16 + 3, none⟩) hg).trans M3.out
      have x4 : wr.cell? ⟨g, q + i * 16 + 4, none⟩ = some (.bool b4) := (BB.out.cell (p := ⟨g, q + i * 16 + 4, none⟩) hg).trans M4.out
      have x5 : wr.cell? ⟨g, q + i * 16 + 5, none⟩ = some (.bool b5) := (BB.out.cell (p := ⟨g, q + i * 16 + 5, none⟩) hg).trans M5.out
      have x6 : wr.cell? ⟨g, q + i * 16 + 6, none⟩ = some (.slice none 0 0) := (BB.out.cell (p := ⟨g, q + i * 16 + 6, none⟩) hg).trans M6.out
      go_wp2_with fail
      refine (CZ.out _ _).mono ?_
      rintro e v6 ⟨rfl, rfl⟩
      clear x0 x1 x2 x3 x4 x5 x6
      have x7 : v6.cell? ⟨g, q + i * 16 + 7, none⟩ = some (.slice none 0 0) := (BB.out.cell (p := ⟨g, q + i * 16 + 7, none⟩) hg).trans M7.out
      go_wp2_with fail
      refine (CI.out _ _).mono ?_
      rintro e v7 ⟨rfl, rfl⟩
      clear x7
      have x8 : v7.cell? ⟨g, q + i * 16 + 8, none⟩ = some (.int .i64 ((kk : Int) + 1 + 1 + 1 + 1 + 1 + 1)) := (BB.out.cell (p := ⟨g, q + i * 16 + 8, none⟩) hg).trans M8.out
      have x9 : v7.cell? ⟨g, q + i * 16 + 9, none⟩ = some (.int .i64 ((kk : Int) + 1 + 1 + 1 + 1 + 1 + 1 + 1)) := (BB.out.cell (p := ⟨g, q + i * 16 + 9, none⟩) hg).trans M9.out
      have x10 : v7.cell? ⟨g, q + i * 16 + 10, none⟩ = some (.int .i64 ((kk : Int) + 1 + 1 + 1 + 1 + 1 + 1 + 1 + 1)) := (BB.out.cell (p := ⟨g, q + i * 16 + 10, none⟩) hg).trans M10.out
      have x11 : v7.cell? ⟨g, q + i * 16 + 11, none⟩ = some (.int .i64 ((kk : Int) + 1 + 1 + 1 + 1 + 1 + 1 + 1 + 1 + 1)) := (BB.out.cell (p := ⟨g, q + i * 16 + 11, none⟩) hg).trans M11.out
      have x12 : v7.cell? ⟨g, q + i * 16 + 12, none⟩ = some (.string z12) := (BB.out.cell (p := ⟨g, q + i * 16 + 12, none⟩) hg).trans M12.out
      have lg12 : g < v7.heap.size := Nat.lt_of_lt_of_le hg BB.out.size
      go_wp2
      go_region_held3 (fun w' => w'.cell? ⟨g, q + i * 16 + 12, none⟩ = some (.string z12)) (first | go_keep | exact (hb12.cell lg12).trans x12) ((go_at_call 52; refine (C12.out _ _ (by omega)).mono ?_; rintro e v12 ⟨rfl, hb12⟩))
      have BB12 := hide1 (BB.out.trans ((Below.refl _ _).drew.trans (hb12.mono BB.out.size)))
      clear hb12 x8 x9 x10 x11 x12
      have x13 : v12.cell? ⟨g, q + i * 16 + 13, none⟩ = some (.string z13) := (BB12.out.cell (p := ⟨g, q + i * 16 + 13, none⟩) hg).trans M13.out
      have lg13 : g < v12.heap.size := Nat.lt_of_lt_of_le hg BB12.out.size
      go_wp2
      go_region_held3 (fun w' => w'.cell? ⟨g, q + i * 16 + 13, none⟩ = some (.string z13)) (first | go_keep | exact (hb13.cell lg13).trans x13) ((go_at_call 52; refine (C13.out _ _ (by omega)).mono ?_; rintro e v13 ⟨rfl, hb13⟩))
      have BB13 := hide1 (BB12.out.trans ((Below.refl _ _).drew.trans (hb13.mono BB12.out.size)))
      clear hb13 x13
      have x14 : v13.cell? ⟨g, q + i * 16 + 14, none⟩ = some (.int .i64 ((kk : Int) + 1 + 1 + 1 + 1 + 1 + 1 + 1 + 1 + 1 + 1 + 1 + 1)) := (BB13.out.cell (p := ⟨g, q + i * 16 + 14, none⟩) hg).trans M14.out
      have x15 : v13.cell? ⟨g, q + i * 16 + 15, none⟩ = some (.slice none 0 0) := (BB13.out.cell (p := ⟨g, q + i * 16 + 15, none⟩) hg).trans M15.out
      go_wp2_with fail
      refine (CZ.out _ _).mono ?_
      rintro e v15 ⟨rfl, rfl⟩
      go_wp2
      go_roundw
      case rel => exact ⟨i + 1, kk + 13, by omega, by go_num, by go_num, by show kk + 13 = k + 13 * (i + 1); have := hkk.out; omega, by omega, by have := hkk.out; omega, BB13⟩
      case measure => simp [intOf]; omega
    · obtain rfl : i = n := by omega
      go_wp2
      go_ret
      exact ⟨by rw [hkk.out]; simp, BB.out⟩
end Go.Proofs.Ytmfpgnoeemjhiaa
