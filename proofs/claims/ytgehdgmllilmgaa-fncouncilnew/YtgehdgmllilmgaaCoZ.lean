/- Decisions by the model: a new council; events that are right. -/
import Derived.Test.YtgehdgmllilmgaaCoT
import Derived.Test.YtgehdgmllilmgaaBaS
namespace Go.Proofs.Ytgehdgmllilmgaa
open Go.RowKit
set_option linter.unusedVariables false
variable {lo : Nat → Prop}

theorem made3 : ∀ n : Nat, (madeCells (Value.agg #[.int .i64 0, .int .i64 0, .string ⟨#[]⟩]).cells (n * 3)).toList = rowG voC (List.replicate n zeroVo) := by
  intro n
  refine List.ext_getElem? fun j => ?_
  have hz : (Value.agg #[.int .i64 0, .int .i64 0, .string ⟨#[]⟩]).cells = #[.int .i64 0, .int .i64 0, .string ⟨#[]⟩] := rfl
  by_cases hj : j < n * 3
  · have h5 : j % 3 < 3 := Nat.mod_lt _ (by decide)
    have hr := rowG_at voC 3 encV.len (List.replicate n zeroVo) (j / 3) (j % 3) (by simp; omega) h5
    rw [show j / 3 * 3 + j % 3 = j by omega, List.getElem_replicate] at hr
    rw [hr, hz]
    simp only [madeCells, Array.getElem?_toList]
    rw [Array.getElem?_map, Array.getElem?_range, if_pos hj]
    simp only [Option.map_some]
    show some ((#[Value.int .i64 0, .int .i64 0, .string ⟨#[]⟩] : Array Value)[j % 3]!) = _
    generalize j % 3 = q at h5
    match q, h5 with
    | 0, _ => rfl
    | 1, _ => rfl
    | 2, _ => rfl
    | q + 3, h => omega
  · rw [List.getElem?_eq_none (by simp [madeCells]; omega), List.getElem?_eq_none (by rw [rowG_length voC 3 encV.len]; simp; omega)]
def nilA : CA := ⟨none, 0, none, 0, none, 0, none, 0, []⟩
theorem nil_rd (w : World) (B : Nat) : RdC12 lo w B nilA zeroCn :=
  ⟨RdG.nil _ _, fun _ _ e => (by cases e), rfl, RdG.nil _ _, fun _ _ e => (by cases e), fun t ht => (by simp [nilA] at ht), RdG.nil _ _, fun _ _ e => (by cases e), Nat.le_refl _, RdG.nil _ _, fun _ _ e => (by cases e)⟩
def okNew (v t : Int) : Prop := (1 ≤ v ∧ v ≤ 5) ∧ (1 ≤ t ∧ t ≤ 4)
instance (v t : Int) : Decidable (okNew v t) := by unfold okNew; infer_instance
def newC (v t : Int) : Cn := if okNew v t then newCn v.toNat t.toNat else zeroCn
def newTm (i : Nat) : Tm := ⟨newTy i, none, 0, none, 0⟩
theorem newTm_next (i : Nat) : (List.range (i + 1)).map newTm = (List.range i).map newTm ++ [newTm i] := by
  rw [List.range_succ, List.map_append]
  rfl
theorem newTm_y (t : Nat) : ((List.range t).map newTm).map (·.y) = (List.range t).map newTy := by rw [List.map_map]; rfl

set_option maxRecDepth 100000 in
set_option maxHeartbeats 1000000 in
theorem specOkE_any (t : Int) (e : Hp) (w : World) (hz : e.v.size ≤ 1048576) :
    Calls Try.prog 40 #[.int .i64 t, .agg #[.int .i64 e.k, .int .i64 e.i, .int .i64 e.a, .string e.v]] w fun r w' => r = .returned (.bool (decide (okHp t e))) ∧ Below w.heap.size w w' := by
  have F0 := hide1 ((Below.refl w.heap.size w).alloc (Nat.le_refl _) (.cells #[.int .i64 e.k, .int .i64 e.i, .int .i64 e.a, .string e.v] 40))
  have C1 := hide1 (fun w' => in_any e.k 1 4 w')
  have C2 := hide1 (fun w' => in_any e.i 1 t w')
  have C3 := hide1 (fun w' => in_any (e.v.size : Int) 1 40 w')
  by_cases c1 : 1 ≤ e.k ∧ e.k ≤ 4
  · rw [in_yes c1] at C1
    by_cases c2 : 1 ≤ e.i ∧ e.i ≤ t
    · rw [in_yes c2] at C2
      by_cases c3 : e.a < 0
      · have HR := hide1 (decide_eq_false (show ¬ okHp t e from fun h => by have := h.2.2.1; omega))
        go_enter Try.func40, Try.ntmps40
        go_wp2_with (first | (have := M1.out; go_at_call 46; refine (C2.out _).mono ?_; rintro e w2 ⟨rfl, rfl⟩) | (go_at_call 46; refine (C1.out _).mono ?_; rintro e w1 ⟨rfl, rfl⟩; have M1 := hide1 trivial))
        go_ret
        exact ⟨by rw [HR.out]; rfl, F0.out⟩
      · by_cases c4 : e.k = 1
        · have q4 : (e.k == 1) = true := by simp [c4]
          by_cases c5 : (1 : Int) ≤ (e.v.size : Int) ∧ (e.v.size : Int) ≤ 40
          · rw [in_yes c5] at C3
            have HR := hide1 (decide_eq_true (show okHp t e from ⟨c1, c2, by omega, fun _ => by omega, fun h => absurd c4 h⟩))
            clear c4 c5
            go_enter Try.func40, Try.ntmps40
            go_wp2_with (first | (have := M2.out; go_at_call 46; refine (C3.out _).mono ?_; rintro e w3 ⟨rfl, rfl⟩) | (have := M1.out; go_at_call 46; refine (C2.out _).mono ?_; rintro e w2 ⟨rfl, rfl⟩; have M2 := hide1 trivial) | (go_at_call 46; refine (C1.out _).mono ?_; rintro e w1 ⟨rfl, rfl⟩; have M1 := hide1 trivial))
            go_ret
            exact ⟨by rw [HR.out]; rfl, F0.out⟩
          · rw [in_no c5] at C3
            have HR := hide1 (decide_eq_false (show ¬ okHp t e from fun h => by have := h.2.2.2.1 c4; omega))
            clear c4 c5
            go_enter Try.func40, Try.ntmps40
            go_wp2_with (first | (have := M2.out; go_at_call 46; refine (C3.out _).mono ?_; rintro e w3 ⟨rfl, rfl⟩) | (have := M1.out; go_at_call 46; refine (C2.out _).mono ?_; rintro e w2 ⟨rfl, rfl⟩; have M2 := hide1 trivial) | (go_at_call 46; refine (C1.out _).mono ?_; rintro e w1 ⟨rfl, rfl⟩; have M1 := hide1 trivial))
            go_ret
            exact ⟨by rw [HR.out]; rfl, F0.out⟩
        · have q4 : (e.k == 1) = false := by simp [c4]
          by_cases c5 : e.v.toList = []
          · have q5 : e.v.toList.isEmpty = true := by rw [c5]; rfl
            have HR := hide1 (decide_eq_true (show okHp t e from ⟨c1, c2, by omega, fun h => absurd h c4, fun _ => c5⟩))
            clear c4 c5
            go_enter Try.func40, Try.ntmps40
            go_wp2_with (first | (have := M1.out; go_at_call 46; refine (C2.out _).mono ?_; rintro e w2 ⟨rfl, rfl⟩) | (go_at_call 46; refine (C1.out _).mono ?_; rintro e w1 ⟨rfl, rfl⟩; have M1 := hide1 trivial))
            go_ret
            exact ⟨by rw [HR.out]; rfl, F0.out⟩
          · have q5 : e.v.toList.isEmpty = false := by cases h : e.v.toList with | nil => exact absurd h c5 | cons a b => rfl
            have HR := hide1 (decide_eq_false (show ¬ okHp t e from fun h => c5 (h.2.2.2.2 c4)))
            clear c4 c5
            go_enter Try.func40, Try.ntmps40
            go_wp2_with (first | (have := M1.out; go_at_call 46; refine (C2.out _).mono ?_; rintro e w2 ⟨rfl, rfl⟩) | (go_at_call 46; refine (C1.out _).mono ?_; rintro e w1 ⟨rfl, rfl⟩; have M1 := hide1 trivial))
            go_ret
            exact ⟨by rw [HR.out]; rfl, F0.out⟩
    · rw [in_no c2] at C2
      have HR := hide1 (decide_eq_false (show ¬ okHp t e from fun h => c2 h.2.1))
      go_enter Try.func40, Try.ntmps40
      go_wp2_with (first | (have := M1.out; go_at_call 46; refine (C2.out _).mono ?_; rintro e w2 ⟨rfl, rfl⟩) | (go_at_call 46; refine (C1.out _).mono ?_; rintro e w1 ⟨rfl, rfl⟩; have M1 := hide1 trivial))
      go_ret
      exact ⟨by rw [HR.out]; rfl, F0.out⟩
  · rw [in_no c1] at C1
    have HR := hide1 (decide_eq_false (show ¬ okHp t e from fun h => c1 h.1))
    go_enter Try.func40, Try.ntmps40
    go_wp2_with (first | (have := M1.out; go_at_call 46; refine (C2.out _).mono ?_; rintro e w2 ⟨rfl, rfl⟩) | (go_at_call 46; refine (C1.out _).mono ?_; rintro e w1 ⟨rfl, rfl⟩; have M1 := hide1 trivial))
    go_ret
    exact ⟨by rw [HR.out]; rfl, F0.out⟩

/-- A council and whether it is, told together. -/
theorem resC2 {P : Program} {fn : Func} {p u : Tmp} {ty : TypeId} (h : fn.results = #[.cell p ty, .tmp u]) (tmps : Array Value) (w : World) (g : Nat) (t : TypeId) (cs : Array Value) (fr : Nat × Nat) (d : TypeDesc)
    (hp : tmps.getD p undef = .pointer (some ⟨g, 0, none⟩)) (hg : w.heap[g]? = some (.cells cs t fr))
    (hu : P.underlying ty = some d) (hd : (match d with | .struct _ | .array _ _ => true | _ => false) = true) (hi : (P.info? ty).map (·.size) = some cs.size) :
    (results fn tmps).run P w = .ok (.tuple #[.agg cs, tmps.getD u undef]) w := by
  have hp' : tmps[p]?.getD undef = .pointer (some ⟨g, 0, none⟩) := by simpa using hp
  simp [results, h, hp', asAddr, run_loadVar_row w g t ty cs fr d hg hu hd hi]

set_option maxRecDepth 100000 in
set_option maxHeartbeats 2000000 in
theorem specNewC_any (v t : Int) (w : World) (hlo : LoLe lo w.heap.size) :
    Calls Try.prog 23 #[.int .i64 v, .int .i64 t] w fun r w' => (∃ A, r = .returned (.tuple #[.agg (cnC A (newC v t)).toArray, .bool (decide (okNew v t))]) ∧ ∀ B, B < w.heap.size ∨ w'.heap.size ≤ B → RdC12 lo w' B A (newC v t)) ∧ Below w.heap.size w w' := by
  have C1 := hide1 (fun w' => in_any v 1 5 w')
  have C2 := hide1 (fun w' => in_any t 1 4 w')
  by_cases c1 : 1 ≤ v ∧ v ≤ 5
  · rw [in_yes c1] at C1
    by_cases c2 : 1 ≤ t ∧ t ≤ 4
    · rw [in_yes c2] at C2
      have HN := hide1 (show newC v t = newCn v.toNat t.toNat by unfold newC; rw [if_pos ⟨c1, c2⟩])
      have HO := hide1 (decide_eq_true (show okNew v t from ⟨c1, c2⟩))
      obtain ⟨vn, hvn⟩ : ∃ n : Nat, v = (n : Int) := ⟨v.toNat, by omega⟩
      obtain ⟨tn, htn⟩ : ∃ n : Nat, t = (n : Int) := ⟨t.toNat, by omega⟩
      subst hvn htn
      rw [Int.toNat_natCast, Int.toNat_natCast] at HN
      obtain ⟨i0, hi, hz0, hz1, hz2⟩ := info_parts Try.infoV
      have F0 := hide1 (And.intro (Blk.new w 32 #[.slice none 0 0, .slice none 0 0, .slice none 0 0, .slice none 0 0]) ((Below.refl w.heap.size w).alloc (Nat.le_refl _) (.cells #[.slice none 0 0, .slice none 0 0, .slice none 0 0, .slice none 0 0] 32)))
      go_enter Try.func23, Try.ntmps23
      go_upto_region 3 with (first | (have := M1.out; go_at_call 46; refine (C2.out _).mono ?_; rintro e w2 ⟨rfl, rfl⟩) | (go_at_call 46; refine (C1.out _).mono ?_; rintro e w1 ⟨rfl, rfl⟩; have M1 := hide1 trivial))
      generalize (w.alloc (.cells #[.slice none 0 0, .slice none 0 0, .slice none 0 0, .slice none 0 0] 32)) = u at F0 ⊢
      go_upto_region 4 with (at_make; (refine wpList_make_full _ rfl _ _ 27 rfl u.heap.size 43 i0 (.agg #[.int .i64 0, .int .i64 0, .string ⟨#[]⟩]) 3 Try.underlying27 hi hz0 hz1 _ _ _ _ vn rfl rfl rfl rfl (by rw [hz2]; omega) (by unfold maxLen; omega) (Nat.le_refl _) ?_; intro w0 hown0 hg0))
      rw [made3] at hown0
      have HO0 := hide1 hown0
      have E0 := hide1 (show Below w.heap.size w w0 from F0.out.2.trans (gbelow hg0 (by intro k hk; cases hk) F0.out.2.size))
      have B0 := hide1 (show Below u.heap.size u w0 from gbelow hg0 (by intro k hk; cases hk) (Nat.le_refl _))
      have FC := hide1 (And.intro (Blk.new w0 32 #[.slice (some ⟨u.heap.size, 0, none⟩) vn vn, .slice none 0 0, .slice none 0 0, .slice none 0 0]) ((Below.refl w0.heap.size w0).alloc (Nat.le_refl _) (.cells #[.slice (some ⟨u.heap.size, 0, none⟩) vn vn, .slice none 0 0, .slice none 0 0, .slice none 0 0] 32)))
      generalize (w0.alloc (.cells #[.slice (some ⟨u.heap.size, 0, none⟩) vn vn, .slice none 0 0, .slice none 0 0, .slice none 0 0] 32)) = u1 at FC ⊢
      obtain ⟨C, hC⟩ : ∃ C, C = w0.heap.size := ⟨_, rfl⟩
      have lu : w.heap.size < u.heap.size := F0.out.1.lt
      have lu0 : u.heap.size < w0.heap.size := by
        rcases HO0.out.2 with ⟨hv, h0⟩ | ⟨g, cap, cur, hv, _, hh, _⟩
        · cases hv
        · injection hv with e1
          injection e1 with e1
          injection e1 with e1
          subst e1
          exact (Array.getElem?_eq_some_iff.1 hh).1
      have lC : C < u1.heap.size := by rw [hC]; exact FC.out.1.lt
      have FC1 := hide1 FC.out.1
      rw [← hC] at FC1 ⊢
      have HC := hide1 hC
      have hCw : w.heap.size < C := by omega
      have hCu : u.heap.size < C := by omega
      clear hC hown0 hg0 C1 C2 hi hz0 hz1 hz2 i0
      go_wp2
      go_loopw [7] (fun iv wr => ∃ i : Nat, i ≤ tn ∧ iv = .int .i64 ((i : Int) + 1) ∧ ∃ tb tc, Hid (Blk wr C 32 [.slice (some ⟨u.heap.size, 0, none⟩) vn vn, .slice tb i tc, .slice none 0 0, .slice none 0 0]) ∧ Hid (wr.ownsRow (C + 1) 47 7 (.slice tb i tc) i (rowG tmC ((List.range i).map newTm))) ∧ Hid (Below w0.heap.size w0 wr)) (fun iv _ => tn + 1 - (intOf iv).toNat)
      case atStart => exact ⟨0, Nat.zero_le _, rfl, none, 0, FC1, hide1 ⟨rfl, .inl ⟨rfl, rfl⟩⟩, hide1 FC.out.2⟩
      case round =>
        obtain ⟨i, hi, rfl, tb, tc, FB, OB, BB⟩ := hrel
        have lCr : C < wr.heap.size := FB.out.lt
        by_cases hlt : i < tn
        · have k1 : (i : Int) + 1 ≤ (tn : Int) := by omega
          have y1 : wr.cell? ⟨C, 1, none⟩ = some (.slice tb i tc) := FB.out.cell 1
          have FL := hide1 (And.intro (Blk.new wr 47 #[.int .i64 ((i : Int) + 1), .int .i64 0, .string ⟨#[]⟩, .slice none 0 0, .bool false, .slice none 0 0, .bool false]) ((Below.refl wr.heap.size wr).alloc (Nat.le_refl _) (.cells #[.int .i64 ((i : Int) + 1), .int .i64 0, .string ⟨#[]⟩, .slice none 0 0, .bool false, .slice none 0 0, .bool false] 47)))
          go_wp2_with (at_builtin; (refine wpList_push1G encT rowT rfl (.tmp 26) (.tmp 29) rfl (C + 1) tb i tc ((List.range i).map newTm) rfl (OB.out.alloc _) wr.heap.size (newTm i) rfl FL.out.1 (by omega) (by rw [World.size_alloc]; omega) ?_; intro b5 c5 w5 ho5 hb5; have E5 : Hid (Below (C + 1) wr w5) := (FL.out.2.mono lCr).trans hb5; have O5 := hide1 ho5; have z1 : w5.cell? ⟨C, 1, none⟩ = some (.slice tb i tc) := (E5.out.cell (p := ⟨C, 1, none⟩) (Nat.lt_succ_self _)).trans y1; have zf : w5.frozen? ⟨C, 1, none⟩ = false := (E5.out.frozen (p := ⟨C, 1, none⟩) (Nat.lt_succ_self _)).trans (FB.out.froz 1); clear ho5 hb5))
          go_roundw
          case rel =>
            refine ⟨i + 1, by omega, by go_num, b5, c5, ?_, ?_, ?_⟩
            · exact hide1 (Blk.set (FB.out.below E5.out (Nat.lt_succ_self _)) 1 (.slice b5 (i + 1) c5))
            · have := gown (gset (World.grownBy.refl w5 (some C)) 1 (.slice b5 (i + 1) c5)) O5.out (by
                intro k hk e
                injection e with e
                have := (O5.out.lt k hk).1
                omega)
              rw [← newTm_next] at this
              exact hide1 this
            · exact hide1 (((BB.out.trans (E5.out.mono (by have := HC.out; omega))).setCell (p := ⟨C, 1, none⟩) (by have := HC.out; dsimp only; omega) _))
          case measure => simp [intOf]; omega
        · obtain rfl : i = tn := by omega
          have k1 : ¬ ((i : Int) + 1 ≤ (i : Int)) := by omega
          have RR := hide1 ((F0.out.1.below B0.out F0.out.1.lt).below BB.out (by omega))
          have y0 : wr.cell? ⟨C, 0, none⟩ = some (.slice (some ⟨u.heap.size, 0, none⟩) vn vn) := FB.out.cell 0
          have y1 : wr.cell? ⟨C, 1, none⟩ = some (.slice tb i tc) := FB.out.cell 1
          have y2 : wr.cell? ⟨C, 2, none⟩ = some (.slice none 0 0) := FB.out.cell 2
          have y3 : wr.cell? ⟨C, 3, none⟩ = some (.slice none 0 0) := FB.out.cell 3
          have r0 : wr.cell? ⟨w.heap.size, 0, none⟩ = some (.slice none 0 0) := RR.out.cell 0
          have r1 : wr.cell? ⟨w.heap.size, 1, none⟩ = some (.slice none 0 0) := RR.out.cell 1
          have r2 : wr.cell? ⟨w.heap.size, 2, none⟩ = some (.slice none 0 0) := RR.out.cell 2
          have r3 : wr.cell? ⟨w.heap.size, 3, none⟩ = some (.slice none 0 0) := RR.out.cell 3
          have rf : ∀ j, wr.frozen? ⟨w.heap.size, j, none⟩ = false := fun j => RR.out.froz j
          have hRC : w.heap.size ≠ C := by omega
          go_wp2
          have hg9 : ∀ (a b c d : Value), wr.grownBy ((((wr.setCell ⟨w.heap.size, 0, none⟩ a).setCell ⟨w.heap.size, 1, none⟩ b).setCell ⟨w.heap.size, 2, none⟩ c).setCell ⟨w.heap.size, 3, none⟩ d) (some w.heap.size) := fun a b c d => gset (gset (gset (gset (World.grownBy.refl _ _) 0 a) 1 b) 2 c) 3 d
          have hb9 : ∀ (a b c d : Value), Below w.heap.size w ((((wr.setCell ⟨w.heap.size, 0, none⟩ a).setCell ⟨w.heap.size, 1, none⟩ b).setCell ⟨w.heap.size, 2, none⟩ c).setCell ⟨w.heap.size, 3, none⟩ d) := fun a b c d => ((((E0.out.trans (BB.out.mono (by omega))).setCell (p := ⟨w.heap.size, 0, none⟩) (Nat.le_refl _) a).setCell (p := ⟨w.heap.size, 1, none⟩) (Nat.le_refl _) b).setCell (p := ⟨w.heap.size, 2, none⟩) (Nat.le_refl _) c).setCell (p := ⟨w.heap.size, 3, none⟩) (Nat.le_refl _) d
          refine bodyPost_ret (resC2 Try.results23 _ _ w.heap.size 32 #[.slice (some ⟨u.heap.size, 0, none⟩) vn vn, .slice tb i tc, .slice none 0 0, .slice none 0 0] (0, 0) _ rfl (Blk.set (Blk.set (Blk.set (Blk.set RR.out 0 _) 1 _) 2 _) 3 _) Try.underlying32 rfl (by kernel_rfl)) rfl ?_
          have ov := own_kept (own_kept HO0.out (Below.refl _ _)) (BB.out)
          refine ⟨⟨⟨some ⟨u.heap.size, 0, none⟩, vn, tb, tc, none, 0, none, 0, (List.range i).map newTm⟩, ?_, fun B hB => ?_⟩, hb9 _ _ _ _⟩
          · rw [HO.out, HN.out]
            simp [cnC, newCn]
          · rw [HN.out]
            simp only [World.size_setCell] at hB
            refine ⟨(rdG_of_own encV.len ov (by simp)).grown (hg9 _ _ _ _) (own_ne (lo := lo) ov lu (hlo.trans (by omega))), own_neE ov (by omega) (hlo.trans (by omega)), newTm_y i, (rdG_of_own encT.len OB.out (by simp)).grown (hg9 _ _ _ _) (own_ne (lo := lo) OB.out (by omega) (hlo.trans (by omega))), own_neE OB.out (by omega) (hlo.trans (by omega)), fun t ht => ?_, RdG.nil _ _, fun _ _ e => (by cases e), Nat.le_refl _, RdG.nil _ _, fun _ _ e => (by cases e)⟩
            obtain ⟨j, _, rfl⟩ := List.mem_map.1 ht
            exact ⟨RdG.nil _ _, fun _ _ e => (by cases e), RdG.nil _ _, fun _ _ e => (by cases e)⟩
    · rw [in_no c2] at C2
      have HN := hide1 (show newC v t = zeroCn by unfold newC; rw [if_neg (fun h => c2 h.2)])
      have HO := hide1 (decide_eq_false (show ¬ okNew v t from fun h => c2 h.2))
      go_enter Try.func23, Try.ntmps23
      go_wp2_with (first | (have := M1.out; go_at_call 46; refine (C2.out _).mono ?_; rintro e w2 ⟨rfl, rfl⟩) | (go_at_call 46; refine (C1.out _).mono ?_; rintro e w1 ⟨rfl, rfl⟩; have M1 := hide1 trivial))
      go_returns
      exact ⟨⟨nilA, by rw [HN.out, HO.out]; rfl, fun B _ => by rw [HN.out]; exact nil_rd _ _⟩, by go_grown⟩
  · rw [in_no c1] at C1
    have HN := hide1 (show newC v t = zeroCn by unfold newC; rw [if_neg (fun h => c1 h.1)])
    have HO := hide1 (decide_eq_false (show ¬ okNew v t from fun h => c1 h.1))
    go_enter Try.func23, Try.ntmps23
    go_wp2_with (first | (have := M1.out; go_at_call 46; refine (C2.out _).mono ?_; rintro e w2 ⟨rfl, rfl⟩) | (go_at_call 46; refine (C1.out _).mono ?_; rintro e w1 ⟨rfl, rfl⟩; have M1 := hide1 trivial))
    go_returns
    exact ⟨⟨nilA, by rw [HN.out, HO.out]; rfl, fun B _ => by rw [HN.out]; exact nil_rd _ _⟩, by go_grown⟩
theorem newCn_len (v t : Nat) : (newCn v t).vs.length = v ∧ (newCn v t).ts.length = t ∧ (newCn v t).ns.length = 0 ∧ (newCn v t).ch.length = 0 := by simp [newCn]
theorem newCn_id {lo : Nat → Prop} {w : World} {B v t : Nat} {A : CA} (h : RdC12 lo w B A (newCn v t)) (ht : 0 < t) : ∃ b o, A.ta = some ⟨b, o, none⟩ ∧ b < w.heap.size ∧ w.cell? ⟨b, o + (t - 1) * 7, none⟩ = some (.int .i64 (t : Int)) := by
  have hl : A.L.length = t := by have := congrArg List.length h.e; rw [List.length_map] at this; rw [this]; exact (newCn_len v t).2.1
  obtain ⟨b, o, h1, h2, h3⟩ := h.t (t - 1) (by omega)
  have hy : (A.L[t - 1]'(by omega)).y = newTy (t - 1) := by
    have e2 : (A.L.map (·.y))[t - 1]'(by rw [List.length_map]; omega) = newTy (t - 1) := by
      have := h.e
      simp only [this]
      simp [newCn]
    rw [← e2, List.getElem_map]
  have := h3 0 (by omega)
  refine ⟨b, o, h1, h2, this.trans ?_⟩
  show some (Value.int .i64 (A.L[t - 1]'(by omega)).y.i) = _
  rw [hy]
  show some (Value.int .i64 (((t - 1 : Nat) : Int) + 1)) = _
  rw [show ((t - 1 : Nat) : Int) + 1 = (t : Int) by omega]
theorem newCn_cells (A : CA) (v t : Nat) : (cnC A (newCn v t)).toArray = #[.slice A.va v A.vc, .slice A.ta t A.tc, .slice A.na 0 A.nc, .slice A.ca 0 A.cc] := by
  obtain ⟨h1, h2, h3, h4⟩ := newCn_len v t
  unfold cnC
  rw [h1, h2, h3, h4]
theorem newCn_cellsL (A : CA) (v t : Nat) : cnC A (newCn v t) = [.slice A.va v A.vc, .slice A.ta t A.tc, .slice A.na 0 A.nc, .slice A.ca 0 A.cc] := by
  obtain ⟨h1, h2, h3, h4⟩ := newCn_len v t
  unfold cnC
  rw [h1, h2, h3, h4]
theorem zeroCn_cells (A : CA) : (cnC A zeroCn).toArray = #[.slice A.va 0 A.vc, .slice A.ta 0 A.tc, .slice A.na 0 A.nc, .slice A.ca 0 A.cc] := rfl

end Go.Proofs.Ytgehdgmllilmgaa
