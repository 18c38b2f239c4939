/- The program's MsgOk. -/
import Derived.Test.YtbkhhkknhbddeaaDoorItI
namespace Go.Proofs.YtbkhhkknhbddeaaDoor
open Go.RowKit
set_option linter.unusedVariables false

theorem okMs_iff (k f o e n : Int) (l : List Im) : okMs ⟨k, f, o, e, n, l⟩ ↔ (1 ≤ f ∧ f ≤ 6) ∧ (1 ≤ o ∧ o ≤ 6) ∧ (1 ≤ e ∧ e ≤ 9) ∧ (0 ≤ n ∧ n ≤ 1000000000) ∧ cntF k l.length ∧ okIms l := by
  unfold okMs cntF
  dsimp only
  constructor
  · rintro ⟨h1, h2, h3, h4, h5, h6, h7⟩; exact ⟨h2, h3, h4, h5, ⟨h1, h7⟩, h6⟩
  · rintro ⟨h2, h3, h4, h5, ⟨h1, h7⟩, h6⟩; exact ⟨h1, h2, h3, h4, h5, h6, h7⟩
set_option maxRecDepth 100000 in
set_option maxHeartbeats 8000000 in
theorem implMsgOk_any (k f o e n : Int) (l : List Im) (a : Option Addr) (ca : Nat) (w : World) (hl : l.length ≤ 1048576) (hz : ∀ x ∈ l, x.k.size ≤ 1048576 ∧ x.v.size ≤ 1048576) (hA : RdG imC 3 w a l) :
    Calls Tryd.prog 11 #[.agg #[.int .i64 k, .int .i64 f, .int .i64 o, .int .i64 e, .int .i64 n, .slice a l.length ca]] w fun r w' => r = .returned (.bool (decide (okMs ⟨k, f, o, e, n, l⟩))) ∧ Below w.heap.size w w' := by
  have F0 := hide1 (And.intro (Blk.new w 26 #[.int .i64 k, .int .i64 f, .int .i64 o, .int .i64 e, .int .i64 n, .slice a l.length ca]) ((Below.refl w.heap.size w).alloc (Nat.le_refl _) (.cells #[.int .i64 k, .int .i64 f, .int .i64 o, .int .i64 e, .int .i64 n, .slice a l.length ca] 26)))
  have CI := hide1 (fun v (hb : Below w.heap.size w v) => implItemsOk_any a l ca v hl hz (hA.later hb))
  have CC := hide1 (fun v => countFits_any k l.length v hl)
  have CF := hide1 (fun v => nodeFits_any f v)
  have CO := hide1 (fun v => nodeFits_any o v)
  have HI := hide1 (okMs_iff k f o e n l)
  clear hA hz
  go_enter Tryd.func11, Tryd.ntmps11
  go_upto_region 1 with fail
  generalize (w.alloc (.cells #[.int .i64 k, .int .i64 f, .int .i64 o, .int .i64 e, .int .i64 n, .slice a l.length ca] 26)) = u at F0 ⊢
  obtain ⟨K0, B0⟩ := F0.out
  have y0 : u.cell? ⟨w.heap.size, 0, none⟩ = some (.int .i64 k) := K0.cell 0
  have y1 : u.cell? ⟨w.heap.size, 1, none⟩ = some (.int .i64 f) := K0.cell 1
  have y2 : u.cell? ⟨w.heap.size, 2, none⟩ = some (.int .i64 o) := K0.cell 2
  have y3 : u.cell? ⟨w.heap.size, 3, none⟩ = some (.int .i64 e) := K0.cell 3
  have y4 : u.cell? ⟨w.heap.size, 4, none⟩ = some (.int .i64 n) := K0.cell 4
  have y5 : u.cell? ⟨w.heap.size, 5, none⟩ = some (.slice a l.length ca) := K0.cell 5
  have HB := hide1 B0
  clear K0 B0 F0
  by_cases cf : 1 ≤ f ∧ f ≤ 6
  · rw [decide_eq_true cf] at CF
    by_cases co : 1 ≤ o ∧ o ≤ 6
    · rw [decide_eq_true co] at CO
      by_cases ce1 : e < 1
      · have RES := hide1 (decide_eq_false (fun h => by have := (HI.out.1 h).2.2.1; omega : ¬ okMs ⟨k, f, o, e, n, l⟩))
        clear HI cf co
        go_wp2_with fail
        refine (CF.out _).mono ?_
        rintro e1 w1 ⟨rfl, rfl⟩
        go_wp2_with fail
        refine (CO.out _).mono ?_
        rintro e1 w1 ⟨rfl, rfl⟩
        go_wp2
        go_ret
        exact ⟨by rw [RES.out]; rfl, HB.out⟩
      · by_cases ce2 : 9 < e
        · have RES := hide1 (decide_eq_false (fun h => by have := (HI.out.1 h).2.2.1; omega : ¬ okMs ⟨k, f, o, e, n, l⟩))
          clear HI cf co
          go_wp2_with fail
          refine (CF.out _).mono ?_
          rintro e1 w1 ⟨rfl, rfl⟩
          go_wp2_with fail
          refine (CO.out _).mono ?_
          rintro e1 w1 ⟨rfl, rfl⟩
          go_wp2
          go_ret
          exact ⟨by rw [RES.out]; rfl, HB.out⟩
        · go_wp2_with fail
          refine (CF.out _).mono ?_
          rintro e1 w1 ⟨rfl, rfl⟩
          go_wp2_with fail
          refine (CO.out _).mono ?_
          rintro e1 w1 ⟨rfl, rfl⟩
          by_cases cn1 : 0 ≤ n
          · by_cases cn2 : n ≤ 1000000000
            · by_cases cc : cntF k l.length
              · rw [decide_eq_true cc] at CC
                by_cases ci : okIms l
                · rw [decide_eq_true ci] at CI
                  have RES := hide1 (decide_eq_true (HI.out.2 ⟨cf, co, ⟨by omega, by omega⟩, ⟨cn1, cn2⟩, cc, ci⟩))
                  clear HI cf co cc ci
                  go_wp2_with fail
                  refine (CC.out _).mono ?_
                  rintro e1 w1 ⟨rfl, rfl⟩
                  go_wp2_with fail
                  refine (CI.out _ HB.out).mono ?_
                  rintro e1 w2 ⟨rfl, hb2⟩
                  have B2 := hide1 (HB.out.trans (hb2.mono HB.out.size))
                  clear hb2
                  go_wp2
                  go_ret
                  exact ⟨by rw [RES.out]; rfl, B2.out⟩
                · rw [decide_eq_false ci] at CI
                  have RES := hide1 (decide_eq_false (fun h => ci (HI.out.1 h).2.2.2.2.2))
                  clear HI cf co cc ci
                  go_wp2_with fail
                  refine (CC.out _).mono ?_
                  rintro e1 w1 ⟨rfl, rfl⟩
                  go_wp2_with fail
                  refine (CI.out _ HB.out).mono ?_
                  rintro e1 w2 ⟨rfl, hb2⟩
                  have B2 := hide1 (HB.out.trans (hb2.mono HB.out.size))
                  clear hb2
                  go_wp2
                  go_ret
                  exact ⟨by rw [RES.out]; rfl, B2.out⟩
              · rw [decide_eq_false cc] at CC
                have RES := hide1 (decide_eq_false (fun h => cc (HI.out.1 h).2.2.2.2.1))
                clear HI cf co cc
                go_wp2_with fail
                refine (CC.out _).mono ?_
                rintro e1 w1 ⟨rfl, rfl⟩
                go_wp2
                go_ret
                exact ⟨by rw [RES.out]; rfl, HB.out⟩
            · have RES := hide1 (decide_eq_false (fun h => cn2 (HI.out.1 h).2.2.2.1.2))
              clear HI cf co
              go_wp2
              go_ret
              exact ⟨by rw [RES.out]; rfl, HB.out⟩
          · have RES := hide1 (decide_eq_false (fun h => cn1 (HI.out.1 h).2.2.2.1.1))
            clear HI cf co
            go_wp2
            go_ret
            exact ⟨by rw [RES.out]; rfl, HB.out⟩
    · rw [decide_eq_false co] at CO
      have RES := hide1 (decide_eq_false (fun h => co (HI.out.1 h).2.1))
      clear HI cf co
      go_wp2_with fail
      refine (CF.out _).mono ?_
      rintro e1 w1 ⟨rfl, rfl⟩
      go_wp2_with fail
      refine (CO.out _).mono ?_
      rintro e1 w1 ⟨rfl, rfl⟩
      go_wp2
      go_ret
      exact ⟨by rw [RES.out]; rfl, HB.out⟩
  · rw [decide_eq_false cf] at CF
    have RES := hide1 (decide_eq_false (fun h => cf (HI.out.1 h).1))
    clear HI cf
    go_wp2_with fail
    refine (CF.out _).mono ?_
    rintro e1 w1 ⟨rfl, rfl⟩
    go_wp2
    go_ret
    exact ⟨by rw [RES.out]; rfl, HB.out⟩
end Go.Proofs.YtbkhhkknhbddeaaDoor
