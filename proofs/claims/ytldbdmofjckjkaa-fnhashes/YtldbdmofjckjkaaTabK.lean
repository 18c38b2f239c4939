/- When a table is right, by the model. -/
import Derived.Test.YtldbdmofjckjkaaTabO
import Derived.Test.YtldbdmofjckjkaaTabU
namespace Go.Proofs.Ytldbdmofjckjkaa
open Go.RowKit

/-- What is asked of cell i of Old. -/
def okOld (l : List Ce) (mv : Int) (i : Nat) (x : Ce) : Prop := ((i : Int) < mv → x.key.toList = [] ∧ x.h = -2) ∧ (x.key.toList ≠ [] → seekC l x.key = none)
/-- A table is right. -/
structure OkT (l o : List Ce) (mv : Int) : Prop where
  size : l.length = 4 ∨ l.length = 8 ∨ l.length = 16 ∨ l.length = 32 ∨ l.length = 64
  half : o.length = 0 ∨ 2 * o.length = l.length
  moved : 0 ≤ mv ∧ mv ≤ (o.length : Int)
  cells : RightC l true
  olds : RightC o false
  old : ∀ i (h : i < o.length), okOld l mv i o[i]

set_option maxRecDepth 100000 in
set_option maxHeartbeats 2000000 in
theorem specTOk_any (ao a' : Option Addr) (l o : List Ce) (ca ca' : Nat) (mv : Int) (w : World) (hl : l.length ≤ 1048576) (hl' : o.length ≤ 1048576) (hA : RdC w ao l) (hA' : RdC w a' o) :
    Calls Try.prog 43 #[tbV ao l.length ca a' o.length ca' mv] w fun e w' => ∃ x : Bool, e = .returned (.bool x) ∧ (x = true ↔ OkT l o mv) ∧ Below w.heap.size w w' := by
  have CZ := hide1 (fun w => l04Size_any l.length w)
  have CI := hide1 (fun w => in_any mv 0 (o.length : Int) w)
  have CR := hide1 (fun w' (hb : Below w.heap.size w w') => specRight_any ao l ca true w' hl (hA.later hb))
  have CO := hide1 (fun w' (hb : Below w.heap.size w w') => specRight_any a' o ca' false w' hl' (hA'.later hb))
  have CS := hide1 (fun w' (hb : Below w.heap.size w w') (key : ByteArray) (hk : key.size ≤ 1048576) => specSeek_any ao l ca key w' hl hk (hA.later hb))
  have HA' := hide1 hA'
  have F0 : Hid (Blk (w.alloc (.cells #[.slice ao l.length ca, .slice a' o.length ca', .int .i64 mv] 29)) w.heap.size 29 [.slice ao l.length ca, .slice a' o.length ca', .int .i64 mv] ∧ Below w.heap.size w (w.alloc (.cells #[.slice ao l.length ca, .slice a' o.length ca', .int .i64 mv] 29))) := ⟨Blk.new w _ _, (Below.refl _ _).alloc (Nat.le_refl _) _⟩
  clear hA hA'
  unfold tbV
  go_enter Try.func43, Try.ntmps43
  go_wp2_with fail
  generalize (w.alloc (.cells #[.slice ao l.length ca, .slice a' o.length ca', .int .i64 mv] 29)) = w0 at F0 ⊢
  obtain ⟨K0, B0⟩ := F0.out
  have v0 : w0.cell? ⟨w.heap.size, 0, none⟩ = some (.slice ao l.length ca) := K0.cell 0
  have v1 : w0.cell? ⟨w.heap.size, 1, none⟩ = some (.slice a' o.length ca') := K0.cell 1
  have v2 : w0.cell? ⟨w.heap.size, 2, none⟩ = some (.int .i64 mv) := K0.cell 2
  have K0 := hide1 K0
  have B0 := hide1 B0
  clear F0
  refine (CZ.out w0).mono ?_
  rintro e w1 ⟨x, rfl, hx, rfl⟩
  have HX := hide1 hx
  clear hx CZ
  rcases x with _ | _
  · have HN := hide1 (show ¬ OkT l o mv from fun h => by have := HX.out.2 h.size; cases this)
    go_wp2
    go_ret
    exact ⟨false, rfl, ⟨(fun h => by cases h), fun h => absurd h HN.out⟩, B0.out⟩
  · have HSZ := hide1 (HX.out.1 rfl)
    clear HX
    by_cases c2 : o.length = 0 ∨ 2 * o.length = l.length
    · by_cases c3 : 0 ≤ mv ∧ mv ≤ (o.length : Int)
      · have HC2 := hide1 c2
        have HC3 := hide1 c3
        rw [show (decide ((0 : Int) ≤ mv) && decide (mv ≤ (o.length : Int))) = true by simp; omega] at CI
        have hgo : Hid (((o.length : Int) != 0) = false ∨ (((o.length : Int) != 0) = true ∧ (2 * (o.length : Int) != (l.length : Int)) = false)) := by
          show _ ∨ _
          rcases c2 with h | h
          · left; simp [h]
          · by_cases h0 : o.length = 0
            · left; simp [h0]
            · right; constructor
              · simp; intro e; exact h0 (by rw [e]; rfl)
              · simp; omega
        clear c2 c3
        rcases hgo.out with g1 | ⟨g1, g2⟩
        · go_wp2_with fail
          refine (CI.out w0).mono ?_
          rintro e w1 ⟨rfl, rfl⟩
          go_wp2_with fail
          refine (CR.out w0 B0.out).mono ?_
          rintro e w1 ⟨x, rfl, hx, hb1⟩
          have HX := hide1 hx
          have K1 := hide1 (K0.out.below hb1 K0.out.lt)
          have B1 := hide1 (B0.out.trans (hb1.mono B0.out.size))
          have u1 : w1.cell? ⟨w.heap.size, 1, none⟩ = some (.slice a' o.length ca') := K1.out.cell 1
          clear hx hb1
          rcases x with _ | _
          · have HN := hide1 (show ¬ OkT l o mv from fun h => by have := HX.out.2 h.cells; cases this)
            clear HX
            go_wp2
            go_ret
            exact ⟨false, rfl, ⟨(fun h => by cases h), fun h => absurd h HN.out⟩, B1.out⟩
          · have HRL := hide1 (HX.out.1 rfl)
            clear HX
            go_wp2_with fail
            refine (CO.out w1 B1.out).mono ?_
            rintro e w2 ⟨x, rfl, hx, hb2⟩
            have HX := hide1 hx
            have K2 := hide1 (K1.out.below hb2 K1.out.lt)
            have B2 := hide1 (B1.out.trans (hb2.mono B1.out.size))
            clear hx hb2
            rcases x with _ | _
            · have HN := hide1 (show ¬ OkT l o mv from fun h => by have := HX.out.2 h.olds; cases this)
              clear HX
              go_wp2
              go_ret
              exact ⟨false, rfl, ⟨(fun h => by cases h), fun h => absurd h HN.out⟩, B2.out⟩
            · have HRO := hide1 (HX.out.1 rfl)
              clear HX v0 v1 v2 u1
              go_wp2
              go_loopw [3] (fun iv wr => ∃ i : Nat, i ≤ o.length ∧ iv = .int .i64 (i : Int) ∧ Hid (∀ j (h : j < o.length), j < i → okOld l mv j o[j]) ∧ Hid (Blk wr w.heap.size 29 [.slice ao l.length ca, .slice a' o.length ca', .int .i64 mv]) ∧ Hid (Below w.heap.size w wr)) (fun iv _ => o.length - (intOf iv).toNat)
              case atStart => exact ⟨0, by omega, rfl, fun j _ h => by omega, K2, B2⟩
              case round =>
                obtain ⟨i, hi, rfl, hold, hK, hbel⟩ := hrel
                have t1 : wr.cell? ⟨w.heap.size, 1, none⟩ = some (.slice a' o.length ca') := hK.out.cell 1
                by_cases hlt : i < o.length
                · have k1 : (i : Int) < (o.length : Int) := by omega
                  obtain ⟨g, hao, hg, h1⟩ := (HA'.out.later hbel.out).at i hlt
                  obtain ⟨x0, x1⟩ := h1
                  have hno := hide1 (fun (h : ¬ okOld l mv i o[i]) (hr : OkT l o mv) => h (hr.old i hlt))
                  have hyes := hide1 (fun (h : okOld l mv i o[i]) j (hj : j < o.length) (hj2 : j < i + 1) => show okOld l mv j o[j] by
                    by_cases e : j < i
                    · exact hold.out j hj e
                    · obtain rfl : j = i := by omega
                      exact h)
                  have hks := hide1 (fun (h : o[i].key.toList ≠ []) => ((HRO.out.1 i hlt).2 h).1)
                  generalize o[i] = s at *
                  obtain ⟨ky, hh⟩ := s
                  simp only [okOld] at x0 x1 hno hyes hks
                  have BX : Hid (Below w.heap.size w (wr.alloc (.cells #[.string ky, .int .i64 hh] 47))) := hbel.out.alloc hbel.out.size _
                  have KX : Hid (Blk (wr.alloc (.cells #[.string ky, .int .i64 hh] 47)) w.heap.size 29 [.slice ao l.length ca, .slice a' o.length ca', .int .i64 mv]) := Blk.more hK.out _
                  have NN : Hid ((wr.alloc (.cells #[.string ky, .int .i64 hh] 47)).cell? ⟨wr.heap.size, 0, none⟩ = some (.string ky) ∧ (wr.alloc (.cells #[.string ky, .int .i64 hh] 47)).cell? ⟨wr.heap.size, 1, none⟩ = some (.int .i64 hh)) := ⟨World.cell?_alloc_at _ _ _ _ rfl, World.cell?_alloc_at _ _ _ _ rfl⟩
                  rw [hao] at t1
                  clear hold hao
                  go_upto_region 7 with fail
                  generalize (wr.alloc (.cells #[.string ky, .int .i64 hh] 47)) = wv at NN BX KX ⊢
                  obtain ⟨n0, n1⟩ := NN.out
                  have s0 : wv.cell? ⟨w.heap.size, 0, none⟩ = some (.slice ao l.length ca) := KX.out.cell 0
                  have s2 : wv.cell? ⟨w.heap.size, 2, none⟩ = some (.int .i64 mv) := KX.out.cell 2
                  clear NN x0 x1 hbel hK t1
                  by_cases d1 : ky.toList = []
                  · have b1 : ky.toList.isEmpty = true := by rw [d1]; rfl
                    by_cases d2 : (i : Int) < mv
                    · have q2 : decide ((i : Int) < mv) = true := decide_eq_true d2
                      by_cases d3 : hh = -2
                      · have q3 : (hh != (-2 : Int)) = false := by simp [d3]
                        have HY := hide1 (hyes.out ⟨fun _ => ⟨d1, d3⟩, fun h => absurd d1 h⟩)
                        clear d3 hyes hno hks
                        go_wp2
                        go_roundw
                        case rel => exact ⟨i + 1, by omega, by go_num, HY, KX, BX⟩
                        case measure => simp [intOf]; omega
                      · have q3 : (hh != (-2 : Int)) = true := by simp [d3]
                        have HN := hide1 (hno.out (fun h => d3 (h.1 d2).2))
                        clear d3 hyes hno hks
                        go_wp2
                        go_ret
                        exact ⟨false, rfl, ⟨(fun h => by cases h), fun h => absurd h HN.out⟩, BX.out⟩
                    · have q2 : decide ((i : Int) < mv) = false := decide_eq_false d2
                      have HY := hide1 (hyes.out ⟨fun h => absurd h d2, fun h => absurd d1 h⟩)
                      clear d2 hyes hno hks
                      go_wp2
                      go_roundw
                      case rel => exact ⟨i + 1, by omega, by go_num, HY, KX, BX⟩
                      case measure => simp [intOf]; omega
                  · have b1 : ky.toList.isEmpty = false := by cases h : ky.toList with | nil => exact absurd h d1 | cons a b => rfl
                    by_cases d2 : (i : Int) < mv
                    · have q2 : decide ((i : Int) < mv) = true := decide_eq_true d2
                      have HN := hide1 (hno.out (fun h => d1 (h.1 d2).1))
                      clear d2 hyes hno hks
                      go_wp2
                      go_ret
                      exact ⟨false, rfl, ⟨(fun h => by cases h), fun h => absurd h HN.out⟩, BX.out⟩
                    · have q2 : decide ((i : Int) < mv) = false := decide_eq_false d2
                      have CK := hide1 (CS.out wv BX.out ky (by have := hks.out d1; omega))
                      rcases hq : seekC l ky with _ | p
                      · have HY := hide1 (hyes.out ⟨fun h => absurd h d2, fun _ => hq⟩)
                        rw [hq] at CK
                        unfold optI at CK
                        clear d2 hq hyes hno hks
                        go_wp2_with fail
                        refine CK.out.mono ?_
                        rintro e w5 ⟨rfl, hb5⟩
                        have B5 := hide1 (BX.out.trans (hb5.mono BX.out.size))
                        have K5 := hide1 (KX.out.below hb5 KX.out.lt)
                        clear hb5
                        go_wp2
                        go_roundw
                        case rel => exact ⟨i + 1, by omega, by go_num, HY, K5, B5⟩
                        case measure => simp [intOf]; omega
                      · have HN := hide1 (hno.out (fun h => by have := h.2 d1; rw [hq] at this; cases this))
                        rw [hq] at CK
                        unfold optI at CK
                        clear d2 hq hyes hno hks
                        go_wp2_with fail
                        refine CK.out.mono ?_
                        rintro e w5 ⟨rfl, hb5⟩
                        have B5 := hide1 (BX.out.trans (hb5.mono BX.out.size))
                        clear hb5
                        go_wp2
                        go_ret
                        exact ⟨false, rfl, ⟨(fun h => by cases h), fun h => absurd h HN.out⟩, B5.out⟩
                · obtain rfl : i = o.length := by omega
                  have k1 : decide ((o.length : Int) < (o.length : Int)) = false := by simp
                  have HE := hide1 (show OkT l o mv from ⟨HSZ.out, HC2.out, HC3.out, HRL.out, HRO.out, fun j hj => hold.out j hj hj⟩)
                  go_wp2
                  go_ret
                  exact ⟨true, rfl, ⟨fun _ => HE.out, fun _ => rfl⟩, hbel.out⟩
        · go_wp2_with fail
          refine (CI.out w0).mono ?_
          rintro e w1 ⟨rfl, rfl⟩
          go_wp2_with fail
          refine (CR.out w0 B0.out).mono ?_
          rintro e w1 ⟨x, rfl, hx, hb1⟩
          have HX := hide1 hx
          have K1 := hide1 (K0.out.below hb1 K0.out.lt)
          have B1 := hide1 (B0.out.trans (hb1.mono B0.out.size))
          have u1 : w1.cell? ⟨w.heap.size, 1, none⟩ = some (.slice a' o.length ca') := K1.out.cell 1
          clear hx hb1
          rcases x with _ | _
          · have HN := hide1 (show ¬ OkT l o mv from fun h => by have := HX.out.2 h.cells; cases this)
            clear HX
            go_wp2
            go_ret
            exact ⟨false, rfl, ⟨(fun h => by cases h), fun h => absurd h HN.out⟩, B1.out⟩
          · have HRL := hide1 (HX.out.1 rfl)
            clear HX
            go_wp2_with fail
            refine (CO.out w1 B1.out).mono ?_
            rintro e w2 ⟨x, rfl, hx, hb2⟩
            have HX := hide1 hx
            have K2 := hide1 (K1.out.below hb2 K1.out.lt)
            have B2 := hide1 (B1.out.trans (hb2.mono B1.out.size))
            clear hx hb2
            rcases x with _ | _
            · have HN := hide1 (show ¬ OkT l o mv from fun h => by have := HX.out.2 h.olds; cases this)
              clear HX
              go_wp2
              go_ret
              exact ⟨false, rfl, ⟨(fun h => by cases h), fun h => absurd h HN.out⟩, B2.out⟩
            · have HRO := hide1 (HX.out.1 rfl)
              clear HX v0 v1 v2 u1
              go_wp2
              go_loopw [3] (fun iv wr => ∃ i : Nat, i ≤ o.length ∧ iv = .int .i64 (i : Int) ∧ Hid (∀ j (h : j < o.length), j < i → okOld l mv j o[j]) ∧ Hid (Blk wr w.heap.size 29 [.slice ao l.length ca, .slice a' o.length ca', .int .i64 mv]) ∧ Hid (Below w.heap.size w wr)) (fun iv _ => o.length - (intOf iv).toNat)
              case atStart => exact ⟨0, by omega, rfl, fun j _ h => by omega, K2, B2⟩
              case round =>
                obtain ⟨i, hi, rfl, hold, hK, hbel⟩ := hrel
                have t1 : wr.cell? ⟨w.heap.size, 1, none⟩ = some (.slice a' o.length ca') := hK.out.cell 1
                by_cases hlt : i < o.length
                · have k1 : (i : Int) < (o.length : Int) := by omega
                  obtain ⟨g, hao, hg, h1⟩ := (HA'.out.later hbel.out).at i hlt
                  obtain ⟨x0, x1⟩ := h1
                  have hno := hide1 (fun (h : ¬ okOld l mv i o[i]) (hr : OkT l o mv) => h (hr.old i hlt))
                  have hyes := hide1 (fun (h : okOld l mv i o[i]) j (hj : j < o.length) (hj2 : j < i + 1) => show okOld l mv j o[j] by
                    by_cases e : j < i
                    · exact hold.out j hj e
                    · obtain rfl : j = i := by omega
                      exact h)
                  have hks := hide1 (fun (h : o[i].key.toList ≠ []) => ((HRO.out.1 i hlt).2 h).1)
                  generalize o[i] = s at *
                  obtain ⟨ky, hh⟩ := s
                  simp only [okOld] at x0 x1 hno hyes hks
                  have BX : Hid (Below w.heap.size w (wr.alloc (.cells #[.string ky, .int .i64 hh] 47))) := hbel.out.alloc hbel.out.size _
                  have KX : Hid (Blk (wr.alloc (.cells #[.string ky, .int .i64 hh] 47)) w.heap.size 29 [.slice ao l.length ca, .slice a' o.length ca', .int .i64 mv]) := Blk.more hK.out _
                  have NN : Hid ((wr.alloc (.cells #[.string ky, .int .i64 hh] 47)).cell? ⟨wr.heap.size, 0, none⟩ = some (.string ky) ∧ (wr.alloc (.cells #[.string ky, .int .i64 hh] 47)).cell? ⟨wr.heap.size, 1, none⟩ = some (.int .i64 hh)) := ⟨World.cell?_alloc_at _ _ _ _ rfl, World.cell?_alloc_at _ _ _ _ rfl⟩
                  rw [hao] at t1
                  clear hold hao
                  go_upto_region 7 with fail
                  generalize (wr.alloc (.cells #[.string ky, .int .i64 hh] 47)) = wv at NN BX KX ⊢
                  obtain ⟨n0, n1⟩ := NN.out
                  have s0 : wv.cell? ⟨w.heap.size, 0, none⟩ = some (.slice ao l.length ca) := KX.out.cell 0
                  have s2 : wv.cell? ⟨w.heap.size, 2, none⟩ = some (.int .i64 mv) := KX.out.cell 2
                  clear NN x0 x1 hbel hK t1
                  by_cases d1 : ky.toList = []
                  · have b1 : ky.toList.isEmpty = true := by rw [d1]; rfl
                    by_cases d2 : (i : Int) < mv
                    · have q2 : decide ((i : Int) < mv) = true := decide_eq_true d2
                      by_cases d3 : hh = -2
                      · have q3 : (hh != (-2 : Int)) = false := by simp [d3]
                        have HY := hide1 (hyes.out ⟨fun _ => ⟨d1, d3⟩, fun h => absurd d1 h⟩)
                        clear d3 hyes hno hks
                        go_wp2
                        go_roundw
                        case rel => exact ⟨i + 1, by omega, by go_num, HY, KX, BX⟩
                        case measure => simp [intOf]; omega
                      · have q3 : (hh != (-2 : Int)) = true := by simp [d3]
                        have HN := hide1 (hno.out (fun h => d3 (h.1 d2).2))
                        clear d3 hyes hno hks
                        go_wp2
                        go_ret
                        exact ⟨false, rfl, ⟨(fun h => by cases h), fun h => absurd h HN.out⟩, BX.out⟩
                    · have q2 : decide ((i : Int) < mv) = false := decide_eq_false d2
                      have HY := hide1 (hyes.out ⟨fun h => absurd h d2, fun h => absurd d1 h⟩)
                      clear d2 hyes hno hks
                      go_wp2
                      go_roundw
                      case rel => exact ⟨i + 1, by omega, by go_num, HY, KX, BX⟩
                      case measure => simp [intOf]; omega
                  · have b1 : ky.toList.isEmpty = false := by cases h : ky.toList with | nil => exact absurd h d1 | cons a b => rfl
                    by_cases d2 : (i : Int) < mv
                    · have q2 : decide ((i : Int) < mv) = true := decide_eq_true d2
                      have HN := hide1 (hno.out (fun h => d1 (h.1 d2).1))
                      clear d2 hyes hno hks
                      go_wp2
                      go_ret
                      exact ⟨false, rfl, ⟨(fun h => by cases h), fun h => absurd h HN.out⟩, BX.out⟩
                    · have q2 : decide ((i : Int) < mv) = false := decide_eq_false d2
                      have CK := hide1 (CS.out wv BX.out ky (by have := hks.out d1; omega))
                      rcases hq : seekC l ky with _ | p
                      · have HY := hide1 (hyes.out ⟨fun h => absurd h d2, fun _ => hq⟩)
                        rw [hq] at CK
                        unfold optI at CK
                        clear d2 hq hyes hno hks
                        go_wp2_with fail
                        refine CK.out.mono ?_
                        rintro e w5 ⟨rfl, hb5⟩
                        have B5 := hide1 (BX.out.trans (hb5.mono BX.out.size))
                        have K5 := hide1 (KX.out.below hb5 KX.out.lt)
                        clear hb5
                        go_wp2
                        go_roundw
                        case rel => exact ⟨i + 1, by omega, by go_num, HY, K5, B5⟩
                        case measure => simp [intOf]; omega
                      · have HN := hide1 (hno.out (fun h => by have := h.2 d1; rw [hq] at this; cases this))
                        rw [hq] at CK
                        unfold optI at CK
                        clear d2 hq hyes hno hks
                        go_wp2_with fail
                        refine CK.out.mono ?_
                        rintro e w5 ⟨rfl, hb5⟩
                        have B5 := hide1 (BX.out.trans (hb5.mono BX.out.size))
                        clear hb5
                        go_wp2
                        go_ret
                        exact ⟨false, rfl, ⟨(fun h => by cases h), fun h => absurd h HN.out⟩, B5.out⟩
                · obtain rfl : i = o.length := by omega
                  have k1 : decide ((o.length : Int) < (o.length : Int)) = false := by simp
                  have HE := hide1 (show OkT l o mv from ⟨HSZ.out, HC2.out, HC3.out, HRL.out, HRO.out, fun j hj => hold.out j hj hj⟩)
                  go_wp2
                  go_ret
                  exact ⟨true, rfl, ⟨fun _ => HE.out, fun _ => rfl⟩, hbel.out⟩
      · rw [show (decide ((0 : Int) ≤ mv) && decide (mv ≤ (o.length : Int))) = false by simp; omega] at CI
        have HN := hide1 (show ¬ OkT l o mv from fun h => c3 h.moved)
        have hgo : Hid (((o.length : Int) != 0) = false ∨ (((o.length : Int) != 0) = true ∧ (2 * (o.length : Int) != (l.length : Int)) = false)) := by
          show _ ∨ _
          rcases c2 with h | h
          · left; simp [h]
          · by_cases h0 : o.length = 0
            · left; simp [h0]
            · right; constructor
              · simp; intro e; exact h0 (by rw [e]; rfl)
              · simp; omega
        clear c2 c3
        rcases hgo.out with g1 | ⟨g1, g2⟩
        · go_wp2_with fail
          refine (CI.out w0).mono ?_
          rintro e w1 ⟨rfl, rfl⟩
          go_wp2
          go_ret
          exact ⟨false, rfl, ⟨(fun h => by cases h), fun h => absurd h HN.out⟩, B0.out⟩
        · go_wp2_with fail
          refine (CI.out w0).mono ?_
          rintro e w1 ⟨rfl, rfl⟩
          go_wp2
          go_ret
          exact ⟨false, rfl, ⟨(fun h => by cases h), fun h => absurd h HN.out⟩, B0.out⟩
    · have HN := hide1 (show ¬ OkT l o mv from fun h => c2 h.half)
      have g1 : ((o.length : Int) != 0) = true := by simp; intro e; exact c2 (.inl (by rw [e]; rfl))
      have g2 : (2 * (o.length : Int) != (l.length : Int)) = true := by simp; omega
      clear c2
      go_wp2
      go_ret
      exact ⟨false, rfl, ⟨(fun h => by cases h), fun h => absurd h HN.out⟩, B0.out⟩
end Go.Proofs.Ytldbdmofjckjkaa
