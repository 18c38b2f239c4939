/- Whether a board is right, by the program. -/
import Derived.Test.YtahglnojllkjdaaTabL
namespace Go.Proofs.Ytahglnojllkjdaa
open Go.RowKit

theorem below_dr {B : Nat} {a w : World} (h : Below B a w) (q : Nat) : Below B a (w.drewN q) := by
  induction q generalizing w with
  | zero => exact h
  | succ q ih => exact (ih h).drew

set_option maxRecDepth 100000 in
set_option maxHeartbeats 4000000 in
theorem right_any {w : World} {r : Nat} (ao a' : Option Addr) (l o : List Ce) (ca ca' mv : Nat) (hK : Blk w r 71 [.slice ao l.length ca, .slice a' o.length ca', .int .i64 (mv : Int)]) (hl : l.length ≤ 1048576) (hl' : o.length ≤ 1048576) (hm : mv ≤ o.length) (hc : o.length ≤ ca') (hA : RdJ w ao l) (hA' : RdJ w a' o) :
    Calls Try.prog 71 #[.pointer (some ⟨r, 0, none⟩)] w fun e w' => ∃ x : Bool, e = .returned (.bool x) ∧ (x = true ↔ OkI l o mv) ∧ Below w.heap.size w w' := by
  have C1 := hide1 (cellsFit_any ao l ca w hl hA)
  have C2 := hide1 (fun w' (hb : Below w.heap.size w w') => cellsFit_any a' o ca' w' hl' (hA'.later hb))
  have C3 := hide1 (fun w' (hb : Below w.heap.size w w') => countNone_any ao l ca (hK.below hb hK.lt) hl (hA.later hb))
  have C4 := hide1 (fun w' (hb : Below w.heap.size w w') (hF : FitC l) => allFound_any ao l ca w' hl hF (hA.later hb))
  have C5 := hide1 (fun w' (hb : Below w.heap.size w w') (hF : FitC o) => allFound_any a' o ca' w' hl' hF (hA'.later hb))
  have C6 := hide1 (fun w' (hb : Below w.heap.size w w') (key : ByteArray) (hk : key.size ≤ 1048576) => placeOf_any ao l ca key w' hl hk (hA.later hb))
  have KK := hide1 (fun w' (hb : Below w.heap.size w w') => hK.below hb hK.lt)
  have HA' := hide1 hA'
  have hrl := hK.lt
  have v0 : w.cell? ⟨r, 0, none⟩ = some (.slice ao l.length ca) := hK.cell 0
  clear hA hA' hK
  go_enter Try.func71, Try.ntmps71
  go_wp2_with fail
  refine C1.out.mono ?_
  rintro e w1 ⟨x, rfl, hx, hb1⟩
  have HX := hide1 hx
  have B1 := hide1 hb1
  clear hx hb1 v0 C1
  have v1 : w1.cell? ⟨r, 1, none⟩ = some (.slice a' o.length ca') := (KK.out w1 B1.out).cell 1
  rcases x with _ | _
  · have HN := hide1 (show ¬ OkI l o mv from fun h => by have := HX.out.2 h.f1; cases this)
    clear HX
    go_wp2
    go_ret
    exact ⟨false, rfl, ⟨(fun h => by cases h), fun h => absurd h HN.out⟩, B1.out⟩
  have F1 := hide1 (HX.out.1 rfl)
  clear HX
  go_wp2_with fail
  refine (C2.out w1 B1.out).mono ?_
  rintro e w2 ⟨x, rfl, hx, hb2⟩
  have HX := hide1 hx
  have B2 := hide1 (B1.out.trans (hb2.mono B1.out.size))
  clear hx hb2 v1 C2
  rcases x with _ | _
  · have HN := hide1 (show ¬ OkI l o mv from fun h => by have := HX.out.2 h.f2; cases this)
    clear HX
    go_wp2
    go_ret
    exact ⟨false, rfl, ⟨(fun h => by cases h), fun h => absurd h HN.out⟩, B2.out⟩
  have F2 := hide1 (HX.out.1 rfl)
  clear HX
  go_wp2_with fail
  refine (C3.out w2 B2.out).mono ?_
  rintro e w3 ⟨rfl, hb3⟩
  have B3 := hide1 (B2.out.trans (hb3.mono B2.out.size))
  clear hb3 C3
  by_cases c3 : cntN l l.length = 0
  · have q3 : ((cntN l l.length : Int) == 0) = true := by simp [c3]
    have HN := hide1 (show ¬ OkI l o mv from fun h => by have := h.none; omega)
    generalize cntN l l.length = n at *
    clear c3
    go_wp2
    go_ret
    exact ⟨false, rfl, ⟨(fun h => by cases h), fun h => absurd h HN.out⟩, B3.out⟩
  have q3 : ((cntN l l.length : Int) == 0) = false := by simp; omega
  have F3 := hide1 (show 0 < cntN l l.length by omega)
  generalize hcn : cntN l l.length = n at *
  have HCN := hide1 hcn
  clear c3 hcn
  have u1 : w3.cell? ⟨r, 1, none⟩ = some (.slice a' o.length ca') := (KK.out w3 B3.out).cell 1
  have u2 : w3.cell? ⟨r, 2, none⟩ = some (.int .i64 (mv : Int)) := (KK.out w3 B3.out).cell 2
  have m1 : (mv : Int) ≤ (o.length : Int) := by omega
  have m2 : (mv : Int) ≤ (ca' : Int) := by omega
  go_wp2
  go_quiet (fail)
  go_wp2
  rename_i nq
  have B4 := hide1 (below_dr B3.out nq)
  generalize w3.drewN nq = w4 at B4 ⊢
  clear u1 u2 m1 m2 B3 q3
  go_loopw [40] (fun iv wr => ∃ i : Nat, i ≤ mv ∧ iv = .int .i64 (i : Int) ∧ Hid (∀ j (h : j < o.length), j < i → o[j].h = -2) ∧ Hid (Below w.heap.size w wr)) (fun iv _ => mv - (intOf iv).toNat)
  case atStart => exact ⟨0, by omega, rfl, fun j _ h => by omega, B4.out⟩
  case round =>
    obtain ⟨i, hi, rfl, hok, hbel⟩ := hrel
    by_cases hlt : i < mv
    · have k1 : (i : Int) < (mv : Int) := by omega
      have hio : i < o.length := by omega
      obtain ⟨b, of, hao, hb, h1⟩ := HA'.out i hio
      obtain ⟨x0, x1⟩ := h1.below hbel.out hb
      have hno := hide1 (fun (h : ¬ o[i].h = -2) (hr : OkI l o mv) => h (hr.gone i hio hlt))
      have hyes := hide1 (fun (h : o[i].h = -2) j (hj : j < o.length) (hj2 : j < i + 1) => show o[j].h = -2 by
        by_cases e : j < i
        · exact hok.out j hj e
        · obtain rfl : j = i := by omega
          exact h)
      generalize o[i] = s at *
      obtain ⟨ky, hh⟩ := s
      simp only at x0 x1 hno hyes
      have BX : Hid (Below w.heap.size w (wr.alloc (.cells #[.string ky, .int .i64 hh] 65))) := hbel.out.alloc hbel.out.size _
      have NN : Hid ((wr.alloc (.cells #[.string ky, .int .i64 hh] 65)).cell? ⟨wr.heap.size, 0, none⟩ = some (.string ky) ∧ (wr.alloc (.cells #[.string ky, .int .i64 hh] 65)).cell? ⟨wr.heap.size, 1, none⟩ = some (.int .i64 hh)) := ⟨World.cell?_alloc_at _ _ _ _ rfl, World.cell?_alloc_at _ _ _ _ rfl⟩
      rw [hao]
      clear h1 hok hao
      go_upto_region 6 with fail
      generalize (wr.alloc (.cells #[.string ky, .int .i64 hh] 65)) = wv at NN BX ⊢
      obtain ⟨n0, n1⟩ := NN.out
      clear NN x0 x1 hbel
      by_cases d1 : hh = -2
      · have b1 : (hh != (-2 : Int)) = false := by simp [d1]
        have HY := hide1 (hyes.out d1)
        clear hyes hno d1
        go_wp2
        go_roundw
        case rel => exact ⟨i + 1, by omega, by go_num, HY, BX⟩
        case measure => simp [intOf]; omega
      · have b1 : (hh != (-2 : Int)) = true := by simp [d1]
        have HN := hide1 (hno.out d1)
        clear hyes hno d1
        go_wp2
        go_ret
        exact ⟨false, rfl, ⟨(fun h => by cases h), fun h => absurd h HN.out⟩, BX.out⟩
    · have F4 := hide1 (show ∀ j (h : j < o.length), j < mv → o[j].h = -2 from fun j hj hm => hok.out j hj (by omega))
      obtain rfl : i = mv := by omega
      have k1 : decide ((i : Int) < (i : Int)) = false := by simp
      clear hok
      have v0 : wr.cell? ⟨r, 0, none⟩ = some (.slice ao l.length ca) := (KK.out wr hbel.out).cell 0
      go_wp2_with fail
      refine (C4.out wr hbel.out F1.out).mono ?_
      rintro e w5 ⟨x, rfl, hx, hb5⟩
      have HX := hide1 hx
      have B5 := hide1 (hbel.out.trans (hb5.mono hbel.out.size))
      clear hx hb5 v0 C4
      have v1 : w5.cell? ⟨r, 1, none⟩ = some (.slice a' o.length ca') := (KK.out w5 B5.out).cell 1
      rcases x with _ | _
      · have HN := hide1 (show ¬ OkI l o i from fun h => by have := HX.out.2 h.s1; cases this)
        clear HX
        go_wp2
        go_ret
        exact ⟨false, rfl, ⟨(fun h => by cases h), fun h => absurd h HN.out⟩, B5.out⟩
      · have F5 := hide1 (HX.out.1 rfl)
        clear HX
        go_wp2_with fail
        refine (C5.out w5 B5.out F2.out).mono ?_
        rintro e w6 ⟨x, rfl, hx, hb6⟩
        have HX := hide1 hx
        have B6 := hide1 (B5.out.trans (hb6.mono B5.out.size))
        clear hx hb6 v1 C5
        rcases x with _ | _
        · have HN := hide1 (show ¬ OkI l o i from fun h => by have := HX.out.2 h.s2; cases this)
          clear HX
          go_wp2
          go_ret
          exact ⟨false, rfl, ⟨(fun h => by cases h), fun h => absurd h HN.out⟩, B6.out⟩
        · have F6 := hide1 (HX.out.1 rfl)
          clear HX
          have v1 : w6.cell? ⟨r, 1, none⟩ = some (.slice a' o.length ca') := (KK.out w6 B6.out).cell 1
          go_wp2
          clear v1 hbel
          go_loopw [67] (fun iv wr => ∃ i : Nat, i ≤ o.length ∧ iv = .int .i64 (i : Int) ∧ Hid (∀ j (h : j < o.length), j < i → (srchC l o[j].key).1 = none) ∧ Hid (Below w.heap.size w wr)) (fun iv _ => o.length - (intOf iv).toNat)
          case atStart => exact ⟨0, by omega, rfl, fun j _ h => by omega, B6.out⟩
          case round =>
            obtain ⟨j, hj, rfl, hok, hbel⟩ := hrel
            by_cases hlt2 : j < o.length
            · have k2 : (j : Int) < (o.length : Int) := by omega
              obtain ⟨b, of, hao, hb, h1⟩ := HA'.out j hlt2
              obtain ⟨x0, x1⟩ := h1.below hbel.out hb
              have hks := fit_small F2.out j hlt2
              have hno := hide1 (fun (h : ¬ (srchC l o[j].key).1 = none) (hr : OkI l o i) => h (hr.apart j hlt2))
              have hyes := hide1 (fun (h : (srchC l o[j].key).1 = none) k (hk : k < o.length) (hk2 : k < j + 1) => show (srchC l o[k].key).1 = none by
                by_cases e : k < j
                · exact hok.out k hk e
                · obtain rfl : k = j := by omega
                  exact h)
              generalize o[j] = s at *
              obtain ⟨ky, hh⟩ := s
              simp only at x0 x1 hno hyes hks
              have BX : Hid (Below w.heap.size w (wr.alloc (.cells #[.string ky, .int .i64 hh] 65))) := hbel.out.alloc hbel.out.size _
              have NN : Hid ((wr.alloc (.cells #[.string ky, .int .i64 hh] 65)).cell? ⟨wr.heap.size, 0, none⟩ = some (.string ky) ∧ (wr.alloc (.cells #[.string ky, .int .i64 hh] 65)).cell? ⟨wr.heap.size, 1, none⟩ = some (.int .i64 hh)) := ⟨World.cell?_alloc_at _ _ _ _ rfl, World.cell?_alloc_at _ _ _ _ rfl⟩
              have hws : wr.heap.size < (wr.alloc (.cells #[.string ky, .int .i64 hh] 65)).heap.size := by rw [World.size_alloc]; omega
              rw [hao]
              clear h1 hok hao
              go_upto_region 14 with fail
              generalize hsz : wr.heap.size = sz at *
              generalize (wr.alloc (.cells #[.string ky, .int .i64 hh] 65)) = wv at NN BX hws ⊢
              obtain ⟨n0, n1⟩ := NN.out
              have N0 := hide1 n0
              have V0 := hide1 (show wv.cell? ⟨r, 0, none⟩ = some (.slice ao l.length ca) from (KK.out wv BX.out).cell 0)
              have hrv : r < wv.heap.size := Nat.lt_of_lt_of_le hrl BX.out.size
              have CSI := hide1 (fun w' (hb : Below wv.heap.size wv w') => C6.out w' (BX.out.trans (hb.mono BX.out.size)) ky (by omega))
              have v0 := V0.out
              clear NN x0 x1 hbel hsz n1
              by_cases d1 : (srchC l ky).1 = none
              · have HY := hide1 (hyes.out d1)
                rw [d1] at CSI
                have q : ((-1 : Int) != (-1 : Int)) = false := by simp
                unfold optI at CSI
                clear hyes hno d1
                go_region_held3 (fun w' => w'.cell? ⟨r, 0, none⟩ = some (.slice ao l.length ca) ∧ w'.cell? ⟨sz, 0, none⟩ = some (.string ky)) (first | go_keep | exact ⟨V0.out, N0.out⟩ | exact ⟨(hb2.cell hrv).trans V0.out, (hb2.cell hws).trans N0.out⟩) ((go_at_call 56; refine (CSI.out _ (by go_grown)).mono ?_; rintro e w7 ⟨rfl, hb7⟩; have hb2 : Below wv.heap.size wv w7 := (show Below wv.heap.size wv _ by go_grown).trans hb7))
                go_wp2
                go_roundw
                case rel => exact ⟨j + 1, by omega, by go_num, HY, BX.out.trans (hb2.mono BX.out.size)⟩
                case measure => simp [intOf]; omega
              · have HN := hide1 (hno.out d1)
                have q : (optI (srchC l ky).1 != (-1 : Int)) = true := by simp; intro h; exact d1 (optI_neg.1 h)
                generalize optI (srchC l ky).1 = rr at *
                clear hyes hno d1
                go_region_held3 (fun w' => w'.cell? ⟨r, 0, none⟩ = some (.slice ao l.length ca) ∧ w'.cell? ⟨sz, 0, none⟩ = some (.string ky)) (first | go_keep | exact ⟨V0.out, N0.out⟩ | exact ⟨(hb2.cell hrv).trans V0.out, (hb2.cell hws).trans N0.out⟩) ((go_at_call 56; refine (CSI.out _ (by go_grown)).mono ?_; rintro e w7 ⟨rfl, hb7⟩; have hb2 : Below wv.heap.size wv w7 := (show Below wv.heap.size wv _ by go_grown).trans hb7))
                go_wp2
                go_ret
                exact ⟨false, rfl, ⟨(fun h => by cases h), fun h => absurd h HN.out⟩, BX.out.trans (hb2.mono BX.out.size)⟩
            · have HY := hide1 (show OkI l o i from ⟨F1.out, F2.out, by rw [HCN.out]; exact F3.out, F4.out, F5.out, F6.out, fun k hk => hok.out k hk (by omega)⟩)
              clear hok
              go_wp2
              go_ret
              exact ⟨true, rfl, ⟨(fun _ => HY.out), fun _ => rfl⟩, hbel.out⟩
end Go.Proofs.Ytahglnojllkjdaa
