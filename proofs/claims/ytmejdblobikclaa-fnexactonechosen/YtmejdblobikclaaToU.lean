/- Rows of tries in the statements' words: sized, copied. -/
import Derived.Test.YtmejdblobikclaaToT
namespace Go.Proofs.Ytmejdblobikclaa
open Go.ChangeShapes Go.WideShapes Go.ChangeAt Go.RowKit Go.Deep Go.Joins
set_option linter.unusedVariables false

theorem tmCells {w : World} {b o i : Nat} {t : Tm} (h : ∀ j, j < 7 → w.cell? ⟨b, o + i * 7 + j, none⟩ = (tmC t)[j]?) :
    w.cell? ⟨b, o + i * 7, none⟩ = some (.int .i64 t.y.i) ∧ w.cell? ⟨b, o + i * 7 + 1, none⟩ = some (.int .i64 t.y.b) ∧ w.cell? ⟨b, o + i * 7 + 2, none⟩ = some (.string t.y.v) ∧ w.cell? ⟨b, o + i * 7 + 3, none⟩ = some (.slice t.pa t.y.ps.length t.pc) ∧ w.cell? ⟨b, o + i * 7 + 4, none⟩ = some (.bool t.y.as) ∧ w.cell? ⟨b, o + i * 7 + 5, none⟩ = some (.slice t.ka t.y.tk.length t.kc) ∧ w.cell? ⟨b, o + i * 7 + 6, none⟩ = some (.bool t.y.ch) :=
  ⟨h 0 (by omega), h 1 (by omega), h 2 (by omega), h 3 (by omega), h 4 (by omega), h 5 (by omega), h 6 (by omega)⟩
theorem cellsLater {w w' : World} {b o i : Nat} {t : Tm} (h : ∀ j, j < 7 → w.cell? ⟨b, o + i * 7 + j, none⟩ = (tmC t)[j]?) (hb : Below w.heap.size w w') (hg : b < w.heap.size) : ∀ j, j < 7 → w'.cell? ⟨b, o + i * 7 + j, none⟩ = (tmC t)[j]? := fun j hj => (hb.cell (p := ⟨b, o + i * 7 + j, none⟩) hg).trans (h j hj)
theorem TmR0.later {w w' : World} {t : Tm} (h : TmR0 w t) (hb : Below w.heap.size w w') : TmR0 w' t := ⟨h.1.later hb, h.2.later hb⟩

set_option maxRecDepth 100000 in
set_option maxHeartbeats 1000000 in
theorem szTryS_any (ao : Option Addr) (l : List Tm) (ca left0 : Nat) (w : World) (hl0 : left0 ≤ 1048576) (hl : l.length ≤ 9223372036854775807) (hA : RdG tmC 7 w ao l) (hS : ∀ t ∈ l, TmR0 w t ∧ wfT t) :
    Calls Try.prog 64 #[.slice ao l.length ca, .int .i64 (left0 : Int)] w fun e w' => (e = .returned (.int .i64 (-1)) ∨ ∃ r : Nat, e = .returned (.int .i64 (r : Int)) ∧ r ≤ left0 ∧ l.length ≤ left0 ∧ ∀ t ∈ l, t.y.ps.length ≤ 1048576 ∧ t.y.tk.length ≤ 1048576) ∧ Below w.heap.size w w' := by
  by_cases c0 : l.length ≤ left0
  · have q0 : decide ((left0 : Int) - (l.length : Int) < 0) = false := by simp; omega
    have HA := hide1 hA
    have HS := hide1 hS
    clear hA hS
    go_enter Try.func64, Try.ntmps64
    go_wp2
    go_loopw [1, 5] (fun lv iv wr => ∃ i left : Nat, i ≤ l.length ∧ iv = .int .i64 (i : Int) ∧ lv = .int .i64 (left : Int) ∧ left ≤ left0 ∧ Hid (∀ j t, l[j]? = some t → j < i → t.y.ps.length ≤ 1048576 ∧ t.y.tk.length ≤ 1048576) ∧ Below w.heap.size w wr) (fun _ iv _ => l.length - (intOf iv).toNat)
    case atStart => exact ⟨0, left0 - l.length, by omega, rfl, by rw [show ((left0 - l.length : Nat) : Int) = (left0 : Int) - (l.length : Int) by omega], by omega, fun j _ _ h => by omega, Below.refl _ _⟩
    case round =>
      obtain ⟨i, left, hi, rfl, rfl, hle, hdone, hbel⟩ := hrel
      by_cases hlt : i < l.length
      · have k1 : (i : Int) < (l.length : Int) := by omega
        obtain ⟨b, o, rfl, hb, h1⟩ := HA.out i hlt
        obtain ⟨x0, x1, x2, x3, x4, x5, x6⟩ := tmCells (cellsLater h1 hbel hb)
        have hq : l[i]? = some l[i] := List.getElem?_eq_getElem hlt
        have m1 := HS.out _ (List.mem_of_getElem? hq)
        generalize l[i] = t at *
        have cc := hide1 (fun (w' : World) (h : Below w.heap.size w w') => szTry_any t left w' m1.2 (m1.1.later h) (by omega))
        have HQ := hide1 hq
        have HB := hide1 hbel
        clear h1 hq m1 hbel
        go_wp2_with fail
        refine (cc.out _ HB.out).mono ?_
        rintro e w2 ⟨hr, hb2⟩
        have B2 := hide1 (HB.out.trans (hb2.mono HB.out.size))
        rcases hr with rfl | ⟨r, rfl, hr, hr3⟩
        · go_wp2
          go_ret
          exact ⟨.inl rfl, B2.out⟩
        · have q : decide ((r : Int) < 0) = false := by simp
          have hr2 : r ≤ left0 := by omega
          have HR := hide1 hr3
          clear hr hr3
          go_wp2
          go_roundw
          case rel => exact ⟨i + 1, r, by omega, by go_num, rfl, hr2, hide1 (fun j t' h hj => by
            by_cases e : j < i
            · exact hdone.out j t' h e
            · obtain rfl : j = i := by omega
              rw [HQ.out] at h
              injection h with h
              subst h
              exact HR.out), B2.out⟩
          case measure => simp [intOf]; omega
      · go_wp2
        go_ret
        exact ⟨.inr ⟨left, rfl, hle, c0, fun t ht => by
          obtain ⟨j, hj, rfl⟩ := List.getElem_of_mem ht
          exact hdone.out j _ (List.getElem?_eq_getElem hj) (by omega)⟩, hbel⟩
  · have q0 : decide ((left0 : Int) - (l.length : Int) < 0) = true := by simp; omega
    clear hA hS
    go_enter Try.func64, Try.ntmps64
    go_wp2
    go_ret
    exact ⟨.inl rfl, Below.refl _ _⟩

theorem TmO.rd {base : Nat} {w : World} {t : Tm} (h : TmO base w t) : TmR0 w t := ⟨rdG_of_own encN.len h.p rfl, rdG_of_own encZ.len h.k rfl⟩
theorem TmO.far1 {base B : Nat} {w w' : World} {t : Tm} (h : TmO base w t) (hg : w.grownBy w' (some B)) (hB : B < base) : TmO base w' t := ⟨own_far1 hg h.p hB, own_far1 hg h.k hB⟩
theorem TmO.base {base base' : Nat} {w : World} {t : Tm} (h : TmO base' w t) (hb : base ≤ base') : TmO base w t := ⟨own_base h.p hb, own_base h.k hb⟩
theorem put_grownG : ∀ (vs : List Value) (w : World) (g m : Nat), w.grownBy (putG w g m vs) (some g)
  | [], w, g, m => World.grownBy.refl _ _
  | v :: vs, w, g, m => (gset (World.grownBy.refl w (some g)) m v).trans (put_grownG vs _ g (m + 1))

set_option maxRecDepth 100000 in
set_option maxHeartbeats 1000000 in
theorem toTryS_any (ao : Option Addr) (l : List Tm) (ca : Nat) (w : World) (hl : l.length ≤ 1048576) (hA : RdG tmC 7 w ao l) (hS : ∀ t ∈ l, TmR0 w t ∧ t.y.ps.length ≤ 1048576 ∧ t.y.tk.length ≤ 1048576) :
    Calls Try.prog 68 #[.slice ao l.length ca] w fun e w' => (∃ b c, e = .returned (.slice b l.length c) ∧ ∃ L' : List Tm, L'.map (·.y) = l.map (·.y) ∧ w'.ownsRow w.heap.size 47 7 (.slice b l.length c) l.length (rowG tmC L') ∧ ∀ t ∈ L', TmO w.heap.size w' t) ∧ Below w.heap.size w w' := by
  obtain ⟨i0, hi, hz0, hz1, hz2⟩ := info_parts Try.infoT
  have HA := hide1 hA
  have HS := hide1 hS
  clear hA hS
  go_enter Try.func68, Try.ntmps68
  go_wp2_with (at_make; (refine wpList_make_full _ rfl _ _ 28 rfl w.heap.size 47 i0 (.agg #[.int .i64 0, .int .i64 0, .string ⟨#[]⟩, .slice none 0 0, .bool false, .slice none 0 0, .bool false]) 7 Try.underlying28 hi hz0 hz1 _ _ _ _ l.length rfl rfl rfl rfl (by rw [hz2]; omega) (by unfold maxLen; omega) (Nat.le_refl _) ?_; intro w0 hown0 hg0))
  rw [made7] at hown0
  have HO := hide1 hown0
  have lw0 : w.heap.size < w0.heap.size := (hown0.lt w.heap.size rfl).2
  clear hown0
  go_loopw [4] (fun iv wr => ∃ i : Nat, i ≤ l.length ∧ iv = .int .i64 (i : Int) ∧ ∃ L' : List Tm, Hid (L'.length = i ∧ L'.map (·.y) = (l.take i).map (·.y)) ∧ Hid (wr.ownsRow w.heap.size 47 7 (.slice (some ⟨w.heap.size, 0, none⟩) l.length l.length) l.length (rowG tmC (L' ++ List.replicate (l.length - i) zTm))) ∧ Hid (∀ t ∈ L', TmO (w.heap.size + 1) wr t) ∧ Hid (Below w.heap.size w wr)) (fun iv _ => l.length - (intOf iv).toNat)
  case atStart => exact ⟨0, by omega, rfl, [], hide1 ⟨rfl, rfl⟩, hide1 (by simpa using HO.out), hide1 (fun t ht => by simp at ht), hide1 (Below.grown (Below.refl _ _) hg0 (Nat.le_refl _) (by intro k hk; cases hk))⟩
  case round =>
    obtain ⟨i, hi, rfl, L', hL, HO1, HT, HB⟩ := hrel
    by_cases hlt : i < l.length
    · have k1 : (i : Int) < (l.length : Int) := by omega
      obtain ⟨b, o, rfl, hb, h1⟩ := HA.out i hlt
      obtain ⟨x0, x1, x2, x3, x4, x5, x6⟩ := tmCells (cellsLater h1 HB.out hb)
      have hq : l[i]? = some l[i] := List.getElem?_eq_getElem hlt
      have m1 := HS.out _ (List.mem_of_getElem? hq)
      have HTK := hide1 (show (l.take (i + 1)).map (·.y) = (l.take i).map (·.y) ++ [l[i].y] by rw [List.take_succ_eq_append_getElem hlt, List.map_append]; rfl)
      generalize l[i] = t at *
      have cc := hide1 (fun (w' : World) (h : Below w.heap.size w w') => toTry_any t w' m1.2.1 m1.2.2 (m1.1.later h))
      have lwr : w.heap.size < wr.heap.size := (HO1.out.lt w.heap.size rfl).2
      clear h1 hq m1
      go_wp2_with fail
      refine (cc.out _ HB.out).mono ?_
      rintro e w2 ⟨⟨pa, pc, ka, kc, rfl, hT⟩, hb2⟩
      have o2 := own_kept HO1.out hb2
      have T2 := hide1 (fun u hu => (HT.out u hu).kept hb2)
      have N2 := hide1 (hT.base (show w.heap.size + 1 ≤ wr.heap.size by omega))
      have B2 := hide1 (HB.out.trans (hb2.mono HB.out.size))
      obtain ⟨u0, y0⟩ := own_some o2 (i * 7) (by omega)
      obtain ⟨u1, y1⟩ := own_some o2 (i * 7 + 1) (by omega)
      obtain ⟨u2, y2⟩ := own_some o2 (i * 7 + 2) (by omega)
      obtain ⟨u3, y3⟩ := own_some o2 (i * 7 + 3) (by omega)
      obtain ⟨u4, y4⟩ := own_some o2 (i * 7 + 4) (by omega)
      obtain ⟨u5, y5⟩ := own_some o2 (i * 7 + 5) (by omega)
      obtain ⟨u6, y6⟩ := own_some o2 (i * 7 + 6) (by omega)
      have f0 := o2.frozenAt (i * 7)
      have f1 := o2.frozenAt (i * 7 + 1)
      have f2 := o2.frozenAt (i * 7 + 2)
      have f3 := o2.frozenAt (i * 7 + 3)
      have f4 := o2.frozenAt (i * 7 + 4)
      have f5 := o2.frozenAt (i * 7 + 5)
      have f6 := o2.frozenAt (i * 7 + 6)
      have O2 := hide1 o2
      clear o2 hT hb2 x0 x1 x2 x3 x4 x5 x6 HB HO1 HT
      go_wp2
      go_roundw
      case rel =>
        have hg := put_grownG (tmC ⟨t.y, pa, pc, ka, kc⟩) w2 w.heap.size (i * 7)
        refine ⟨i + 1, by omega, by go_num, L' ++ [⟨t.y, pa, pc, ka, kc⟩], hide1 ⟨by rw [List.length_append, hL.out.1]; rfl, by rw [HTK.out, List.map_append, hL.out.2]; rfl⟩, hide1 ?_, hide1 (fun u hu => ?_), hide1 (below_putG (tmC ⟨t.y, pa, pc, ka, kc⟩) (i * 7) B2.out (Nat.le_refl _))⟩
        · have := own_putG (tmC ⟨t.y, pa, pc, ka, kc⟩) (i * 7) O2.out
          have hset := rowG_set tmC 7 encT.len (L' ++ List.replicate (l.length - i) zTm) i ⟨t.y, pa, pc, ka, kc⟩ (by rw [List.length_append, hL.out.1]; simp; omega)
          rw [← hset] at this
          have he : (L' ++ List.replicate (l.length - i) zTm).set i ⟨t.y, pa, pc, ka, kc⟩ = L' ++ [⟨t.y, pa, pc, ka, kc⟩] ++ List.replicate (l.length - (i + 1)) zTm := by
            have hl2 := hL.out.1
            rw [List.set_append_right _ _ (by omega), hl2, Nat.sub_self, show l.length - i = (l.length - (i + 1)) + 1 by omega, List.replicate_succ, List.set_cons_zero, List.append_assoc]
            rfl
          rw [he] at this
          exact this
        · rcases List.mem_append.1 hu with hu | hu
          · exact (T2.out u hu).far1 hg (Nat.lt_succ_self _)
          · rw [List.mem_singleton] at hu
            subst hu
            exact N2.out.far1 hg (Nat.lt_succ_self _)
      case measure => simp [intOf]; omega
    · obtain rfl : i = l.length := by omega
      go_wp2
      go_ret
      have ho := HO1.out
      rw [Nat.sub_self, List.replicate_zero, List.append_nil] at ho
      have hy := hL.out.2
      rw [List.take_length] at hy
      exact ⟨⟨_, _, rfl, L', hy, ho, fun t ht => (HT.out t ht).base (Nat.le_succ _)⟩, HB.out⟩
end Go.Proofs.Ytmejdblobikclaa
