/- Councils by the program: a new one; whether one value was chosen. -/
import Derived.Test.YtgehdgmllilmgaaYO
import Derived.Test.YtgehdgmllilmgaaCoO
namespace Go.Proofs.Ytgehdgmllilmgaa
open Go.RowKit
set_option linter.unusedVariables false

def zTm : Tm := ⟨zeroTy, none, 0, none, 0⟩
theorem made7 : ∀ n : Nat, (madeCells (Value.agg #[.int .i64 0, .int .i64 0, .string ⟨#[]⟩, .slice none 0 0, .bool false, .slice none 0 0, .bool false]).cells (n * 7)).toList = rowG tmC (List.replicate n zTm) := by
  intro n
  refine List.ext_getElem? fun j => ?_
  have hz : (Value.agg #[.int .i64 0, .int .i64 0, .string ⟨#[]⟩, .slice none 0 0, .bool false, .slice none 0 0, .bool false]).cells = #[.int .i64 0, .int .i64 0, .string ⟨#[]⟩, .slice none 0 0, .bool false, .slice none 0 0, .bool false] := rfl
  by_cases hj : j < n * 7
  · have h5 : j % 7 < 7 := Nat.mod_lt _ (by decide)
    have hr := rowG_at tmC 7 encT.len (List.replicate n zTm) (j / 7) (j % 7) (by simp; omega) h5
    rw [show j / 7 * 7 + j % 7 = j by omega, List.getElem_replicate] at hr
    rw [hr, hz]
    simp only [madeCells, Array.getElem?_toList]
    rw [Array.getElem?_map, Array.getElem?_range, if_pos hj]
    simp only [Option.map_some]
    show some ((#[Value.int .i64 0, .int .i64 0, .string ⟨#[]⟩, .slice none 0 0, .bool false, .slice none 0 0, .bool false] : Array Value)[j % 7]!) = _
    generalize j % 7 = q at h5
    match q, h5 with
    | 0, _ => rfl
    | 1, _ => rfl
    | 2, _ => rfl
    | 3, _ => rfl
    | 4, _ => rfl
    | 5, _ => rfl
    | 6, _ => rfl
    | q + 7, h => omega
  · rw [List.getElem?_eq_none (by simp [madeCells]; omega), List.getElem?_eq_none (by rw [rowG_length tmC 7 encT.len]; simp; omega)]
theorem newRow_set {n i : Nat} (h : i < n) : (rowG tmC ((List.range i).map newTm ++ List.replicate (n - i) zTm)).set (i * 7) (.int .i64 ((i : Int) + 1)) = rowG tmC ((List.range (i + 1)).map newTm ++ List.replicate (n - (i + 1)) zTm) := by
  obtain ⟨q, hq⟩ : ∃ q, n - i = q + 1 := ⟨n - i - 1, by omega⟩
  rw [hq, show n - (i + 1) = q by omega, List.replicate_succ, newTm_next, List.append_assoc]
  unfold rowG
  rw [List.flatMap_append, List.flatMap_append, List.flatMap_cons, List.singleton_append, List.flatMap_cons]
  have hl : (((List.range i).map newTm).flatMap tmC).length = i * 7 := by
    have := rowG_length tmC 7 encT.len ((List.range i).map newTm)
    unfold rowG at this
    rw [this]
    simp
  rw [List.set_append_right _ _ (by omega)]
  rw [hl, Nat.sub_self]
  rfl
theorem newC_cells (A : CA) (v t : Int) (n : Cn) : (cnC A n).toArray = #[.slice A.va n.vs.length A.vc, .slice A.ta n.ts.length A.tc, .slice A.na n.ns.length A.nc, .slice A.ca n.ch.length A.cc] := rfl
set_option maxRecDepth 100000 in
set_option maxHeartbeats 2000000 in
theorem implNewO_any (v t : Int) (w : World) :
    Calls Try.prog 22 #[.int .i64 v, .int .i64 t] w fun r w' => (∃ A, r = .returned (.tuple #[.agg (cnC A (newC v t)).toArray, .bool (decide (okNew v t))]) ∧ OwC w.heap.size w' A (newC v t)) ∧ Below w.heap.size w w' := by
  by_cases c : okNew v t
  · have HN := hide1 (show newC v t = newCn v.toNat t.toNat by unfold newC; rw [if_pos c])
    have HO := hide1 (decide_eq_true c)
    obtain ⟨⟨c1, c2⟩, c3, c4⟩ := id c
    clear c
    obtain ⟨vn, hvn⟩ : ∃ n : Nat, v = (n : Int) := ⟨v.toNat, by omega⟩
    obtain ⟨tn, htn⟩ : ∃ n : Nat, t = (n : Int) := ⟨t.toNat, by omega⟩
    subst hvn htn
    rw [Int.toNat_natCast, Int.toNat_natCast] at HN
    obtain ⟨i0, hi, hz0, hz1, hz2⟩ := info_parts Try.infoV
    obtain ⟨j0, hj, hy0, hy1, hy2⟩ := info_parts Try.infoT
    have MV := fun w' : World => run_make (P := Try.prog) w' 27 43 i0 _ Try.underlying27 hi hz0 .i64 .i64 (vn : Int) (vn : Int) (by omega) (by omega) (by rw [hz2]; omega) (by omega)
    have MT := fun w' : World => run_make (P := Try.prog) w' 28 47 j0 _ Try.underlying28 hj hy0 .i64 .i64 (tn : Int) (tn : Int) (by omega) (by omega) (by rw [hy2]; omega) (by omega)
    simp only [Int.toNat_natCast, hz1, hy1] at MV MT
    obtain ⟨ZV, hZV⟩ : ∃ Z, Z = madeCells (Value.agg #[.int .i64 0, .int .i64 0, .string ⟨#[]⟩]).cells (vn * 3) := ⟨_, rfl⟩
    obtain ⟨ZT, hZT⟩ : ∃ Z, Z = madeCells (Value.agg #[.int .i64 0, .int .i64 0, .string ⟨#[]⟩, .slice none 0 0, .bool false, .slice none 0 0, .bool false]).cells (tn * 7) := ⟨_, rfl⟩
    rw [← hZV] at MV
    rw [← hZT] at MT
    have HZV := hide1 (show ZV.toList = rowG voC (List.replicate vn zeroVo) by rw [hZV]; exact made3 vn)
    have HZT := hide1 (show ZT.toList = rowG tmC ((List.range 0).map newTm ++ List.replicate (tn - 0) zTm) by rw [hZT]; exact made7 tn)
    clear hZV hZT hi hz0 hz1 hz2 hj hy0 hy1 hy2 i0 j0
    have F0 := hide1 (And.intro (Blk.new w 32 #[.slice none 0 0, .slice none 0 0, .slice none 0 0, .slice none 0 0]) ((Below.refl w.heap.size w).alloc (Nat.le_refl _) (.cells #[.slice none 0 0, .slice none 0 0, .slice none 0 0, .slice none 0 0] 32)))
    go_enter Try.func22, Try.ntmps22
    go_upto_region 3 with fail
    generalize (w.alloc (.cells #[.slice none 0 0, .slice none 0 0, .slice none 0 0, .slice none 0 0] 32)) = u at F0 ⊢
    go_cut [6] (fun cv wx => ∃ C VB TB : Nat, cv = .pointer (some ⟨C, 0, none⟩) ∧ Hid (u.heap.size ≤ C ∧ u.heap.size ≤ VB ∧ u.heap.size ≤ TB ∧ VB ≠ TB ∧ C ≠ TB) ∧ Hid (Blk wx C 32 [.slice (some ⟨VB, 0, none⟩) vn vn, .slice (some ⟨TB, 0, none⟩) tn tn, .slice none 0 0, .slice none 0 0]) ∧ Hid (Blk wx VB 43 ZV.toList) ∧ Hid (Blk wx TB 47 ZT.toList) ∧ Hid (Below u.heap.size u wx))
    case first =>
      go_region_with fail
      all_goals go_wp2_with fail
      all_goals go_meet
      · exact ⟨u.heap.size + 1 + 1, u.heap.size, u.heap.size + 1, rfl, hide1 ⟨by omega, by omega, by omega, by omega, by omega⟩, hide1 (blkN3 u _ _ _ _ _ _).2.2.1, hide1 (blkN3 u _ _ _ _ _ _).1, hide1 (blkN3 u _ _ _ _ _ _).2.1, hide1 (blkN3 u _ _ _ _ _ _).2.2.2.drew⟩
      · exact ⟨u.heap.size + 1, u.heap.size, u.heap.size + 1 + 1, rfl, hide1 ⟨by omega, by omega, by omega, by omega, by omega⟩, hide1 (blkN3 u _ _ _ _ _ _).2.1, hide1 (blkN3 u _ _ _ _ _ _).1, hide1 (blkN3 u _ _ _ _ _ _).2.2.1, hide1 (blkN3 u _ _ _ _ _ _).2.2.2.drew⟩
      · exact ⟨u.heap.size + 1 + 1, u.heap.size + 1, u.heap.size, rfl, hide1 ⟨by omega, by omega, by omega, by omega, by omega⟩, hide1 (blkN3 u _ _ _ _ _ _).2.2.1, hide1 (blkN3 u _ _ _ _ _ _).2.1, hide1 (blkN3 u _ _ _ _ _ _).1, hide1 (blkN3 u _ _ _ _ _ _).2.2.2.drew⟩
      · exact ⟨u.heap.size + 1, u.heap.size + 1 + 1, u.heap.size, rfl, hide1 ⟨by omega, by omega, by omega, by omega, by omega⟩, hide1 (blkN3 u _ _ _ _ _ _).2.1, hide1 (blkN3 u _ _ _ _ _ _).2.2.1, hide1 (blkN3 u _ _ _ _ _ _).1, hide1 (blkN3 u _ _ _ _ _ _).2.2.2.drew⟩
      · exact ⟨u.heap.size, u.heap.size + 1, u.heap.size + 1 + 1, rfl, hide1 ⟨by omega, by omega, by omega, by omega, by omega⟩, hide1 (blkN3 u _ _ _ _ _ _).1, hide1 (blkN3 u _ _ _ _ _ _).2.1, hide1 (blkN3 u _ _ _ _ _ _).2.2.1, hide1 (blkN3 u _ _ _ _ _ _).2.2.2.drew⟩
      · exact ⟨u.heap.size, u.heap.size + 1 + 1, u.heap.size + 1, rfl, hide1 ⟨by omega, by omega, by omega, by omega, by omega⟩, hide1 (blkN3 u _ _ _ _ _ _).1, hide1 (blkN3 u _ _ _ _ _ _).2.2.1, hide1 (blkN3 u _ _ _ _ _ _).2.1, hide1 (blkN3 u _ _ _ _ _ _).2.2.2.drew⟩
    case rest =>
      obtain ⟨C, VB, TB, rfl, HC, KC, KV, KT, BX⟩ := hcut
      obtain ⟨d1, d2, d3, d4, d5⟩ := HC.out
      have lu : w.heap.size < u.heap.size := F0.out.1.lt
      have KR := hide1 (F0.out.1.below BX.out lu)
      have BW := hide1 (F0.out.2.trans (BX.out.mono F0.out.2.size))
      rw [HZV.out] at KV
      rw [HZT.out] at KT
      have lC : C < wc.heap.size := KC.out.lt
      have lT : TB < wc.heap.size := KT.out.lt
      have x1 : wc.cell? ⟨C, 1, none⟩ = some (.slice (some ⟨TB, 0, none⟩) tn tn) := KC.out.cell 1
      have hCT := HC.out.2.2.2.2
      clear d4 d5 F0 BX MV MT HZV HZT
      go_wp2
      go_loopw [31] (fun iv wr => ∃ i : Nat, i ≤ tn ∧ iv = .int .i64 (i : Int) ∧ Hid (Blk wr TB 47 (rowG tmC ((List.range i).map newTm ++ List.replicate (tn - i) zTm))) ∧ Hid (wc.grownBy wr (some TB))) (fun iv _ => tn - (intOf iv).toNat)
      case atStart => exact ⟨0, Nat.zero_le _, rfl, KT, hide1 (World.grownBy.refl _ _)⟩
      case round =>
        obtain ⟨i, hi, rfl, HT, HG⟩ := hrel
        have KC2 := hide1 (gblk HG.out KC.out (by intro e; injection e with e; exact hCT e.symm))
        have y1 : wr.cell? ⟨C, 1, none⟩ = some (.slice (some ⟨TB, 0, none⟩) tn tn) := KC2.out.cell 1
        by_cases hlt : i < tn
        · have k1 : (i : Int) < (tn : Int) := by omega
          have k0 : (0 : Int) ≤ (i : Int) := by omega
          have z0 : wr.frozen? ⟨TB, i * 7, none⟩ = false := HT.out.froz _
          obtain ⟨q, zc⟩ : ∃ q, wr.cell? ⟨TB, i * 7, none⟩ = some q := by
            rw [HT.out.cell]
            have hl : i * 7 < (rowG tmC ((List.range i).map newTm ++ List.replicate (tn - i) zTm)).length := by
              rw [rowG_length tmC 7 encT.len]
              simp
              omega
            exact ⟨_, List.getElem?_eq_getElem hl⟩
          go_wp2
          go_roundw
          case rel =>
            refine ⟨i + 1, by omega, by go_num, ?_, ?_⟩
            · have := Blk.set HT.out (i * 7) (.int .i64 ((i : Int) + 1))
              rw [newRow_set hlt] at this
              exact hide1 this
            · exact hide1 (gset HG.out _ _)
          case measure => simp [intOf]; omega
        · obtain rfl : i = tn := by omega
          have k1 : ¬ ((i : Int) < (i : Int)) := by omega
          have KV2 := hide1 (gblk HG.out KV.out (by intro e; injection e with e; have := HC.out.2.2.2.1; exact this e.symm))
          have KR2 := hide1 (gblk HG.out KR.out (by intro e; injection e with e; omega))
          have BR := hide1 (BW.out.trans (gbelow HG.out (fun g hg => by injection hg with hg; omega) (by omega) : Below w.heap.size wc wr))
          have y0 : wr.cell? ⟨C, 0, none⟩ = some (.slice (some ⟨VB, 0, none⟩) vn vn) := KC2.out.cell 0
          have y2 : wr.cell? ⟨C, 2, none⟩ = some (.slice none 0 0) := KC2.out.cell 2
          have y3 : wr.cell? ⟨C, 3, none⟩ = some (.slice none 0 0) := KC2.out.cell 3
          have r0 : wr.cell? ⟨w.heap.size, 0, none⟩ = some (.slice none 0 0) := KR2.out.cell 0
          have r1 : wr.cell? ⟨w.heap.size, 1, none⟩ = some (.slice none 0 0) := KR2.out.cell 1
          have r2 : wr.cell? ⟨w.heap.size, 2, none⟩ = some (.slice none 0 0) := KR2.out.cell 2
          have r3 : wr.cell? ⟨w.heap.size, 3, none⟩ = some (.slice none 0 0) := KR2.out.cell 3
          have rf : ∀ j, wr.frozen? ⟨w.heap.size, j, none⟩ = false := fun j => KR2.out.froz j
          have hRC : w.heap.size ≠ C := by omega
          go_wp2
          refine bodyPost_ret (resC2 Try.results22 _ _ w.heap.size 32 #[.slice (some ⟨VB, 0, none⟩) vn vn, .slice (some ⟨TB, 0, none⟩) i i, .slice none 0 0, .slice none 0 0] (0, 0) _ rfl (Blk.set (Blk.set (Blk.set (Blk.set KR2.out 0 _) 1 _) 2 _) 3 _) Try.underlying32 rfl (by kernel_rfl)) rfl ?_
          have hb9 : ∀ (a b c d : Value), Below w.heap.size w ((((wr.setCell ⟨w.heap.size, 0, none⟩ a).setCell ⟨w.heap.size, 1, none⟩ b).setCell ⟨w.heap.size, 2, none⟩ c).setCell ⟨w.heap.size, 3, none⟩ d) := fun a b c d => (((BR.out.setCell (p := ⟨w.heap.size, 0, none⟩) (Nat.le_refl _) a).setCell (p := ⟨w.heap.size, 1, none⟩) (Nat.le_refl _) b).setCell (p := ⟨w.heap.size, 2, none⟩) (Nat.le_refl _) c).setCell (p := ⟨w.heap.size, 3, none⟩) (Nat.le_refl _) d
          have hg9 : ∀ (a b c d : Value), wr.grownBy ((((wr.setCell ⟨w.heap.size, 0, none⟩ a).setCell ⟨w.heap.size, 1, none⟩ b).setCell ⟨w.heap.size, 2, none⟩ c).setCell ⟨w.heap.size, 3, none⟩ d) (some w.heap.size) := fun a b c d => gset (gset (gset (gset (World.grownBy.refl _ _) 0 a) 1 b) 2 c) 3 d
          have HT2 := HT.out
          rw [Nat.sub_self, List.replicate_zero, List.append_nil] at HT2
          have HOW := new_own (base := w.heap.size + 1) (by omega) (by omega) KV2.out HT2 (by omega) (by omega) HC.out.2.2.2.1
          rw [HN.out, HO.out]
          refine ⟨⟨_, ?_, (HOW.far (hg9 _ _ _ _) (Nat.lt_succ_self _)).base (Nat.le_succ _)⟩, hb9 _ _ _ _⟩
          simp [cnC, newCn]
  · have HN := hide1 (show newC v t = zeroCn by unfold newC; rw [if_neg c])
    have HO := hide1 (decide_eq_false c)
    have HB : ∀ o : Obj, Below w.heap.size w (w.alloc o) := fun o => (Below.refl _ _).alloc (Nat.le_refl _) o
    unfold okNew at c
    rw [HN.out, HO.out]
    by_cases c1 : v < 1
    · clear c
      go_enter Try.func22, Try.ntmps22
      go_wp2
      go_returns
      exact ⟨⟨nilA, rfl, nil_own _ _⟩, by go_grown⟩
    · by_cases c2 : 5 < v
      · clear c
        go_enter Try.func22, Try.ntmps22
        go_wp2
        go_returns
        exact ⟨⟨nilA, rfl, nil_own _ _⟩, by go_grown⟩
      · by_cases c3 : t < 1
        · clear c
          go_enter Try.func22, Try.ntmps22
          go_wp2
          go_returns
          exact ⟨⟨nilA, rfl, nil_own _ _⟩, by go_grown⟩
        · have c4 : 4 < t := by omega
          clear c
          go_enter Try.func22, Try.ntmps22
          go_wp2
          go_returns
          exact ⟨⟨nilA, rfl, nil_own _ _⟩, by go_grown⟩
theorem implNewC_any (v t : Int) (w : World) :
    Calls Try.prog 22 #[.int .i64 v, .int .i64 t] w fun r w' => (∃ A, r = .returned (.tuple #[.agg (cnC A (newC v t)).toArray, .bool (decide (okNew v t))]) ∧ ∀ B, B < w.heap.size ∨ w'.heap.size ≤ B → RdC12 (fun _ => True) w' B A (newC v t)) ∧ Below w.heap.size w w' :=
  (implNewO_any v t w).mono (fun r w' h => by
    obtain ⟨⟨A, e, h⟩, hb⟩ := h
    exact ⟨⟨A, e, fun B hB => h.rd hB (LoLe.all _)⟩, hb⟩)
theorem sameTo_zero (l : List ByteArray) : sameTo l 0 = true := by simp [sameTo]
set_option maxRecDepth 100000 in
set_option maxHeartbeats 1000000 in
theorem implOne0 (va ta na ca : Option Addr) (lv lt ln vc tc nc cc : Nat) (ch : List ByteArray) (w : World) (hl : ch.length ≤ 1048576) (hA : RdG txE 1 w ca ch) :
    Calls Try.prog 16 #[.agg #[.slice va lv vc, .slice ta lt tc, .slice na ln nc, .slice ca ch.length cc]] w fun e w' => e = .returned (.bool (oneL ch)) ∧ Below w.heap.size w w' := by
  have F0 := hide1 (And.intro (Blk.new w 32 #[.slice va lv vc, .slice ta lt tc, .slice na ln nc, .slice ca ch.length cc]) ((Below.refl w.heap.size w).alloc (Nat.le_refl _) (.cells #[.slice va lv vc, .slice ta lt tc, .slice na ln nc, .slice ca ch.length cc] 32)))
  have HA := hide1 (hA.later F0.out.2)
  clear hA
  go_enter Try.func16, Try.ntmps16
  go_upto_region 1 with fail
  generalize (w.alloc (.cells #[.slice va lv vc, .slice ta lt tc, .slice na ln nc, .slice ca ch.length cc] 32)) = u at F0 HA ⊢
  have lX : w.heap.size < u.heap.size := F0.out.1.lt
  have x3 : u.cell? ⟨w.heap.size, 3, none⟩ = some (.slice ca ch.length cc) := F0.out.1.cell 3
  go_wp2
  go_loopw [8] (fun iv wr => ∃ i : Nat, i ≤ ch.length ∧ iv = .int .i64 (i : Int) ∧ Hid (sameTo ch i = true) ∧ Hid (Below u.heap.size u wr)) (fun iv _ => ch.length - (intOf iv).toNat)
  case atStart => exact ⟨0, Nat.zero_le _, rfl, hide1 (sameTo_zero _), hide1 (Below.refl _ _)⟩
  case round =>
    obtain ⟨i, hi2, rfl, hs, HB⟩ := hrel
    have x3 : wr.cell? ⟨w.heap.size, 3, none⟩ = some (.slice ca ch.length cc) := (HB.out.cell lX).trans (F0.out.1.cell 3)
    by_cases hlt : i < ch.length
    · have k1 : (i : Int) < (ch.length : Int) := by omega
      have k2 : (0 : Int) < (ch.length : Int) := by omega
      have k3 : (0 : Int) ≤ (i : Int) := by omega
      obtain ⟨b, o, rfl, hbl, hc⟩ := HA.out i hlt
      obtain ⟨b', o', hb', hbl', hc'⟩ := HA.out 0 (by omega)
      injection hb' with hb'
      injection hb' with e1 e2
      subst e1 e2
      have y0 : wr.cell? ⟨b, o + i, none⟩ = some (.string ch[i]) := by
        have := (HB.out.cell (p := ⟨b, o + i * 1 + 0, none⟩) hbl).trans (hc 0 (by omega))
        rw [Nat.mul_one] at this
        exact this
      have y1 : wr.cell? ⟨b, o, none⟩ = some (.string ch[0]) := by
        have := (HB.out.cell (p := ⟨b, o + 0 * 1 + 0, none⟩) hbl').trans (hc' 0 (by omega))
        exact this
      have hd : ch.headD ⟨#[]⟩ = ch[0] := headD_get (by omega)
      have HN := hide1 (show (ch[i].toList == ch[0].toList) = true → sameTo ch (i + 1) = true by
        intro hq
        by_cases h1 : 1 ≤ i
        · rw [sameTo_next h1 hlt, hs.out, hd, hq]; rfl
        · obtain rfl : i = 0 := by omega
          exact sameTo_one _)
      have HM := hide1 (show (ch[i].toList == ch[0].toList) = false → oneL ch = false by
        intro hq
        by_cases h1 : 1 ≤ i
        · exact sameTo_more h1 hlt (by rw [sameTo_next h1 hlt, hs.out, hd, hq]; rfl)
        · obtain rfl : i = 0 := by omega
          rw [beq_self_eq_true] at hq
          cases hq)
      clear hc hc' hd hs HA
      generalize ch[i] = z at *
      generalize ch[0] = z0 at *
      cases cz : (z.toList == z0.toList)
      · have q : (z.toList != z0.toList) = true := by simp [bne, cz]
        have HQ := hide1 (HM.out cz)
        clear HN HM
        go_wp2
        go_ret
        exact ⟨by rw [HQ.out]; rfl, F0.out.2.trans (HB.out.mono F0.out.2.size)⟩
      · have q : (z.toList != z0.toList) = false := by simp [bne, cz]
        have HQ := hide1 (HN.out cz)
        clear HN HM
        go_wp2
        go_roundw
        case rel => exact ⟨i + 1, by omega, by go_num, HQ, HB⟩
        case measure => simp [intOf]; omega
    · have k1 : ¬ ((i : Int) < (ch.length : Int)) := by omega
      have HQ := hide1 (show oneL ch = true by
        have h : i = ch.length := by omega
        rw [← sameTo_all, ← h]; exact hs.out)
      go_wp2
      go_ret
      exact ⟨by rw [HQ.out]; rfl, F0.out.2.trans (HB.out.mono F0.out.2.size)⟩
theorem implOne_any (c : Cn) (A : CA) (w : World) (hl : c.ch.length ≤ 1048576) (hA : RdG txE 1 w A.ca c.ch) :
    Calls Try.prog 16 #[.agg #[.slice A.va c.vs.length A.vc, .slice A.ta c.ts.length A.tc, .slice A.na c.ns.length A.nc, .slice A.ca c.ch.length A.cc]] w fun e w' => e = .returned (.bool (oneL c.ch)) ∧ Below w.heap.size w w' := implOne0 _ _ _ _ _ _ _ _ _ _ _ _ w hl hA
end Go.Proofs.Ytgehdgmllilmgaa
