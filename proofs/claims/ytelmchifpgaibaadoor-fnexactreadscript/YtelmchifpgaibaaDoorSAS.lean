/- strings.Split at a comma gives the pieces; the program's readView. -/
import Derived.Test.YtelmchifpgaibaaDoorSAN
import Derived.Test.YtelmchifpgaibaaDoorSplit
import Derived.Test.YtelmchifpgaibaaDoorSAL
import Derived.Test.YtelmchifpgaibaaDoorSAC
import Derived.Test.YtelmchifpgaibaaDoorSAH
namespace Go.Proofs.YtelmchifpgaibaaDoor
open Go.RowKit
set_option linter.unusedVariables false

def comma : ByteArray := ⟨#[44]⟩
theorem byt_extract (s : ByteArray) (b e j : Nat) (h : b + j < e) (he : e ≤ s.size) : byt (s.extract b e) j = byt s (b + j) := by
  unfold byt
  rw [Lib.extract_data]
  rw [List.getElem?_take, if_pos (by omega), List.getElem?_drop]
theorem occ_comma (t : ByteArray) (j : Nat) (hj : j < t.size) : Lib.occAt t.data.toList comma.data.toList j = (byt t j == 44) := by
  have h := byt_some t j hj
  have hb := byt_le t j
  unfold Lib.occAt
  rw [show comma.data.toList = [44] from rfl, List.drop_eq_getElem_cons (by simpa using hj)]
  have e : t.data.toList[j]'(by simpa using hj) = UInt8.ofNat (byt t j) := by
    rw [List.getElem?_eq_getElem (by simpa using hj)] at h
    exact Option.some.inj h
  rw [e]
  have i : (44 = UInt8.ofNat (byt t j)) ↔ byt t j = 44 := by
    constructor
    · intro h
      have := congrArg UInt8.toNat h
      rw [UInt8.toNat_ofNat', Nat.mod_eq_of_lt (by omega)] at this
      exact this.symm
    · intro h; rw [h]; rfl
  by_cases c : byt t j = 44
  · rw [c]; rfl
  · have c2 : (44 == UInt8.ofNat (byt t j)) = false := by
      rw [beq_eq_false_iff_ne]; exact fun h => c (i.1 h)
    have c3 : (byt t j == 44) = false := by rw [beq_eq_false_iff_ne]; exact c
    rw [c3]
    simp only [List.isPrefixOf, c2, Bool.false_and]
theorem index_comma (t : ByteArray) : (Lib.indexB t comma = -1 ∧ ∀ j, j < t.size → byt t j ≠ 44) ∨ ∃ i : Nat, Lib.indexB t comma = i ∧ i < t.size ∧ byt t i = 44 ∧ ∀ j, j < i → byt t j ≠ 44 := by
  rcases Lib.index_spec t.data.toList comma.data.toList with ⟨h1, h2⟩ | ⟨i, h1, h2, h3, h4⟩
  · refine .inl ⟨h1, fun j hj e => ?_⟩
    have := h2 j (by simp; omega)
    rw [occ_comma t j hj, e] at this
    exact absurd this (by decide)
  · have hr := Lib.index_room t.data.toList comma.data.toList (by rw [h1]; omega)
    rw [h1] at hr
    have hi : i < t.size := by
      have e1 : comma.data.toList.length = 1 := rfl
      have e2 : t.data.toList.length = t.size := by simp
      rw [e1, e2] at hr
      omega
    rw [occ_comma t i hi] at h3
    refine .inr ⟨i, h1, hi, by simpa using h3, fun j hj e => ?_⟩
    have := h4 j hj
    rw [occ_comma t j (by omega), e] at this
    exact absurd this (by decide)
theorem split_pieces (s : ByteArray) : ∀ (n b : Nat), s.size - b = n → b ≤ s.size → (cuS 44 s b).1 = b → piecesL s = (cuS 44 s b).2 ++ Lib.splitB comma 0 (Lib.countB (s.extract b s.size) comma) (s.extract b s.size) := by
  intro n
  induction n using Nat.strongRecOn with
  | ind n ih =>
    intro b hn hb h0
    have ts : (s.extract b s.size).size = s.size - b := by rw [ByteArray.size_extract]; omega
    have hst : (b, (cuS 44 s b).2) = cuS 44 s b := Prod.ext h0.symm rfl
    have bt : ∀ j, j < s.size - b → byt (s.extract b s.size) j = byt s (b + j) := fun j hj => byt_extract s b s.size j (by omega) (Nat.le_refl _)
    rcases index_comma (s.extract b s.size) with ⟨h1, h2⟩ | ⟨i, h1, h2, h3, h4⟩
    · rw [Lib.countB_miss _ _ h1, Lib.splitB_zero]
      have run := cuS_run hst (s.size - b) (by omega) (fun j hj => by rw [← bt j hj]; exact h2 j (by rw [ts]; exact hj))
      rw [show b + (s.size - b) = s.size by omega] at run
      have := cuS_part run (by omega)
      unfold piecesL
      rw [← this]
    · rw [ts] at h2
      rw [Lib.countB_hit _ _ i (by decide) h1, Nat.add_comm 1, Lib.splitB_hit _ _ _ _ i h1]
      have run := cuS_run hst i (by omega) (fun j hj => by rw [← bt j (by omega)]; exact h4 j hj)
      have part := cuS_part run (by rw [← bt i h2, h3]; exact fun h => h.2 rfl)
      have e0 : (s.extract b s.size).extract 0 (i + 0) = s.extract b (b + i) := by
        rw [ByteArray.extract_extract]; congr 1 <;> omega
      have e1 : (s.extract b s.size).extract (i + comma.size) (s.extract b s.size).size = s.extract (b + i + 1) s.size := by
        rw [ts, ByteArray.extract_extract]; congr 1 <;> first | rfl | omega
      rw [e0, e1]
      have := ih (s.size - (b + i + 1)) (by omega) (b + i + 1) rfl (by omega) (by rw [← part])
      rw [this, ← part]
      simp
theorem split_all (s : ByteArray) : Lib.splitB comma 0 (Lib.countB s comma) s = piecesL s := by
  have := split_pieces s s.size 0 (by omega) (Nat.zero_le _) rfl
  rw [this]
  have e : s.extract 0 s.size = s := by simp
  rw [e]
  rfl
theorem count_pieces (s : ByteArray) : Lib.countB s comma + 1 = (piecesL s).length := by
  have h : ∀ (n : Nat) (t : ByteArray), t.size = n → (Lib.splitB comma 0 (Lib.countB t comma) t).length = Lib.countB t comma + 1 := by
    intro n
    induction n using Nat.strongRecOn with
    | ind n ih =>
      intro t ht
      rcases index_comma t with ⟨h1, _⟩ | ⟨i, h1, h2, _⟩
      · rw [Lib.countB_miss _ _ h1]; rfl
      · rw [Lib.countB_hit _ _ i (by decide) h1, Nat.add_comm 1, Lib.splitB_hit _ _ _ _ i h1, List.length_cons]
        have hs : (t.extract (i + comma.size) t.size).size < n := by rw [ByteArray.size_extract]; have : comma.size = 1 := rfl; omega
        rw [ih _ hs _ rfl]
  rw [← h s.size s rfl, split_all]
/-- The library's MaxLen is a number. -/
def MaxL (w : World) : Prop := ∃ m, w.cell? ⟨0, 0, none⟩ = some (.int .i64 m) ∧ 0 < w.heap.size
theorem MaxL.later {w w' : World} (h : MaxL w) (hb : Below w.heap.size w w') : MaxL w' := by
  obtain ⟨m, h1, h2⟩ := h
  exact ⟨m, (hb.cell (p := ⟨0, 0, none⟩) h2).trans h1, Nat.lt_of_lt_of_le h2 hb.size⟩
theorem split_any (s : ByteArray) (w : World) (hs : s.size ≤ 4000) (hm : MaxL w) :
    Calls Tryd.prog 55 #[.string s, .string ⟨#[44]⟩] w fun e w' => e = .returned (.slice (some ⟨w.heap.size, 0, none⟩) (piecesL s).length (piecesL s).length) ∧ RdQ w' (some ⟨w.heap.size, 0, none⟩) (piecesL s) ∧ Below w.heap.size w w' := by
  obtain ⟨m, hm, _⟩ := hm
  refine (Any.strings_Split lays146 (by kernel_rfl) s comma m w (by omega) hm (by decide)).mono ?_
  rintro e w' ⟨rfl, rfl⟩
  rw [split_all, count_pieces]
  refine ⟨rfl, fun i hi => ⟨w.heap.size, 0, rfl, by rw [World.size_alloc]; omega, ?_⟩, (Below.refl _ _).alloc (Nat.le_refl _) _⟩
  have hB := Blk.new w (lays146_ren.t 9) ((piecesL s).map Value.string).toArray
  rw [hB.cell (0 + i), Nat.zero_add]
  simp [hi]

set_option maxRecDepth 100000 in
set_option maxHeartbeats 2000000 in
theorem readView_any (s : ByteArray) (w : World) (hs : s.size ≤ 4000) (ht : Tens w) (hm : MaxL w) :
    Calls Tryd.prog 47 #[.string s] w fun e w' => ∃ b c, e = .returned (.tuple #[.slice b ((viewOf s).getD []).length c, .bool (viewOf s).isSome]) ∧ OwnK w' w.heap.size b c ((viewOf s).getD []) ∧ Below w.heap.size w w' := by
  obtain ⟨i0, hi, hz0, hz1, hz2⟩ := info_parts Tryd.infoZ
  have C := hide1 (split_any s w hs hm)
  have HT := hide1 ht
  clear hm ht
  have SZ := hide1 (piecesL_size s)
  have SL := hide1 (show (piecesL s).length ≤ 4001 from by have := (cuS_le 44 s (s.size + 1)).2; unfold piecesL; omega)
  have VW := hide1 (show viewOf s = numsL (piecesL s) from rfl)
  generalize piecesL s = L at *
  generalize viewOf s = V at *
  obtain ⟨n, hn⟩ : ∃ n, n = L.length := ⟨_, rfl⟩
  rw [← hn] at C SL
  have nle : n ≤ 4001 := SL.out
  have HN := hide1 hn
  clear hn
  go_enter Tryd.func47, Tryd.ntmps47
  go_wp2_with fail
  refine C.out.mono ?_
  rintro e v0 ⟨rfl, hR, hB0⟩
  have RQ := hide1 hR
  have E0 := hide1 hB0
  have s0 : w.heap.size ≤ v0.heap.size := hB0.size
  clear hR hB0 C
  generalize (some ⟨w.heap.size, 0, none⟩ : Option Addr) = aw at RQ ⊢
  go_wp2
  go_loopw [4, 12] (fun ov iv wr => ∃ (i : Nat) (v : List Int) (ob : Option Addr) (oc : Nat), i ≤ n ∧ iv = .int .i64 (i : Int) ∧ ov = .slice ob v.length oc ∧ Hid (v.length = i) ∧ Hid (numsL (L.take i) = some v) ∧ Hid (OwnK wr v0.heap.size ob oc v) ∧ Hid (Below v0.heap.size v0 wr)) (fun _ iv _ => n - (intOf iv).toNat)
  case atStart => exact ⟨0, [], none, 0, Nat.zero_le _, rfl, rfl, hide1 rfl, rfl, hide1 ⟨rfl, .inl ⟨rfl, rfl⟩⟩, hide1 (Below.refl _ _)⟩
  case round =>
    obtain ⟨i, v, ob, oc, hi1, rfl, rfl, HVI, HV, HO, BB⟩ := hrel
    have vle : v.length ≤ 4001 := by have := HVI.out; omega
    have sb : v0.heap.size ≤ wr.heap.size := BB.out.size
    by_cases hlt : i < n
    · have k1 : (i : Int) < (n : Int) := by omega
      have k0 : (0 : Int) ≤ (i : Int) := by omega
      have hL : i < L.length := by have := HN.out; omega
      obtain ⟨g, o, rfl, hg, hc⟩ := RQ.out i hL
      have x0 : wr.cell? ⟨g, o + i, none⟩ = some (.string L[i]) := (BB.out.cell (p := ⟨g, o + i, none⟩) hg).trans hc
      have C := hide1 (implReadDec_any L[i] wr (by have := SZ.out L[i] (List.getElem_mem hL); omega) (Tens.later (Tens.later (show Tens w from HT.out) E0.out) BB.out))
      have YES := hide1 (fun (h : rdB L[i] = true) => numsL_yes HV.out h)
      have NO := hide1 (fun (h : rdB L[i] = false) => numsL_no HV.out h (L.drop (i + 1)))
      have TK := hide1 (List.take_succ_eq_append_getElem hL)
      have DR := hide1 (show L.take i ++ [L[i]] ++ L.drop (i + 1) = L by rw [← List.take_succ_eq_append_getElem hL, List.take_append_drop])
      have hown : wr.ownsRow v0.heap.size 3 1 (.slice ob v.length oc) v.length (iz v) := HO.out
      clear hc
      generalize L[i] = x at *
      cases hx2 : rdB x with
      | true =>
        have HY := hide1 (show rdDec x = .tuple #[.int .i64 (numOf x), .bool true] by unfold rdDec; rw [hx2]; rfl)
        have NX := hide1 (YES.out hx2)
        rw [HY.out] at C
        clear YES NO HY hx2
        go_wp2_with fail
        refine C.out.mono ?_
        rintro e w5 ⟨rfl, hb5⟩
        have hown5 := own_kept hown hb5
        have hs5 : v0.heap.size ≤ w5.heap.size := Nat.le_trans sb hb5.size
        go_wp2_with (at_builtin; (refine wpList_push1 rfl _ _ 35 rfl v0.heap.size 3 i0 (.int .i64 0) 8 Tryd.underlying35 hi hz0 hz1 hz2 rfl (by decide) _ v.length (iz v) rfl hown5 (.int .i64 (numOf x)) rfl rfl (by omega) hs5 ?_; intro v' w7 hown' hb'))
        go_roundw
        case rel =>
          have h8 : w7.ownsRow v0.heap.size 3 1 v' (v.length + 1) (iz (v ++ [numOf x])) := by rw [iz_append]; exact hown'
          obtain ⟨b', c', rfl, h9, _⟩ := own_iz h8
          exact ⟨i + 1, v ++ [numOf x], b', c', by omega, by go_num, by rw [List.length_append, List.length_cons, List.length_nil], hide1 (by rw [List.length_append, List.length_cons, List.length_nil]; have := HVI.out; omega), by rw [TK.out]; exact NX, hide1 h9, hide1 (BB.out.trans ((hb5.mono sb).trans hb'))⟩
        case measure => simp [intOf] <;> omega
      | false =>
        have HY := hide1 (show rdDec x = .tuple #[.int .i64 0, .bool false] by unfold rdDec; rw [hx2]; rfl)
        have NX := hide1 (show V = none by rw [VW.out, ← DR.out]; exact NO.out hx2)
        rw [HY.out] at C
        clear YES NO HY hx2 DR
        go_wp2_with fail
        refine C.out.mono ?_
        rintro e w5 ⟨rfl, hb5⟩
        go_wp2
        go_ret2
        rw [NX.out]
        exact ⟨none, 0, rfl, ⟨rfl, .inl ⟨rfl, rfl⟩⟩, E0.out.trans ((BB.out.trans (hb5.mono sb)).mono s0)⟩
    · obtain rfl : i = n := by omega
      have k1 : ¬ ((i : Int) < (i : Int)) := by omega
      have RES := hide1 (show V = some v by rw [VW.out, ← HV.out, HN.out, List.take_length])
      clear HV
      go_wp2
      go_ret2
      rw [RES.out]
      exact ⟨ob, oc, rfl, HO.out.base s0, E0.out.trans (BB.out.mono s0)⟩
end Go.Proofs.YtelmchifpgaibaaDoor
namespace Go.Proofs.YtelmchifpgaibaaDoor
open Go.RowKit
set_option linter.unusedVariables false

set_option maxRecDepth 100000 in
set_option maxHeartbeats 1000000 in
theorem indexV_any (a : Option Addr) (ca : Nat) (l : List Int) (f : Int) (w : World) (hl : l.length ≤ 1048576) (hR : RdZ w a l) :
    Calls Tryd.prog 69 #[.slice a l.length ca, .int .i64 f] w fun e w' => (∃ z : Int, e = .returned (.int .i64 z) ∧ decide (0 ≤ z) = decide (f ∈ l) ∧ -1 ≤ z ∧ z ≤ 1048576) ∧ w' = w := by
  have HR := hide1 hR
  clear hR
  go_enter Tryd.func69, Tryd.ntmps69
  go_wp2
  go_loopw [8] (fun iv wr => ∃ i : Nat, i ≤ l.length ∧ iv = .int .i64 (i : Int) ∧ Hid (¬ f ∈ l.take i) ∧ wr = w) (fun iv _ => l.length - (intOf iv).toNat)
  case atStart => exact ⟨0, by omega, rfl, hide1 (by simp), rfl⟩
  case round =>
    obtain ⟨i, hi, rfl, ha, rfl⟩ := hrel
    by_cases hlt : i < l.length
    · have k1 : (i : Int) < (l.length : Int) := by omega
      have k0 : (0 : Int) ≤ (i : Int) := by omega
      obtain ⟨b, q, rfl, hb, x0⟩ := HR.out i hlt
      have HN := hide1 (show ¬ l[i] = f → ¬ f ∈ l.take (i + 1) from fun hne hm => by
        rw [List.take_succ_eq_append_getElem hlt, List.mem_append] at hm
        rcases hm with hm | hm
        · exact ha.out hm
        · exact hne (List.mem_singleton.1 hm).symm)
      have HT := hide1 (show l[i] = f → f ∈ l from fun hq => hq ▸ List.getElem_mem hlt)
      clear ha
      generalize l[i] = s at *
      by_cases cf : s = f
      · have HT2 := hide1 (decide_eq_true (HT.out cf))
        have q1 : (f == s) = true := by simp [cf]
        have q2 : (s == f) = true := by simp [cf]
        clear cf
        go_wp2
        go_ret
        exact ⟨⟨(i : Int), rfl, by rw [HT2.out]; simp, by omega, by omega⟩, rfl⟩
      · have HN2 := hide1 (HN.out cf)
        have q1 : (f == s) = false := by rw [beq_eq_false_iff_ne]; exact fun e => cf e.symm
        have q2 : (s == f) = false := by rw [beq_eq_false_iff_ne]; exact cf
        clear cf
        go_wp2
        go_roundw
        case rel => exact ⟨i + 1, by omega, by go_num, HN2, trivial⟩
        case measure => simp [intOf]; omega
    · obtain rfl : i = l.length := by omega
      have k1 : ¬ ((l.length : Int) < (l.length : Int)) := by omega
      have hz := ha.out
      rw [List.take_length] at hz
      have HZ := hide1 hz
      clear hz ha
      go_wp2
      go_ret
      exact ⟨⟨-1, rfl, by first | exact ⟨fun h => by omega, fun h => absurd h HZ.out⟩ | (rw [decide_eq_false HZ.out]; rfl), by omega, by omega⟩, rfl⟩
set_option maxRecDepth 100000 in
theorem containsV_any (a : Option Addr) (ca : Nat) (l : List Int) (f : Int) (w : World) (hl : l.length ≤ 1048576) (hR : RdZ w a l) :
    Calls Tryd.prog 62 #[.slice a l.length ca, .int .i64 f] w fun e w' => e = .returned (.bool (decide (f ∈ l))) ∧ w' = w := by
  have C := hide1 (indexV_any a ca l f w hl hR)
  clear hR
  go_enter Tryd.func62, Tryd.ntmps62
  go_wp2_with fail
  refine C.out.mono ?_
  rintro e w1 ⟨⟨z, rfl, hz, _, _⟩, rfl⟩
  have HZ := hide1 hz
  clear hz
  go_wp2
  go_ret
  exact ⟨by rw [← HZ.out]; rfl, rfl⟩
end Go.Proofs.YtelmchifpgaibaaDoor
