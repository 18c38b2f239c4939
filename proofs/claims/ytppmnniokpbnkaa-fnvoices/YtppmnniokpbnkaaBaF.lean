/- Drawn rows of notes. -/
import Derived.Test.YtppmnniokpbnkaaBaE
namespace Go.Proofs.Ytppmnniokpbnkaa
open Go.RowKit
set_option linter.unusedVariables false

/-- 'out = append(out, s)', s of k cells, out a row of the call's own. -/
theorem wpList_pushG {P : Program} {w : World} {ops : Array Oper} {rest : List Oper} {o : Oper} {a : Act} {Q : Exit → Act → World → Prop} (hgd : o.guard = none) (s x : Operand) (t : TypeId)
    (ho : o.op = .call { callee := .builtin .append, args := #[s, x], argTypes := #[t, t] })
    (base : Nat) (e : TypeId) (i : TypeInfo) (z : Value) (k bytes : Nat) (ht : P.underlying t = some (.slice e)) (hi : P.info? e = some i) (hz : i.zero = some z) (hsize : i.size = k) (hby : i.bytes = bytes) (hzc : z.cells.size = k) (hk0 : 0 < k) (hb64 : bytes ≤ 64)
    (v : Value) (n : Nat) (xs : List Value) (hs : a.eval s = v) (hown : w.ownsRow base e k v n xs) (us : List Value) (hul : us.length = k) (hu : ∀ u ∈ us, u.oneCell' = true)
    (hx : a.eval x = .slice (some ⟨w.heap.size, 0, none⟩) 1 1) (hlen : n ≤ 1048576) (hbase : base ≤ w.heap.size)
    (h : ∀ v' w', w'.ownsRow base e k v' (n + 1) (xs ++ us) → Below base w w' → wpList P ops Q rest (a.put o.dst v') w') :
    wpList P ops Q (o :: rest) a (w.alloc (.cells us.toArray e)) := by
  refine wpList_append_own _ hgd s x t ho base e i z k bytes ht hi hz hsize hby hzc hk0 v n xs hs (hown.alloc _) ⟨w.heap.size, 0, none⟩ 1 1 us hx (by rw [hul, Nat.one_mul]) ?_ hu ?_ ?_ ?_ ?_
  · intro j u hj
    have hB := Blk.new w e us.toArray
    rw [Addr.add_lit, Nat.zero_add]
    exact (hB.cell j).trans hj
  · unfold maxLen; omega
  · have : (n + 1) * bytes ≤ (n + 1) * 64 := Nat.mul_le_mul_left _ hb64
    omega
  · rw [World.size_alloc]; omega
  · intro v' w' h1 h2 _
    refine h v' w' h1 ?_
    refine Below.grown ((Below.refl _ _).alloc hbase _) h2 (by rw [World.size_alloc]; omega) ?_
    intro k hk
    exact (hown.lt k hk).1
theorem owns_emptyG (w : World) (e : TypeId) (k : Nat) : (w.alloc (.cells #[] e)).ownsRow w.heap.size e k (.slice (some ⟨w.heap.size, 0, none⟩) 0 0) 0 [] :=
  ⟨by simp, .inr ⟨w.heap.size, 0, #[], rfl, Nat.le_refl _, heap_alloc_new w _, Nat.le_refl _, Nat.zero_le _, by simp, by simp⟩⟩
theorem own_sliceG {w : World} {base n k : Nat} {e : TypeId} {v : Value} {xs : List Value} (h : w.ownsRow base e k v n xs) : ∃ ao cap, v = .slice ao n cap := by
  rcases h.2 with ⟨hv, h0⟩ | ⟨g, cap, cur, hv, _⟩
  · exact ⟨none, 0, by rw [h0]; exact hv⟩
  · exact ⟨_, cap, hv⟩
theorem rowG_append {α : Type} (enc : α → List Value) (l m : List α) : rowG enc (l ++ m) = rowG enc l ++ rowG enc m := by simp [rowG]
theorem ntC_one (m : Nt) : ∀ u ∈ ntC m, u.oneCell' = true := by
  intro u hu
  simp [ntC] at hu
  rcases hu with rfl | rfl | rfl | rfl | rfl | rfl <;> rfl

set_option maxRecDepth 100000 in
set_option maxHeartbeats 1000000 in
theorem drawNotes_any (w : World) (a : Option Addr) (len cap : Nat) (hc : Code w.heap.size w a len) :
    Calls Try.prog 11 #[.slice a len cap] w fun e w' => ∃ (l : List Nt) (wo : Option Addr) (c : Nat), e = .returned (.slice wo l.length c) ∧ l.length ≤ 13 ∧ (∀ m ∈ l, m.v.size ≤ 41) ∧ RdN6 w' wo l ∧ Below w.heap.size w w' := by
  obtain ⟨i0, hi, hz0, hz1, hz2⟩ := info_parts Try.infoNote
  go_enter Try.func11, Try.ntmps11
  go_wp2_with fail
  refine (new_any w a len cap hc).mono ?_
  rintro e w2 ⟨g, rfl, h2, hb2⟩
  have hgl := h2.lt
  have hba := h2.base
  have hBg := h2.cur.1
  have H := hide1 h2
  have B2 := hide1 hb2
  clear h2 hc hb2
  go_wp2
  go_loopw [4, 5] (fun v iv wr => ∃ (i : Nat) (acc : List Nt), i ≤ 13 ∧ iv = .int .i64 (i : Int) ∧ Hid (acc.length = i) ∧ acc.length ≤ 13 ∧ Hid (∀ m ∈ acc, m.v.size ≤ 41) ∧ wr.ownsRow w2.heap.size 29 6 v acc.length (rowG ntC acc) ∧ Hid (Drw w.heap.size wr a len cap g) ∧ Hid (w2.grownBy wr (some g))) (fun _ iv _ => 14 - (intOf iv).toNat)
  case atStart => exact ⟨0, [], by omega, rfl, rfl, by simp, hide1 (fun m hm => by cases hm), owns_emptyG w2 _ 6, hide1 (H.out.later ((Below.refl _ _).alloc (Nat.le_refl _) _)), World.grownBy_alloc w2 _ _⟩
  case round =>
    obtain ⟨i, acc, hin, rfl, hl, hle, hsm, hown, hD, hgr⟩ := hrel
    have hbs := hgr.out.size
    have HO := hide1 hown
    clear hown
    go_wp2_with fail
    refine (below_any hD.out 14 (by omega)).mono ?_
    rintro e w3 ⟨x, rfl, hx, _, hD1, hb1⟩
    have hx30 : x < 14 := by have := hx (by omega); omega
    have hown1 := hide1 (gown hb1 HO.out (fun k hk e => by have := (HO.out.lt k hk).1; injection e with e; omega))
    have hg1 := hide1 (gtrans hgr.out hb1)
    have D1 := hide1 hD1
    clear hD1 hx hb1 HO hD hgr
    by_cases hlt : i < x
    · have k1 : decide ((i : Int) < (x : Int)) = true := by simp; omega
      have hlt2 : acc.length < 13 := by have := hl.out; omega
      have CK := hide1 (noteD_any D1.out)
      go_wp2_with fail
      refine CK.out.mono ?_
      rintro e w4 ⟨z, rfl, hzs, hD4, hb4⟩
      unfold ntV
      have hown4 : w4.ownsRow w2.heap.size 29 6 u4 acc.length (rowG ntC acc) := gown hb4 hown1.out (fun k hk e => by have := (hown1.out.lt k hk).1; injection e with e; omega)
      have hg4 := hide1 (gtrans hg1.out hb4)
      have hs4 : w2.heap.size ≤ w4.heap.size := hg4.out.size
      have D4 := hide1 hD4
      have HSM := hide1 (show ∀ m ∈ acc ++ [z], m.v.size ≤ 41 from fun m hm => by
        rcases List.mem_append.1 hm with h | h
        · exact hsm.out m h
        · rw [List.mem_singleton.1 h]; exact hzs)
      clear hD4 hb4 CK hsm hzs
      go_wp2_with (at_builtin; (refine wpList_pushG rfl _ _ 24 rfl w2.heap.size 29 i0 (ntV zN) 6 56 Try.underlying24 hi hz0 hz1 hz2 rfl (by decide) (by decide) _ acc.length (rowG ntC acc) rfl hown4 (ntC z) rfl (ntC_one z) rfl (by omega) hs4 ?_; intro v' w5 hown' hb'))
      go_roundw
      case rel =>
        refine ⟨i + 1, acc ++ [z], by omega, by go_num, ?_, by simp; omega, HSM, ?_, hide1 (D4.out.keep hb' (by omega) hgl), ?_⟩
        · show (acc ++ [z]).length = i + 1; rw [List.length_append, hl.out]; rfl
        · rw [rowG_append, List.length_append, show rowG ntC [z] = ntC z by simp [rowG]]; exact hown'
        · refine ⟨hb'.os.trans hg4.out.os, hb'.tape.trans hg4.out.tape, hb'.output.trans hg4.out.output, Nat.le_trans hg4.out.size hb'.size, fun k hk hne => ?_⟩
          rw [hb'.block k hk, hg4.out.block k hk hne]
      case measure => simp [intOf]; omega
    · have k1 : decide ((i : Int) < (x : Int)) = false := by simp; omega
      obtain ⟨wo, c, rfl⟩ := own_sliceG hown1.out
      go_wp2
      go_ret
      exact ⟨acc, wo, c, rfl, hle, hsm.out, rdN6_of_own hown1.out rfl, B2.out.trans (gbelow hg1.out (fun k hk => by injection hk with e; omega) B2.out.size)⟩

set_option maxRecDepth 100000 in
set_option maxHeartbeats 1000000 in
theorem drawPick_any (w : World) (a : Option Addr) (len cap : Nat) (hc : Code w.heap.size w a len) :
    Calls Try.prog 15 #[.slice a len cap] w fun e w' => ∃ (l : List Nt) (wo : Option Addr) (c : Nat) (own : ByteArray), e = .returned (.tuple #[.slice wo l.length c, .string own]) ∧ l.length ≤ 4 ∧ (∀ m ∈ l, m.v.size ≤ 41) ∧ own.size ≤ 41 ∧ RdN6 w' wo l ∧ Below w.heap.size w w' := by
  obtain ⟨i0, hi, hz0, hz1, hz2⟩ := info_parts Try.infoNote
  go_enter Try.func15, Try.ntmps15
  go_wp2_with fail
  refine (new_any w a len cap hc).mono ?_
  rintro e w2 ⟨g, rfl, h2, hb2⟩
  have hgl := h2.lt
  have hba := h2.base
  have hBg := h2.cur.1
  have H := hide1 h2
  have B2 := hide1 hb2
  clear h2 hc hb2
  go_wp2
  go_loopw [5, 6] (fun v iv wr => ∃ (i : Nat) (acc : List Nt), i ≤ 4 ∧ iv = .int .i64 (i : Int) ∧ Hid (acc.length = i) ∧ acc.length ≤ 4 ∧ Hid (∀ m ∈ acc, m.v.size ≤ 41) ∧ wr.ownsRow w2.heap.size 29 6 v acc.length (rowG ntC acc) ∧ Hid (Drw w.heap.size wr a len cap g) ∧ Hid (w2.grownBy wr (some g))) (fun _ iv _ => 5 - (intOf iv).toNat)
  case atStart => exact ⟨0, [], by omega, rfl, rfl, by simp, hide1 (fun m hm => by cases hm), owns_emptyG w2 _ 6, hide1 (H.out.later ((Below.refl _ _).alloc (Nat.le_refl _) _)), World.grownBy_alloc w2 _ _⟩
  case round =>
    obtain ⟨i, acc, hin, rfl, hl, hle, hsm, hown, hD, hgr⟩ := hrel
    have hbs := hgr.out.size
    have HO := hide1 hown
    clear hown
    go_wp2_with fail
    refine (below_any hD.out 5 (by omega)).mono ?_
    rintro e w3 ⟨x, rfl, hx, _, hD1, hb1⟩
    have hx30 : x < 5 := by have := hx (by omega); omega
    have hown1 := hide1 (gown hb1 HO.out (fun k hk e => by have := (HO.out.lt k hk).1; injection e with e; omega))
    have hg1 := hide1 (gtrans hgr.out hb1)
    have D1 := hide1 hD1
    clear hD1 hx hb1 HO hD hgr
    by_cases hlt : i < x
    · have k1 : decide ((i : Int) < (x : Int)) = true := by simp; omega
      have hlt2 : acc.length < 4 := by have := hl.out; omega
      have CK := hide1 (noteD_any D1.out)
      go_wp2_with fail
      refine CK.out.mono ?_
      rintro e w4 ⟨z, rfl, hzs, hD4, hb4⟩
      unfold ntV
      have hown4 : w4.ownsRow w2.heap.size 29 6 u5 acc.length (rowG ntC acc) := gown hb4 hown1.out (fun k hk e => by have := (hown1.out.lt k hk).1; injection e with e; omega)
      have hg4 := hide1 (gtrans hg1.out hb4)
      have hs4 : w2.heap.size ≤ w4.heap.size := hg4.out.size
      have D4 := hide1 hD4
      have HSM := hide1 (show ∀ m ∈ acc ++ [z], m.v.size ≤ 41 from fun m hm => by
        rcases List.mem_append.1 hm with h | h
        · exact hsm.out m h
        · rw [List.mem_singleton.1 h]; exact hzs)
      clear hD4 hb4 CK hsm hzs
      go_wp2_with (at_builtin; (refine wpList_pushG rfl _ _ 24 rfl w2.heap.size 29 i0 (ntV zN) 6 56 Try.underlying24 hi hz0 hz1 hz2 rfl (by decide) (by decide) _ acc.length (rowG ntC acc) rfl hown4 (ntC z) rfl (ntC_one z) rfl (by omega) hs4 ?_; intro v' w5 hown' hb'))
      go_roundw
      case rel =>
        refine ⟨i + 1, acc ++ [z], by omega, by go_num, ?_, by simp; omega, HSM, ?_, hide1 (D4.out.keep hb' (by omega) hgl), ?_⟩
        · show (acc ++ [z]).length = i + 1; rw [List.length_append, hl.out]; rfl
        · rw [rowG_append, List.length_append, show rowG ntC [z] = ntC z by simp [rowG]]; exact hown'
        · refine ⟨hb'.os.trans hg4.out.os, hb'.tape.trans hg4.out.tape, hb'.output.trans hg4.out.output, Nat.le_trans hg4.out.size hb'.size, fun k hk hne => ?_⟩
          rw [hb'.block k hk, hg4.out.block k hk hne]
      case measure => simp [intOf]; omega
    · have k1 : decide ((i : Int) < (x : Int)) = false := by simp; omega
      obtain ⟨wo, c, rfl⟩ := own_sliceG hown1.out
      go_wp2_with fail
      refine (valueB_any D1.out).mono ?_
      rintro e w4 ⟨z, rfl, hz, h4, g4⟩
      have hown4 := hide1 (gown g4 hown1.out (fun k hk e => by have := (hown1.out.lt k hk).1; injection e with e; omega))
      have hg4 := hide1 (gtrans hg1.out g4)
      clear h4 g4
      go_wp2
      go_ret2
      exact ⟨acc, wo, c, z, rfl, hle, hsm.out, hz, rdN6_of_own hown4.out rfl, B2.out.trans (gbelow hg4.out (fun k hk => by injection hk with e; omega) B2.out.size)⟩
end Go.Proofs.Ytppmnniokpbnkaa
