/- The program's linesOf, isRemark. -/
import Derived.Test.YtelmchifpgaibaaDoorSAL
import Derived.Test.YtelmchifpgaibaaDoorSAI
import Derived.Test.YtelmchifpgaibaaDoorSAD
import Derived.Lib.OthersKept
import Derived.Test.YtelmchifpgaibaaDoorSAH
import Derived.Deep.RegionHeld3
namespace Go.Proofs.YtelmchifpgaibaaDoor
open Go.RowKit
set_option linter.unusedVariables false

theorem get_byt! (s : ByteArray) (k : Nat) (h : k < s.size) : (s.get! k).toNat = byt s k := by
  rw [← get_byt s k h]
  simp [ByteArray.get!, getElem!_pos, h]
  rfl
/-- What a step over a text's runes passes: as many bytes as the rune has; none but the first is the byte 10; the rune is 10 where its byte is. -/
theorem rune_span (s : ByteArray) (pos : Nat) (h : pos < s.size) : 1 ≤ (Utf8.decode s pos).2 ∧ pos + (Utf8.decode s pos).2 ≤ s.size ∧ (∀ j, 1 ≤ j → j < (Utf8.decode s pos).2 → byt s (pos + j) ≠ 10) ∧ ((Utf8.decode s pos).1 = 10 ↔ byt s pos = 10) ∧ (byt s pos = 10 → (Utf8.decode s pos).2 = 1) := by
  have h0 : (s.get! (pos + 0)).toNat = byt s pos := get_byt! s pos h
  have g1 : pos + 1 < s.size → (s.get! (pos + 1)).toNat = byt s (pos + 1) := get_byt! s (pos + 1)
  have g2 : pos + 2 < s.size → (s.get! (pos + 2)).toNat = byt s (pos + 2) := get_byt! s (pos + 2)
  have g3 : pos + 3 < s.size → (s.get! (pos + 3)).toNat = byt s (pos + 3) := get_byt! s (pos + 3)
  by_cases ha : byt s pos < 128
  · have e : Utf8.decode s pos = (byt s pos, 1) := by simp only [Utf8.decode, h0, ha, if_true]
    rw [e]
    exact ⟨Nat.le_refl _, h, fun j h1 h2 => absurd h2 (by dsimp only; omega), Iff.rfl, fun _ => rfl⟩
  · have hd := decode_high s pos h (by rw [get_byt]; omega)
    refine ⟨hd.2, ?_, ?_, ⟨fun e => by have := hd.1; omega, fun e => by omega⟩, fun e => by omega⟩
    · have hn : ¬ (s.get! (pos + 0)).toNat < 128 := by omega
      simp only [Utf8.decode, hn, if_false]
      repeat' split
      all_goals
        simp only [Bool.and_eq_true, decide_eq_true_eq, beq_iff_eq] at *
        omega
    · have hn : ¬ (s.get! (pos + 0)).toNat < 128 := by omega
      simp only [Utf8.decode, hn, if_false]
      repeat' split
      all_goals
        intro j h1 h2
        simp only [Bool.and_eq_true, decide_eq_true_eq, beq_iff_eq] at *
        first
          | (exfalso; omega)
          | (obtain rfl | rfl | rfl : j = 1 ∨ j = 2 ∨ j = 3 := by omega
             all_goals first | (have := g1 (by omega); omega) | (have := g2 (by omega); omega) | (have := g3 (by omega); omega))
theorem cuS_run {c : Nat} {s : ByteArray} {i b : Nat} {l : List ByteArray} (e : (b, l) = cuS c s i) : ∀ k, i + k ≤ s.size → (∀ j, j < k → byt s (i + j) ≠ c) → (b, l) = cuS c s (i + k)
  | 0, _, _ => e
  | k + 1, h, hn => cuS_skip (cuS_run e k (by omega) (fun j hj => hn j (by omega))) (show i + k < s.size by omega) (hn k (by omega))
theorem iter_grown (w : World) (k : Nat) (s : ByteArray) (pos : Nat) : w.grownBy (w.iterAt k s pos) (some k) :=
  ⟨rfl, rfl, rfl, Nat.le_of_eq (Lib.iterAt_size w k s pos).symm, fun j _ hne => Lib.iterAt_other w k j s pos (fun e => hne (congrArg some e))⟩

set_option maxRecDepth 100000 in
set_option maxHeartbeats 2000000 in
theorem linesOf_any (s : ByteArray) (w : World) (hs : s.size ≤ 4000) :
    Calls Tryd.prog 27 #[.string s] w fun e w' => ∃ v, e = .returned v ∧ w'.ownsRow w.heap.size 9 1 v (linesL s).length (sc (linesL s)) ∧ Below w.heap.size w w' := by
  obtain ⟨i0, hi, hz0, hz1, hz2⟩ := info_parts Tryd.info9
  go_enter Tryd.func27, Tryd.ntmps27
  go_wp2
  go_loopw [3, 4] (fun v bv wr => ∃ (pos b : Nat) (l : List ByteArray), pos ≤ s.size ∧ bv = .int .i64 (b : Int) ∧ Hid ((b, l) = cuS 10 s pos) ∧ b ≤ pos ∧ l.length ≤ pos ∧ wr.ownsRow (w.heap.size + 1) 9 1 v l.length (sc l) ∧ wr.heap[w.heap.size]? = some (.stringIter s pos) ∧ Below w.heap.size w wr) (fun _ _ wr => s.size - wr.iterPos w.heap.size)
  case atStart => exact ⟨0, 0, [], by omega, rfl, rfl, by omega, by simp, ⟨rfl, .inl ⟨rfl, rfl⟩⟩, World.iter_heap w s 0, (Below.refl _ _).alloc (Nat.le_refl _) _⟩
  case round =>
    obtain ⟨pos, b, l, hpo, rfl, hp, hbp, hlp, hown, hit, hbel⟩ := hrel
    have hsz : w.heap.size < wr.heap.size := (Array.getElem?_eq_some_iff.1 hit).1
    by_cases hlt : pos < s.size
    · have hnx : ∀ ty, (Instr.next (.pointer (some ⟨w.heap.size, 0, none⟩)) true ty).run Tryd.prog wr = _ := fun ty => Lib.run_next_any_at wr w.heap.size s pos ty hit hlt
      obtain ⟨h1, h2, h3, h4, h5⟩ := rune_span s pos hlt
      have hd1 := decode_le s pos
      generalize hD : Utf8.decode s pos = D at *
      have own2 := gown (iter_grown wr w.heap.size s (pos + D.2)) hown (fun g hg e => by injection e with e; have := (hown.lt g hg).1; omega)
      have hit2 := Lib.iterAt_heap wr w.heap.size s pos (pos + D.2) hit
      have hb2 := Lib.below_iterAt hbel (k := w.heap.size) (Nat.le_refl _) s (pos + D.2)
      have hsz2 : w.heap.size + 1 ≤ (wr.iterAt w.heap.size s (pos + D.2)).heap.size := by rw [Lib.iterAt_size]; omega
      by_cases c1 : byt s pos = 10
      · have e1 := h4.2 c1
        have e2 := h5 c1
        have hcut : Hid _ := (show ¬ (pos < s.size ∧ byt s pos ≠ 10) from fun hh => hh.2 c1)
        obtain ⟨d1, d2⟩ := D
        dsimp only at e1 e2 own2 hit2 hb2 hsz2
        subst e1 e2
        clear h1 h2 h3 h4 h5 hD hd1 c1
        go_wp2_with (at_builtin; (refine wpList_push1 rfl _ _ 31 rfl (w.heap.size + 1) 9 i0 (.string ⟨#[]⟩) 16 Tryd.underlying31 hi hz0 hz1 hz2 rfl (by decide) _ l.length (sc l) rfl own2 _ rfl rfl (by omega) hsz2 ?_; intro v' w1 hown' hb'))
        go_roundw
        case rel => exact ⟨pos + 1, pos + 1, l ++ [s.extract b pos], by omega, by go_num, cuS_part hp.out hcut.out, by omega, by simp; omega, by rw [sc_append, List.length_append]; exact hown', (hb'.block w.heap.size (by omega)).trans hit2, hb2.trans (hb'.mono (by omega))⟩
        case measure =>
          simp only [World.iterPos, (hb'.block w.heap.size (by omega)).trans hit2, hit]
          omega
      · have e1 : ¬ D.1 = 10 := fun e => c1 (h4.1 e)
        have e3 : ¬ ((D.1 : Int) = 10) := by omega
        have PT := hide1 (cuS_run hp.out D.2 h2 (fun j hj => if e : j = 0 then by subst e; exact c1 else h3 j (by omega) hj))
        obtain ⟨d1, d2⟩ := D
        dsimp only at e1 e3 PT h1 h2 hd1 own2 hit2 hb2 hsz2
        clear h3 h4 h5 hD c1
        go_wp2
        go_roundw
        case rel => exact ⟨pos + d2, b, l, h2, rfl, PT, by omega, by omega, own2, hit2, hb2⟩
        case measure =>
          simp only [World.iterPos, hit2, hit]
          omega
    · obtain rfl : pos = s.size := by omega
      have hnx : ∀ ty, (Instr.next (.pointer (some ⟨w.heap.size, 0, none⟩)) true ty).run Tryd.prog wr = _ := fun ty => Lib.run_next_end_at wr w.heap.size s s.size ty hit hlt
      have e1 : (cuS 10 s s.size).1 = b := by rw [← hp.out]
      have e2 : (cuS 10 s s.size).2 = l := by rw [← hp.out]
      by_cases c3 : b < s.size
      · have RES := hide1 (show linesL s = l ++ [s.extract b s.size] by unfold linesL; rw [e1, e2, if_pos c3])
        clear hp e1 e2
        go_wp2_with (at_builtin; (refine wpList_push1 rfl _ _ 31 rfl (w.heap.size + 1) 9 i0 (.string ⟨#[]⟩) 16 Tryd.underlying31 hi hz0 hz1 hz2 rfl (by decide) _ l.length (sc l) rfl hown _ rfl rfl (by omega) hsz ?_; intro v' w1 hown' hb'))
        go_ret
        exact ⟨_, rfl, by rw [RES.out, sc_append, List.length_append]; exact own_base hown' (by omega), hbel.trans (hb'.mono (by omega))⟩
      · have RES := hide1 (show linesL s = l by unfold linesL; rw [e1, e2, if_neg c3])
        clear hp e1 e2
        go_wp2
        go_ret
        exact ⟨_, rfl, by rw [RES.out]; exact own_base hown (by omega), hbel⟩

theorem slHas_any (s : ByteArray) (w : World) :
    Calls Tryd.prog 57 #[.string s, .string ⟨#[35]⟩] w fun e w' => e = .returned (.bool (decide (1 ≤ s.size) && byt s 0 == 35)) ∧ w' = w := by
  by_cases c : 1 ≤ s.size
  · have k1 : (1 : Int) ≤ (s.size : Int) := by omega
    have k2 : ((s.extract 0 1).toList == [35]) = (byt s 0 == 35) := by
      have e : (s.extract 0 1).toList = [UInt8.ofNat (byt s 0)] := by
        rw [ByteArray.toList_eq, Lib.extract_from_zero]
        have := byt_some s 0 (by omega)
        cases hd : s.data.toList with
        | nil => rw [hd] at this; simp at this
        | cons a r => rw [hd] at this; simp at this; simp [this]
      rw [e]
      have hb := byt_le s 0
      have : (UInt8.ofNat (byt s 0) = 35) ↔ byt s 0 = 35 := by
        constructor
        · intro h
          have := congrArg UInt8.toNat h
          rw [UInt8.toNat_ofNat', Nat.mod_eq_of_lt (by omega)] at this
          exact this
        · intro h; rw [h]; rfl
      by_cases h : byt s 0 = 35
      · have h2 := this.2 h
        rw [h2, h]; rfl
      · have h2 : ¬ UInt8.ofNat (byt s 0) = 35 := fun e => h (this.1 e)
        have h3 : (byt s 0 == 35) = false := by simpa using h
        rw [h3]
        simpa using h2
    rw [decide_eq_true c, Bool.true_and]
    go_enter Tryd.func57, Tryd.ntmps57
    go_wp2
    go_ret
    exact ⟨rfl, rfl⟩
  · have k1 : ¬ ((1 : Int) ≤ (s.size : Int)) := by omega
    rw [decide_eq_false c, Bool.false_and]
    go_enter Tryd.func57, Tryd.ntmps57
    go_wp2
    go_ret
    exact ⟨rfl, rfl⟩
theorem hasPre_any (s : ByteArray) (w : World) :
    Calls Tryd.prog 51 #[.string s, .string ⟨#[35]⟩] w fun e w' => e = .returned (.bool (decide (1 ≤ s.size) && byt s 0 == 35)) ∧ w' = w := by
  have C := hide1 (slHas_any s w)
  go_enter Tryd.func51, Tryd.ntmps51
  go_wp2_with fail
  refine C.out.mono ?_
  rintro e w' ⟨rfl, rfl⟩
  go_wp2
  go_ret
  exact ⟨rfl, rfl⟩
end Go.Proofs.YtelmchifpgaibaaDoor
namespace Go.Proofs.YtelmchifpgaibaaDoor
open Go.ChangeShapes Go.WideShapes Go.ChangeAt Go.RowKit Go.Deep Go.Joins
set_option linter.unusedVariables false

def zeroVw : Vw := ⟨none, 0, []⟩
instance : Inhabited Vw := ⟨zeroVw⟩
theorem Tryd.infoVw : (Tryd.prog.info? 35).map (fun i => (i.zero, i.size, i.bytes)) = some (some (.slice none 0 0), 1, 24) := by kernel_rfl
theorem made_vw (n : Nat) : (madeCells (Value.slice none 0 0).cells (n * 1)).toList = rowG vwC (List.replicate n zeroVw) := by
  refine List.ext_getElem? fun j => ?_
  have hr : rowG vwC (List.replicate n zeroVw) = List.replicate n (Value.slice none 0 0) := by
    induction n with
    | zero => rfl
    | succ n ih => rw [List.replicate_succ, List.replicate_succ, ← ih]; rfl
  rw [hr]
  simp [madeCells, Value.cells, Nat.mod_one]
  by_cases hj : j < n <;> simp [hj]
theorem fillV (L : List Vw) (D : List Vw) (x : Vw) (n i : Nat) (hD : D.length = i) (hi : i < n) : (D ++ List.replicate (n - i) zeroVw).set i x = (D ++ [x]) ++ List.replicate (n - (i + 1)) zeroVw := by
  rw [List.set_append, if_neg (by omega), hD, Nat.sub_self, show n - i = (n - (i + 1)) + 1 by omega, List.replicate_succ, List.set_cons_zero]
  simp
theorem row_vw (L : List Vw) : rowG vwC L = L.map (fun x => Value.slice x.a x.l.length x.c) := by
  induction L with
  | nil => rfl
  | cons a L ih => show vwC a ++ rowG vwC L = _; rw [ih]; rfl
theorem rdz_far {w w' : World} {a : Option Addr} {l : List Int} {B : Nat} (h : RdZ w a l) (hg : w.grownBy w' (some B)) (hn : ∀ b o, a = some ⟨b, o, none⟩ → l ≠ [] → b ≠ B) : RdZ w' a l := fun i hi => by
  obtain ⟨b, o, ha, hb, hc⟩ := h i hi
  refine ⟨b, o, ha, Nat.lt_of_lt_of_le hb hg.size, ?_⟩
  rw [← hc]
  exact World.cell?_of_block (hg.block b hb (fun e => hn b o ha (fun e2 => by rw [e2] at hi; simp at hi) (by injection e)))
theorem own_leV {w : World} {B c : Nat} {a : Option Addr} {l : List Int} (h : OwnK w B a c l) : l.length ≤ c := by
  rcases h.2 with ⟨hv, h0⟩ | ⟨g, cap, cur, hv, _, _, hc, _⟩
  · omega
  · injection hv with h1 h2 h3
    omega
theorem map_at {L M : List Vw} (h : L.map (·.l) = M.map (·.l)) {i : Nat} (h1 : i < L.length) (h2 : i < M.length) : L[i].l = M[i].l := by
  have e : (L.map (·.l))[i]? = (M.map (·.l))[i]? := by rw [h]
  rw [List.getElem?_map, List.getElem?_map, List.getElem?_eq_getElem h1, List.getElem?_eq_getElem h2] at e
  simpa using e
set_option maxRecDepth 100000 in
set_option maxHeartbeats 1000000 in
theorem eqIntSS_same (a b : Option Addr) (L M : List Vw) (ca cb : Nat) (w : World) (hl : L.length ≤ 1048576) (hs : ∀ x ∈ L, x.l.length ≤ 1048576) (he : L.map (·.l) = M.map (·.l)) (hA : RdVs w a L) (hB : RdVs w b M) :
    Calls Tryd.prog 6 #[.slice a L.length ca, .slice b L.length cb] w fun e w' => e = .returned (.bool true) ∧ Below w.heap.size w w' := by
  have hLM : L.length = M.length := by have := congrArg List.length he; simpa using this
  have HA := hide1 hA
  have HB := hide1 hB
  have HS := hide1 hs
  have HE := hide1 he
  have HLM := hide1 hLM
  clear hA hB hs he hLM
  have q0 : ((L.length : Int) != (L.length : Int)) = false := by simp
  go_enter Tryd.func6, Tryd.ntmps6
  go_wp2
  go_loopw [5] (fun iv wr => ∃ i : Nat, i ≤ L.length ∧ iv = .int .i64 (i : Int) ∧ Hid (Below w.heap.size w wr)) (fun iv _ => L.length - (intOf iv).toNat)
  case atStart => exact ⟨0, by omega, rfl, hide1 (Below.refl _ _)⟩
  case round =>
    obtain ⟨i, hi, rfl, BB⟩ := hrel
    by_cases hlt : i < L.length
    · have k1 : (i : Int) < (L.length : Int) := by omega
      have hltM : i < M.length := by have := HLM.out; omega
      obtain ⟨b1, o1, rfl, hg1, h1⟩ := HA.out.r i hlt
      obtain ⟨b2, o2, rfl, hg2, h2⟩ := HB.out.r i hltM
      have eM := map_at HE.out hlt hltM
      have x0 : wr.cell? ⟨b1, o1 + i, none⟩ = some (.slice L[i].a L[i].l.length L[i].c) := (BB.out.cell (p := ⟨b1, o1 + i, none⟩) hg1).trans (by have := h1 0 (by omega); rwa [Nat.mul_one, Nat.add_zero] at this)
      have y0 : wr.cell? ⟨b2, o2 + i, none⟩ = some (.slice M[i].a L[i].l.length M[i].c) := (BB.out.cell (p := ⟨b2, o2 + i, none⟩) hg2).trans (by have := h2 0 (by omega); rw [Nat.mul_one, Nat.add_zero] at this; rw [eM]; exact this)
      have hm := List.getElem_mem hlt
      have cc := hide1 (fun w' (hb : Below w.heap.size w w') => eqIntS_own L[i].a M[i].a L[i].l L[i].c M[i].c w' (HS.out _ hm) ((HA.out.v _ hm).later hb) (by rw [eM]; exact (HB.out.v _ (List.getElem_mem hltM)).later hb))
      have hw1 : b1 < wr.heap.size := Nat.lt_of_lt_of_le hg1 BB.out.size
      have hw2 : b2 < wr.heap.size := Nat.lt_of_lt_of_le hg2 BB.out.size
      clear h1 h2 eM hm
      generalize L[i] = s at *
      generalize M[i] = t at *
      go_wp2
      go_region_held3 (fun w' => w'.cell? ⟨b1, o1 + i, none⟩ = some (.slice s.a s.l.length s.c) ∧ w'.cell? ⟨b2, o2 + i, none⟩ = some (.slice t.a s.l.length t.c)) (first | go_keep | exact ⟨x0, y0⟩ | exact ⟨(hb2.cell hw1).trans x0, (hb2.cell hw2).trans y0⟩) ((go_at_call 19; refine (cc.out _ (BB.out.trans (show Below w.heap.size wr _ by exact (Below.refl _ _).drew))).mono ?_; rintro e w2 ⟨rfl, hb2⟩))
      go_wp2
      go_roundw
      case rel => exact ⟨i + 1, by omega, by go_num, hide1 (BB.out.trans ((Below.refl _ _).drew.trans (hb2.mono BB.out.size)))⟩
      case measure => simp [intOf]; omega
    · go_wp2
      go_ret
      exact ⟨rfl, BB.out⟩
set_option maxRecDepth 100000 in
theorem open_intsC {H : Type} {enc : TypeId × Value → H} {w : World} {base fuel : Nat} {sp : Nat → Bool} {held : Bool} {cs : List Value} {x : DataW H × List MemPlace} (h : DataW.trod enc Tryd.prog w base sp held fuel 35 cs = some x) :
    ∃ s : Vw, cs = vwC s ∧ RdZ w s.a s.l ∧ s.l.length ≤ s.c ∧ s.l.length ≤ maxLen := by
  obtain ⟨ao, l, ca, e, hR, hl⟩ := open_ints h
  rcases open_slice Tryd.underlying35 h with ⟨e2, _⟩ | ⟨a, len, cap, m, n, D, Pl, e2, hb, hl2, hm, hmm, _, hx⟩
  · rw [e2] at e
    simp at e
    obtain ⟨e3, e4, e5⟩ := e
    subst e3
    exact ⟨⟨none, 0, []⟩, by rw [e2]; rfl, fun i hi => by simp at hi, Nat.le_refl _, Nat.zero_le _⟩
  · rw [e2] at e
    simp at e
    obtain ⟨e3, e4, e5⟩ := e
    subst e3 e4 e5
    exact ⟨⟨some a, cap, l⟩, e2, hR, hl2, hl⟩
set_option maxRecDepth 100000 in
/-- A row of views that came in. -/
theorem open_views {H : Type} {enc : TypeId × Value → H} {w : World} {r : Reach} {b0 base : Nat} {sp : Nat → Bool} {held : Bool} {v : Value} {d : DataW H} {p : List MemPlace} (hv : Value.okWide Tryd.prog w r b0 22 v) (h : DataW.Trod enc Tryd.prog w base sp held 22 v d p) :
    ∃ (ao : Option Addr) (L : List Vw) (ca : Nat), v = .slice ao L.length ca ∧ RdVs w ao L ∧ L.length ≤ maxLen ∧ ∀ x ∈ L, x.l.length ≤ maxLen := by
  obtain ⟨a0, len0, cap0, rfl⟩ := okWide_slice Tryd.underlying22 hv
  obtain ⟨fuel, h0⟩ := h
  simp only [Value.cells] at h0
  rcases open_slice Tryd.underlying22 h0 with ⟨e, _⟩ | ⟨a, len, cap, m, n, D, Pl, e, hb, hl, hm, hmm, _, hx⟩
  · simp at e
    obtain ⟨rfl, rfl, rfl⟩ := e
    exact ⟨none, [], 0, rfl, ⟨RdG.nil _ _, fun x hx => by simp at hx, fun x hx => by simp at hx⟩, Nat.zero_le _, fun x hx => by simp at hx⟩
  · simp at e
    obtain ⟨rfl, rfl, rfl⟩ := e
    have hlm : len0 ≤ m := by rw [hmm]; split <;> omega
    have hc : Tryd.prog.cellsOf 35 = 1 := by kernel_rfl
    obtain ⟨ao, L, ca, e1, h1, h2, h3⟩ := open_rowG (cap := cap0) (P := fun s : Vw => RdZ w s.a s.l ∧ s.l.length ≤ s.c ∧ s.l.length ≤ maxLen) encVw (by decide) (.inr (Nat.le_trans hl hm)) hlm (fun i hi => by
      obtain ⟨cs', h1, h2⟩ := hx i hi
      rw [hc] at h1
      obtain ⟨_, hlen, hcell⟩ := World.cells?_some h1
      obtain ⟨s, rfl, hw⟩ := open_intsC h2
      exact ⟨s, hw, fun j hj => hcell j (by omega)⟩)
    simp at e1
    obtain ⟨e3, e4, e5⟩ := e1
    subst e3 e4 e5
    exact ⟨_, L, _, rfl, ⟨h1, fun x hx => (h3 x hx).1, fun x hx => (h3 x hx).2.1⟩, h2, fun x hx => (h3 x hx).2.2⟩
end Go.Proofs.YtelmchifpgaibaaDoor
