/- Rows of views in the statements' words: copied, sized, compared, opened. -/
import Derived.Test.YtpjgplohlchpoaaGreatDoorUAE
import Derived.Test.YtpjgplohlchpoaaGreatDoorUAH
import Derived.Deep.RegionHeld3
import Derived.Test.YtpjgplohlchpoaaGreatDoorUAL
import Derived.Test.YtpjgplohlchpoaaGreatDoorGrP
import Derived.Test.YtpjgplohlchpoaaGreatDoorUAF
namespace Go.Proofs.YtpjgplohlchpoaaGreatDoor
open Go.ChangeShapes Go.WideShapes Go.ChangeAt Go.RowKit Go.Deep Go.Joins
set_option linter.unusedVariables false

def zeroVw : Vw := ⟨none, 0, []⟩
instance : Inhabited Vw := ⟨zeroVw⟩
theorem Tryz.infoVw : (Tryz.prog.info? 22).map (fun i => (i.zero, i.size, i.bytes)) = some (some (.slice none 0 0), 1, 24) := by kernel_rfl
theorem made_vw (n : Nat) : (madeCells (Value.slice none 0 0).cells (n * 1)).toList = rowG vwC (List.replicate n zeroVw) := by
  refine List.ext_getElem? fun j => ?_
  have hr : rowG vwC (List.replicate n zeroVw) = List.replicate n (Value.slice none 0 0) := by
    induction n with
    | zero => rfl
    | succ n ih => rw [List.replicate_succ, List.replicate_succ, ← ih]; rfl
  rw [hr]
  simp [madeCells, Value.cells, Nat.mod_one]
  by_cases hj : j < n <;> simp [hj]
theorem fillV (L : List Vw) (D : List Vw) (x : Vw) (n i : Nat) (hD : D.length = i) (hi : i < n) : (D ++ List.replicate (n - i) zeroVw).set i x = (D ++ [x]) ++ List.replicate (n - (i + 1)) zeroVw := by
  rw [List.set_append, if_neg (by omega), hD, Nat.sub_self, show n - i = (n - (i + 1)) + 1 by omega, List.replicate_succ, List.set_cons_zero]
  simp
theorem row_vw (L : List Vw) : rowG vwC L = L.map (fun x => Value.slice x.a x.l.length x.c) := by
  induction L with
  | nil => rfl
  | cons a L ih => show vwC a ++ rowG vwC L = _; rw [ih]; rfl
theorem rdz_far {w w' : World} {a : Option Addr} {l : List Int} {B : Nat} (h : RdZ w a l) (hg : w.grownBy w' (some B)) (hn : ∀ b o, a = some ⟨b, o, none⟩ → l ≠ [] → b ≠ B) : RdZ w' a l := fun i hi => by
  obtain ⟨b, o, ha, hb, hc⟩ := h i hi
  refine ⟨b, o, ha, Nat.lt_of_lt_of_le hb hg.size, ?_⟩
  rw [← hc]
  exact World.cell?_of_block (hg.block b hb (fun e => hn b o ha (fun e2 => by rw [e2] at hi; simp at hi) (by injection e)))
theorem own_leV {w : World} {B c : Nat} {a : Option Addr} {l : List Int} (h : OwnK w B a c l) : l.length ≤ c := by
  rcases h.2 with ⟨hv, h0⟩ | ⟨g, cap, cur, hv, _, _, hc, _⟩
  · omega
  · injection hv with h1 h2 h3
    omega
set_option maxRecDepth 100000 in
set_option maxHeartbeats 1000000 in
theorem toIntSS_any (a : Option Addr) (L : List Vw) (ca : Nat) (w : World) (hl : L.length ≤ 1048576) (hs : ∀ x ∈ L, x.l.length ≤ 1048576) (hA : RdVs w a L) :
    Calls Tryz.prog 8 #[.slice a L.length ca] w fun e w' => (∃ (b : Option Addr) (c : Nat) (M : List Vw), e = .returned (.slice b L.length c) ∧ M.map (·.l) = L.map (·.l) ∧ RdVs w' b M) ∧ Below w.heap.size w w' := by
  obtain ⟨i0, hi, hz0, hz1, hz2⟩ := info_parts Tryz.infoVw
  have HA := hide1 hA
  have HS := hide1 hs
  clear hA hs
  obtain ⟨n, hn⟩ : ∃ n, L.length = n := ⟨_, rfl⟩
  have HN := hide1 hn
  rw [hn] at hl ⊢
  clear hn
  go_enter Tryz.func8, Tryz.ntmps8
  go_wp2_with (at_make; (refine wpList_make_full _ rfl _ _ 30 rfl w.heap.size 22 i0 (.slice none 0 0) 1 Tryz.underlying30 hi hz0 hz1 _ _ _ _ n rfl rfl rfl rfl (by rw [hz2]; omega) (by unfold maxLen; omega) (Nat.le_refl _) ?_; intro w0 hown0 hg0))
  rw [made_vw] at hown0
  have HO := hide1 hown0
  have G0 := hide1 (show Below w.heap.size w w0 from gbelow hg0 (by intro k hk; cases hk) (Nat.le_refl _))
  have l0 : w.heap.size < w0.heap.size := by
    rcases hown0.2 with ⟨hv, h0⟩ | ⟨g, cap, cur, hv, _, hh, _⟩
    · cases hv
    · injection hv with e1
      injection e1 with e1
      injection e1 with e1
      subst e1
      exact (Array.getElem?_eq_some_iff.1 hh).1
  clear hown0 hg0 hi hz0 hz1 hz2 i0
  obtain ⟨VB, hVB⟩ : ∃ V, V = w.heap.size := ⟨_, rfl⟩
  rw [← hVB] at HO ⊢
  have hVw : w.heap.size ≤ VB := by omega
  have hV0 : VB < w0.heap.size := by omega
  clear hVB
  go_loopw [4] (fun iv wr => ∃ i : Nat, i ≤ n ∧ iv = .int .i64 (i : Int) ∧ ∃ D : List Vw, Hid (D.length = i) ∧ Hid (D.map (·.l) = (L.take i).map (·.l)) ∧ Hid (∀ x ∈ D, RdZ wr x.a x.l ∧ x.l.length ≤ x.c ∧ ∀ b o, x.a = some ⟨b, o, none⟩ → x.l ≠ [] → VB < b) ∧ Hid (wr.ownsRow VB 22 1 (.slice (some ⟨VB, 0, none⟩) n n) n (rowG vwC (D ++ List.replicate (n - i) zeroVw))) ∧ Hid (Below w.heap.size w wr) ∧ Hid (VB < wr.heap.size)) (fun iv _ => n - (intOf iv).toNat)
  case atStart => exact ⟨0, Nat.zero_le _, rfl, [], hide1 rfl, hide1 (by simp), hide1 (by simp), hide1 (by simpa using HO.out), G0, hide1 hV0⟩
  case round =>
    obtain ⟨i, hi, rfl, D, HD, HM, HV, OW, BB, LV⟩ := hrel
    by_cases hlt : i < n
    · have k1 : (i : Int) < (n : Int) := by omega
      have hlt2 : i < L.length := by rw [HN.out]; exact hlt
      obtain ⟨b, o, hab, hb, hc⟩ := HA.out.r i hlt2
      have x0 : wr.cell? ⟨b, o + i, none⟩ = some (.slice L[i].a L[i].l.length L[i].c) := (BB.out.cell (p := ⟨b, o + i, none⟩) hb).trans (by have := hc 0 (by omega); rwa [Nat.mul_one, Nat.add_zero] at this)
      have hm := List.getElem_mem hlt2
      have CT := hide1 (toIntS_own L[i].a L[i].l L[i].c wr (HS.out _ hm) ((HA.out.v _ hm).later BB.out))
      have TK := hide1 (List.take_succ_eq_append_getElem hlt2)
      generalize L[i] = s at *
      subst hab
      clear hc hm hlt2
      go_wp2_with fail
      refine CT.out.mono ?_
      rintro e w2 ⟨b2, c2, rfl, hO2, hb2⟩
      have o2 := own_kept OW.out hb2
      obtain ⟨u0, y0⟩ := own_some o2 i (by omega)
      have f0 := o2.frozenAt i
      have O2 := hide1 o2
      have N2 := hide1 hO2
      have E2 := hide1 hb2
      clear o2 hO2 hb2 CT x0
      go_wp2
      go_roundw
      case rel =>
        have gV := gset (World.grownBy.refl w2 (some VB)) i (.slice b2 s.l.length c2)
        have hlv : VB < wr.heap.size := LV.out
        refine ⟨i + 1, by omega, by go_num, D ++ [⟨b2, c2, s.l⟩], hide1 (by rw [List.length_append, HD.out]; rfl), hide1 (by rw [List.map_append, TK.out, List.map_append, HM.out]; rfl), hide1 (fun x hx => ?_), ?_, ?_, ?_⟩
        · rcases List.mem_append.1 hx with hx | hx
          · obtain ⟨h1, h2, h3⟩ := HV.out x hx
            exact ⟨rdz_far (h1.later E2.out) gV (fun b o e hne => by have := h3 b o e hne; omega), h2, h3⟩
          · rw [List.mem_singleton] at hx
            subst hx
            have hge : ∀ b o, b2 = some ⟨b, o, none⟩ → s.l ≠ [] → VB < b := fun b o e _ => by have := (N2.out.lt b (by subst e; rfl)).1; omega
            exact ⟨rdz_far N2.out.rd gV (fun b o e hne => by have := hge b o e hne; omega), own_leV N2.out, hge⟩
        · have st := (World.ownsRow.stored O2.out i (.slice b2 s.l.length c2)).1
          have e9 : (rowG vwC (D ++ List.replicate (n - i) zeroVw)).set i (.slice b2 s.l.length c2) = rowG vwC (D ++ [⟨b2, c2, s.l⟩] ++ List.replicate (n - (i + 1)) zeroVw) := by
            rw [← fillV L D ⟨b2, c2, s.l⟩ n i HD.out hlt, row_vw, row_vw, List.map_set]
          rw [e9] at st
          exact hide1 st
        · exact hide1 ((BB.out.trans (E2.out.mono BB.out.size)).setCell (p := ⟨VB, i, none⟩) hVw _)
        · exact hide1 (by rw [World.size_setCell]; have := E2.out.size; omega)
      case measure => simp [intOf]; omega
    · obtain rfl : i = n := by omega
      have k1 : ¬ ((i : Int) < (i : Int)) := by omega
      go_wp2
      go_ret
      have hml := HM.out
      rw [← HN.out, List.take_length] at hml
      refine ⟨⟨some ⟨VB, 0, none⟩, ⟨i, rfl⟩, D, hml, ?_, fun x hx => (HV.out x hx).1, fun x hx => (HV.out x hx).2.1⟩, BB.out⟩
      have := OW.out
      rw [Nat.sub_self, List.replicate_zero, List.append_nil] at this
      exact rdG_of_own encVw.len this HD.out
theorem map_at {L M : List Vw} (h : L.map (·.l) = M.map (·.l)) {i : Nat} (h1 : i < L.length) (h2 : i < M.length) : L[i].l = M[i].l := by
  have e : (L.map (·.l))[i]? = (M.map (·.l))[i]? := by rw [h]
  rw [List.getElem?_map, List.getElem?_map, List.getElem?_eq_getElem h1, List.getElem?_eq_getElem h2] at e
  simpa using e
set_option maxRecDepth 100000 in
set_option maxHeartbeats 1000000 in
theorem eqIntSS_same (a b : Option Addr) (L M : List Vw) (ca cb : Nat) (w : World) (hl : L.length ≤ 1048576) (hs : ∀ x ∈ L, x.l.length ≤ 1048576) (he : L.map (·.l) = M.map (·.l)) (hA : RdVs w a L) (hB : RdVs w b M) :
    Calls Tryz.prog 12 #[.slice a L.length ca, .slice b L.length cb] w fun e w' => e = .returned (.bool true) ∧ Below w.heap.size w w' := by
  have hLM : L.length = M.length := by have := congrArg List.length he; simpa using this
  have HA := hide1 hA
  have HB := hide1 hB
  have HS := hide1 hs
  have HE := hide1 he
  have HLM := hide1 hLM
  clear hA hB hs he hLM
  have q0 : ((L.length : Int) != (L.length : Int)) = false := by simp
  go_enter Tryz.func12, Tryz.ntmps12
  go_wp2
  go_loopw [5] (fun iv wr => ∃ i : Nat, i ≤ L.length ∧ iv = .int .i64 (i : Int) ∧ Hid (Below w.heap.size w wr)) (fun iv _ => L.length - (intOf iv).toNat)
  case atStart => exact ⟨0, by omega, rfl, hide1 (Below.refl _ _)⟩
  case round =>
    obtain ⟨i, hi, rfl, BB⟩ := hrel
    by_cases hlt : i < L.length
    · have k1 : (i : Int) < (L.length : Int) := by omega
      have hltM : i < M.length := by have := HLM.out; omega
      obtain ⟨b1, o1, rfl, hg1, h1⟩ := HA.out.r i hlt
      obtain ⟨b2, o2, rfl, hg2, h2⟩ := HB.out.r i hltM
      have eM := map_at HE.out hlt hltM
      have x0 : wr.cell? ⟨b1, o1 + i, none⟩ = some (.slice L[i].a L[i].l.length L[i].c) := (BB.out.cell (p := ⟨b1, o1 + i, none⟩) hg1).trans (by have := h1 0 (by omega); rwa [Nat.mul_one, Nat.add_zero] at this)
      have y0 : wr.cell? ⟨b2, o2 + i, none⟩ = some (.slice M[i].a L[i].l.length M[i].c) := (BB.out.cell (p := ⟨b2, o2 + i, none⟩) hg2).trans (by have := h2 0 (by omega); rw [Nat.mul_one, Nat.add_zero] at this; rw [eM]; exact this)
      have hm := List.getElem_mem hlt
      have cc := hide1 (fun w' (hb : Below w.heap.size w w') => eqIntS_own L[i].a M[i].a L[i].l L[i].c M[i].c w' (HS.out _ hm) ((HA.out.v _ hm).later hb) (by rw [eM]; exact (HB.out.v _ (List.getElem_mem hltM)).later hb))
      have hw1 : b1 < wr.heap.size := Nat.lt_of_lt_of_le hg1 BB.out.size
      have hw2 : b2 < wr.heap.size := Nat.lt_of_lt_of_le hg2 BB.out.size
      clear h1 h2 eM hm
      generalize L[i] = s at *
      generalize M[i] = t at *
      go_wp2
      go_region_held3 (fun w' => w'.cell? ⟨b1, o1 + i, none⟩ = some (.slice s.a s.l.length s.c) ∧ w'.cell? ⟨b2, o2 + i, none⟩ = some (.slice t.a s.l.length t.c)) (first | go_keep | exact ⟨x0, y0⟩ | exact ⟨(hb2.cell hw1).trans x0, (hb2.cell hw2).trans y0⟩) ((go_at_call 34; refine (cc.out _ (BB.out.trans (show Below w.heap.size wr _ by exact (Below.refl _ _).drew))).mono ?_; rintro e w2 ⟨rfl, hb2⟩))
      go_wp2
      go_roundw
      case rel => exact ⟨i + 1, by omega, by go_num, hide1 (BB.out.trans ((Below.refl _ _).drew.trans (hb2.mono BB.out.size)))⟩
      case measure => simp [intOf]; omega
    · go_wp2
      go_ret
      exact ⟨rfl, BB.out⟩
set_option maxRecDepth 100000 in
set_option maxHeartbeats 1000000 in
theorem szIntSS_any (a : Option Addr) (L : List Vw) (ca left0 : Nat) (w : World) (hl0 : left0 ≤ 1048576) (hl : L.length ≤ 9223372036854775807) (hS : ∀ x ∈ L, x.l.length ≤ 9223372036854775807) (hA : RdVs w a L) :
    Calls Tryz.prog 5 #[.slice a L.length ca, .int .i64 (left0 : Int)] w fun e w' => (e = .returned (.int .i64 (-1)) ∨ ∃ r : Nat, e = .returned (.int .i64 (r : Int)) ∧ r ≤ left0 ∧ L.length ≤ left0 ∧ ∀ x ∈ L, x.l.length ≤ 1048576) ∧ Below w.heap.size w w' := by
  by_cases c0 : L.length ≤ left0
  · have q0 : decide ((left0 : Int) - (L.length : Int) < 0) = false := by simp; omega
    have HA := hide1 hA
    have HS := hide1 hS
    clear hA hS
    go_enter Tryz.func5, Tryz.ntmps5
    go_wp2
    go_loopw [1, 5] (fun lv iv wr => ∃ i left : Nat, i ≤ L.length ∧ iv = .int .i64 (i : Int) ∧ lv = .int .i64 (left : Int) ∧ left ≤ left0 ∧ Hid (∀ j (h : j < L.length), j < i → L[j].l.length ≤ 1048576) ∧ Hid (Below w.heap.size w wr)) (fun _ iv _ => L.length - (intOf iv).toNat)
    case atStart => exact ⟨0, left0 - L.length, by omega, rfl, by rw [show ((left0 - L.length : Nat) : Int) = (left0 : Int) - (L.length : Int) by omega], by omega, hide1 (fun j _ h => by omega), hide1 (Below.refl _ _)⟩
    case round =>
      obtain ⟨i, left, hi, rfl, rfl, hle, hdone, BB⟩ := hrel
      by_cases hlt : i < L.length
      · have k1 : (i : Int) < (L.length : Int) := by omega
        obtain ⟨b, o, rfl, hb, h1⟩ := HA.out.r i hlt
        have x0 : wr.cell? ⟨b, o + i, none⟩ = some (.slice L[i].a L[i].l.length L[i].c) := (BB.out.cell (p := ⟨b, o + i, none⟩) hb).trans (by have := h1 0 (by omega); rwa [Nat.mul_one, Nat.add_zero] at this)
        have m1 := HS.out _ (List.getElem_mem hlt)
        have cc := hide1 (fun w => szIntS_any L[i].a L[i].l.length L[i].c left w m1 (by omega))
        have NX := hide1 (show L[i].l.length ≤ 1048576 → ∀ j (h : j < L.length), j < i + 1 → L[j].l.length ≤ 1048576 from fun h9 j h hj => by
          by_cases e : j < i
          · exact hdone.out j h e
          · have : j = i := (by omega)
            subst this
            exact h9)
        generalize L[i] = s at *
        clear h1 m1
        go_wp2_with fail
        refine (cc.out _).mono ?_
        rintro e w2 ⟨hr, rfl⟩
        rcases hr with ⟨rfl, _⟩ | ⟨r, rfl, hr⟩
        · go_wp2
          go_ret
          exact ⟨.inl rfl, BB.out⟩
        · have q : decide ((r : Int) < 0) = false := by simp
          have NX2 := hide1 (NX.out (by omega))
          have hr2 : r ≤ left0 := by omega
          clear hr NX
          go_wp2
          go_roundw
          case rel => exact ⟨i + 1, r, by omega, by go_num, rfl, hr2, NX2, BB⟩
          case measure => simp [intOf]; omega
      · go_wp2
        go_ret
        exact ⟨.inr ⟨left, rfl, hle, c0, fun x hx => by obtain ⟨j, hj, rfl⟩ := List.getElem_of_mem hx; exact hdone.out j hj (by omega)⟩, BB.out⟩
  · have q0 : decide ((left0 : Int) - (L.length : Int) < 0) = true := by simp; omega
    clear hA hS
    go_enter Tryz.func5, Tryz.ntmps5
    go_wp2
    go_ret
    exact ⟨.inl rfl, Below.refl _ _⟩
set_option maxRecDepth 100000 in
theorem open_intsC {H : Type} {enc : TypeId × Value → H} {w : World} {base fuel : Nat} {sp : Nat → Bool} {held : Bool} {cs : List Value} {x : DataW H × List MemPlace} (h : DataW.trod enc Tryz.prog w base sp held fuel 22 cs = some x) :
    ∃ s : Vw, cs = vwC s ∧ RdZ w s.a s.l ∧ s.l.length ≤ s.c ∧ s.l.length ≤ maxLen := by
  obtain ⟨ao, l, ca, e, hR, hl⟩ := open_ints h
  rcases open_slice Tryz.underlying22 h with ⟨e2, _⟩ | ⟨a, len, cap, m, n, D, Pl, e2, hb, hl2, hm, hmm, _, hx⟩
  · rw [e2] at e
    simp at e
    obtain ⟨e3, e4, e5⟩ := e
    subst e3
    exact ⟨⟨none, 0, []⟩, by rw [e2]; rfl, fun i hi => by simp at hi, Nat.le_refl _, Nat.zero_le _⟩
  · rw [e2] at e
    simp at e
    obtain ⟨e3, e4, e5⟩ := e
    subst e3 e4 e5
    exact ⟨⟨some a, cap, l⟩, e2, hR, hl2, hl⟩
set_option maxRecDepth 100000 in
/-- A row of views that came in. -/
theorem open_views {H : Type} {enc : TypeId × Value → H} {w : World} {r : Reach} {b0 base : Nat} {sp : Nat → Bool} {held : Bool} {v : Value} {d : DataW H} {p : List MemPlace} (hv : Value.okWide Tryz.prog w r b0 30 v) (h : DataW.Trod enc Tryz.prog w base sp held 30 v d p) :
    ∃ (ao : Option Addr) (L : List Vw) (ca : Nat), v = .slice ao L.length ca ∧ RdVs w ao L ∧ L.length ≤ maxLen ∧ ∀ x ∈ L, x.l.length ≤ maxLen := by
  obtain ⟨a0, len0, cap0, rfl⟩ := okWide_slice Tryz.underlying30 hv
  obtain ⟨fuel, h0⟩ := h
  simp only [Value.cells] at h0
  rcases open_slice Tryz.underlying30 h0 with ⟨e, _⟩ | ⟨a, len, cap, m, n, D, Pl, e, hb, hl, hm, hmm, _, hx⟩
  · simp at e
    obtain ⟨rfl, rfl, rfl⟩ := e
    exact ⟨none, [], 0, rfl, ⟨RdG.nil _ _, fun x hx => by simp at hx, fun x hx => by simp at hx⟩, Nat.zero_le _, fun x hx => by simp at hx⟩
  · simp at e
    obtain ⟨rfl, rfl, rfl⟩ := e
    have hlm : len0 ≤ m := by rw [hmm]; split <;> omega
    have hc : Tryz.prog.cellsOf 22 = 1 := by kernel_rfl
    obtain ⟨ao, L, ca, e1, h1, h2, h3⟩ := open_rowG (cap := cap0) (P := fun s : Vw => RdZ w s.a s.l ∧ s.l.length ≤ s.c ∧ s.l.length ≤ maxLen) encVw (by decide) (.inr (Nat.le_trans hl hm)) hlm (fun i hi => by
      obtain ⟨cs', h1, h2⟩ := hx i hi
      rw [hc] at h1
      obtain ⟨_, hlen, hcell⟩ := World.cells?_some h1
      obtain ⟨s, rfl, hw⟩ := open_intsC h2
      exact ⟨s, hw, fun j hj => hcell j (by omega)⟩)
    simp at e1
    obtain ⟨e3, e4, e5⟩ := e1
    subst e3 e4 e5
    exact ⟨_, L, _, rfl, ⟨h1, fun x hx => (h3 x hx).1, fun x hx => (h3 x hx).2.1⟩, h2, fun x hx => (h3 x hx).2.2⟩
end Go.Proofs.YtpjgplohlchpoaaGreatDoor
namespace Go.Proofs.YtpjgplohlchpoaaGreatDoor
open Go.RowKit
set_option linter.unusedVariables false

/-- A member in a row, and where its rows lie. -/
structure Mr where
  m : Mb
  a : MA
def mrC (x : Mr) : List Value := (mbA x.m x.a).toList
theorem encMr : EncK mrC 16 := ⟨fun _ => rfl, fun x u hu => by have h := oneMb x.m x.a; exact (Array.all_eq_true_iff_forall_mem.1 h) u (by simpa [mrC] using hu)⟩
theorem rowVw : RowK Tryz.prog 30 22 1 := rowK_mk Tryz.underlying30 Tryz.infoVw rfl (by decide) (by decide)
theorem RdG.gr {α : Type} {enc : α → List Value} {k : Nat} {w w' : World} {a : Option Addr} {l : List α} {r : Option Nat} (h : RdG enc k w a l) (hg : w.grownBy w' r) (hn : ∀ b o, a = some ⟨b, o, none⟩ → 0 < l.length → r ≠ some b) : RdG enc k w' a l := by
  intro i hi
  obtain ⟨b, o, ha, hl, hc⟩ := h i hi
  refine ⟨b, o, ha, Nat.lt_of_lt_of_le hl hg.size, fun j hj => ?_⟩
  rw [← hc j hj]
  exact World.cell?_of_block (hg.block b hl (fun e => hn b o ha (by omega) e.symm))
theorem RdZ.gr {w w' : World} {a : Option Addr} {l : List Int} {r : Option Nat} (h : RdZ w a l) (hg : w.grownBy w' r) (hn : ∀ b o, a = some ⟨b, o, none⟩ → 0 < l.length → r ≠ some b) : RdZ w' a l := (h.g.gr hg hn).z
theorem RdG.farX {α : Type} {enc : α → List Value} {k : Nat} {w : World} {a : Option Addr} {l : List α} (h : RdG enc k w a l) {g : Nat} (j : Nat) (u : Value) (hn : ∀ b o, a = some ⟨b, o, none⟩ → 0 < l.length → b ≠ g) : RdG enc k (w.setCell ⟨g, j, none⟩ u) a l := by
  intro i hi
  obtain ⟨b, o, ha, hg, hc⟩ := h i hi
  refine ⟨b, o, ha, by simpa using hg, fun q hq => ?_⟩
  rw [← hc q hq]
  exact World.cell?_of_block (Below.heap_setCell _ _ _ _ (hn b o ha (by omega)))
/-- A row that lies at lo or above (an empty one lies anywhere). -/
def LoA (lo : Nat) (a : Option Addr) (n : Nat) : Prop := ∀ q o, a = some ⟨q, o, none⟩ → 0 < n → lo ≤ q
theorem LoA.mono {lo lo' : Nat} {a : Option Addr} {n : Nat} (h : LoA lo a n) (hl : lo' ≤ lo) : LoA lo' a n := fun q o e hn => Nat.le_trans hl (h q o e hn)
theorem lo_of_own {w : World} {B n c k m : Nat} {e : TypeId} {b : Option Addr} {xs : List Value} (h : w.ownsRow B e k (.slice b n c) n xs) : LoA B b m := fun q o e hn => by subst e; exact (h.lt q rfl).1
/-- Views that lie at lo or above. -/
structure LoVs (lo : Nat) (b : Option Addr) (M : List Vw) : Prop where
  r : LoA lo b M.length
  v : ∀ x ∈ M, LoA lo x.a x.l.length
theorem LoVs.mono {lo lo' : Nat} {b : Option Addr} {M : List Vw} (h : LoVs lo b M) (hl : lo' ≤ lo) : LoVs lo' b M := ⟨h.r.mono hl, fun x hx => (h.v x hx).mono hl⟩
theorem RdVs.far {w : World} {b : Option Addr} {M : List Vw} {lo g : Nat} (h : RdVs w b M) (hl : LoVs lo b M) (hg : g < lo) (j : Nat) (u : Value) : RdVs (w.setCell ⟨g, j, none⟩ u) b M :=
  ⟨h.r.farX j u (fun q o e hn => by have := hl.r q o e hn; omega), fun x hx => ((h.v x hx).g.farX j u (fun q o e hn => by have := hl.v x hx q o e hn; omega)).z, h.c⟩
/-- A member whose rows lie at lo or above. -/
structure LoMb (lo : Nat) (m : Mb) (A : MA) : Prop where
  wr : LoA lo A.wa m.wa.length
  ir : LoA lo A.ia m.is.length
  lr : LoA lo A.la m.tk.lf.length
theorem LoMb.mono {lo lo' : Nat} {m : Mb} {A : MA} (h : LoMb lo m A) (hl : lo' ≤ lo) : LoMb lo' m A := ⟨h.wr.mono hl, h.ir.mono hl, h.lr.mono hl⟩
theorem LoA.none {lo n : Nat} : LoA lo none n := fun q o e _ => by cases e
theorem LoA.zero {lo : Nat} {a : Option Addr} : LoA lo a 0 := fun q o _ h => by omega
/-- Messages that lie at lo or above, with their items. -/
structure LoMs (lo : Nat) (b : Option Addr) (L : List Mv) : Prop where
  r : LoA lo b L.length
  i : ∀ x ∈ L, LoA lo x.a x.m.is.length
theorem LoMs.mono {lo lo' : Nat} {b : Option Addr} {L : List Mv} (h : LoMs lo b L) (hl : lo' ≤ lo) : LoMs lo' b L := ⟨h.r.mono hl, fun x hx => (h.i x hx).mono hl⟩
/-- A row that is read, lies at lo or above, and not where another row lies that may grow. -/
structure PrG {α : Type} (enc : α → List Value) (k lo : Nat) (w : World) (ob : Option Nat) (a : Option Addr) (l : List α) : Prop where
  r : RdG enc k w a l
  n : LoA lo a l.length
  d : ∀ q o, a = some ⟨q, o, none⟩ → 0 < l.length → ob ≠ some q
theorem RdG.lt0 {α : Type} {enc : α → List Value} {k : Nat} {w : World} {a : Option Addr} {l : List α} (h : RdG enc k w a l) {q o : Nat} (e : a = some ⟨q, o, none⟩) (hl : 0 < l.length) : q < w.heap.size := by
  obtain ⟨b, o', e', hb, _⟩ := h 0 hl
  rw [e] at e'
  injection e' with e'
  injection e' with e'
  omega
theorem PrG.later {α : Type} {enc : α → List Value} {k lo : Nat} {w w' : World} {ob : Option Nat} {a : Option Addr} {l : List α} (h : PrG enc k lo w ob a l) (hb : Below w.heap.size w w') : PrG enc k lo w' ob a l := ⟨h.r.later hb, h.n, h.d⟩
theorem PrG.app {α : Type} {enc : α → List Value} {k lo : Nat} {w w' : World} {ob ob' : Option Nat} {a : Option Addr} {l : List α} (h : PrG enc k lo w ob a l) (hg : w.grownBy w' ob) (hn : ∀ q, ob' = some q → ob = some q ∨ w.heap.size ≤ q) : PrG enc k lo w' ob' a l :=
  ⟨h.r.gr hg h.d, h.n, fun q o e hl e' => by
    rcases hn q e' with h1 | h1
    · exact h.d q o e hl h1
    · have := h.r.lt0 e hl; omega⟩
theorem own_blkEq {w : World} {B n k : Nat} {e : TypeId} {b : Option Addr} {c : Nat} {xs : List Value} (h : w.ownsRow B e k (.slice b n c) n xs) {r : Nat} (hr : (Value.slice b n c).ownBlock = some r) : ∃ x, b = some x ∧ x.block = r := by
  cases b with
  | none => simp [Value.ownBlock] at hr
  | some x => exact ⟨x, rfl, by simpa [Value.ownBlock] using hr⟩
theorem owns_emptyX (w : World) (e : TypeId) (k : Nat) : (w.alloc (.cells #[] e)).ownsRow w.heap.size e k (.slice (some ⟨w.heap.size, 0, none⟩) 0 0) 0 [] :=
  ⟨by simp, .inr ⟨w.heap.size, 0, #[], rfl, Nat.le_refl _, heap_alloc_new w _, Nat.le_refl _, Nat.zero_le _, by simp, by simp⟩⟩
end Go.Proofs.YtpjgplohlchpoaaGreatDoor
