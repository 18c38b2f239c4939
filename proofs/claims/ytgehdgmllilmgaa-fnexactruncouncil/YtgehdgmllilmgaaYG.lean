/- The library's slices.Delete of one note, on a row of the call's own. -/
import Derived.Test.YtgehdgmllilmgaaYO
import Derived.Deep.RegionLaw
import Derived.Lib.SliceRun
import Derived.Test.YtgehdgmllilmgaaYF
import Derived.Test.YtgehdgmllilmgaaCnS
namespace Go.Proofs.Ytgehdgmllilmgaa
open Go.RowKit
set_option linter.unusedVariables false

theorem setCells_putG (g : Nat) : ∀ (vs : List Value) (w : World) (m : Nat), w.setCells g m vs = putG w g m vs
  | [], _, _ => rfl
  | v :: vs, w, m => setCells_putG g vs (w.setCell ⟨g, m, none⟩ v) (m + 1)
theorem run_clear6 {P : Program} (w : World) (t e ty : TypeId) (z : Value) (ht : P.underlying t = some (.slice e)) (hv : ∀ w, (zeroValue e).run P w = .ok z w) (zs : List Value) (hz : (Builtin.zeroCells z.cells 1).toList = zs) (h1 : ∀ v ∈ zs, v.oneCell' = true) (b o c : Nat)
    (hc : ∀ j, j < zs.length → (w.cell? ⟨b, o + j, none⟩).isSome = true) (hf : ∀ j, j < zs.length → w.frozen? ⟨b, o + j, none⟩ = false) :
    (Builtin.clear_ #[t] ty #[.slice (some ⟨b, o, none⟩) 1 c]).run P w = .ok (.tuple #[]) (w.setCells b o zs) := by
  have hst := run_storeCells_cells (P := P) b o zs 0 w (by simpa using hc) (by simpa using hf) h1
  simp only [Nat.add_zero] at hst
  simp [Builtin.clear_, run_underlying ht, hv, hz, hst]
theorem putG_grown : ∀ (vs : List Value) (w : World) (g m : Nat), w.grownBy (putG w g m vs) (some g)
  | [], w, g, m => World.grownBy.refl _ _
  | v :: vs, w, g, m => (gset (World.grownBy.refl w (some g)) m v).trans (putG_grown vs _ g (m + 1))
theorem putG_grownD (vs : List Value) (w : World) (g m : Nat) : w.grownBy (putG w.drew g m vs) (some g) := (show w.grownBy w.drew (some g) from gnew (Below.refl _ _).drew).trans (putG_grown vs w.drew g m)
theorem own_cut {w : World} {base n k g cap m : Nat} {e : TypeId} {xs : List Value} (h : w.ownsRow base e k (.slice (some ⟨g, 0, none⟩) n cap) n xs) (hm : m ≤ n) : w.ownsRow base e k (.slice (some ⟨g, 0, none⟩) m cap) m (xs.take (m * k)) := by
  have hk : m * k ≤ n * k := Nat.mul_le_mul_right k hm
  refine ⟨by rw [List.length_take, h.1]; omega, .inr ?_⟩
  rcases h.2 with ⟨hv, _⟩ | ⟨g', cap', cur, hv, h1, h2, h3, h4, h5, h6⟩
  · cases hv
  · injection hv with e1 e2 e3
    injection e1 with e1
    injection e1 with e1
    subst e1 e3
    exact ⟨g, cap, cur, rfl, h1, h2, Nat.le_trans hm h3, h4, h5, by rw [← h6, List.take_take, Nat.min_eq_left hk]⟩
def zN6 : List Value := [.int .i64 0, .int .i64 0, .int .i64 0, .int .i64 0, .int .i64 0, .string ⟨#[]⟩]
theorem drop_row (l : List Nt) (k : Nat) (h : k < l.length) : (setL (setL (rowG ntC l) (k * 6) (rowG ntC (l.drop (k + 1)))) ((l.length - 1) * 6) zN6).take ((l.length - 1) * 6) = rowG ntC (l.take k ++ l.drop (k + 1)) := by
  have hl := rowG_length ntC 6 encN.len l
  have hd := rowG_length ntC 6 encN.len (l.drop (k + 1))
  have ht := rowG_length ntC 6 encN.len (l.take k)
  rw [List.length_drop] at hd
  rw [List.length_take, Nat.min_eq_left (by omega)] at ht
  have hsl : (setL (rowG ntC l) (k * 6) (rowG ntC (l.drop (k + 1)))).length = l.length * 6 := by rw [setL_length, hl]
  rw [setL_eq zN6 _ _ (by rw [hsl]; show (l.length - 1) * 6 + 6 ≤ _; omega), List.append_assoc, List.take_left' (by rw [List.length_take, hsl]; omega)]
  rw [setL_eq _ _ _ (by rw [hl, hd]; omega)]
  have e1 : (rowG ntC l).take (k * 6) = rowG ntC (l.take k) := by
    have := congrArg (rowG ntC) (List.take_append_drop k l)
    rw [rowG_join] at this
    rw [← this, List.take_left' ht]
  rw [e1, List.take_left' (by rw [List.length_append, ht, hd]; omega), rowG_join]

set_option maxRecDepth 100000 in
set_option maxHeartbeats 2000000 in
theorem delete_any (l : List Nt) (k g cap base : Nat) (w : World) (hk : k < l.length) (hn : l.length ≤ 1000000) (hown : w.ownsRow base 111 6 (.slice (some ⟨g, 0, none⟩) l.length cap) l.length (rowG ntC l)) :
    Calls Try.prog 97 #[.slice (some ⟨g, 0, none⟩) l.length cap, .int .i64 (k : Int), .int .i64 ((k : Int) + 1)] w fun e w' => e = .returned (.slice (some ⟨g, 0, none⟩) (l.length - 1) cap) ∧ w'.ownsRow base 111 6 (.slice (some ⟨g, 0, none⟩) (l.length - 1) cap) (l.length - 1) (rowG ntC (l.take k ++ l.drop (k + 1))) ∧ w.grownBy w' (some g) := by
  obtain ⟨n, hln⟩ : ∃ n, l.length = n := ⟨_, rfl⟩
  obtain ⟨i0, hi, hz0, hz1, hz2⟩ := info_parts Try.infoN
  have hcap : n ≤ cap ∧ cap ≤ maxLen := by
    rcases hown.2 with ⟨hv, _⟩ | ⟨g', cap', cur, hv, h1, h2, h3, h4, h5, h6⟩
    · cases hv
    · injection hv with e1 e2 e3
      subst e3
      rw [← hln]
      exact ⟨h3, h4⟩
  have m1 : maxLen = 9223372036854775807 := rfl
  rw [m1] at hcap
  have HD := hide1 (drop_row l k hk)
  rw [hln] at HD hk hn hown ⊢
  have HO := hide1 hown
  have hlr : (rowG ntC l).length = n * 6 := by rw [rowG_length ntC 6 encN.len, hln]
  have hdr : (rowG ntC (l.drop (k + 1))).length = (n - (k + 1)) * 6 := by rw [rowG_length ntC 6 encN.len, List.length_drop, hln]
  have HC := hide1 (fun j u (hj : (rowG ntC l)[j]? = some u) => show w.cell? ⟨g, j, none⟩ = some u from (hown.cellAt j (by have := (List.getElem?_eq_some_iff.1 hj).1; omega)).trans hj)
  obtain ⟨news, hnews⟩ : ∃ news, rowG ntC (l.drop (k + 1)) = news := ⟨_, rfl⟩
  have HN := hide1 (show ∀ t, (rowG ntC l)[(k + 1) * 6 + t]? = news[t]? from fun t => by
    have := congrArg (rowG ntC) (List.take_append_drop (k + 1) l)
    rw [rowG_join, hnews] at this
    have hl2 : (rowG ntC (l.take (k + 1))).length = (k + 1) * 6 := by rw [rowG_length ntC 6 encN.len, List.length_take, hln, Nat.min_eq_left (by omega)]
    rw [← this, List.getElem?_append_right (by omega), hl2, Nat.add_sub_cancel_left])
  rw [hnews] at HD hdr
  have s1 := hide1 hdr
  have s2 := hide1 (show ∀ u ∈ news, u.oneCell' = true by rw [← hnews]; exact rowG_one encN _)
  have s3 := hide1 (show ∀ j, j < news.length → (w.drew.cell? ⟨g, 0 + k * 6 + j, none⟩).isSome = true ∧ w.drew.frozen? ⟨g, 0 + k * 6 + j, none⟩ = false from fun j hj => by
    obtain ⟨u, hu⟩ := own_some hown (0 + k * 6 + j) (by rw [hdr] at hj; omega)
    exact ⟨by show (w.cell? _).isSome = true; rw [hu]; rfl, hown.frozenAt _⟩)
  obtain ⟨W1, hW1⟩ : ∃ W1, W1 = w.drew.setCells g (0 + k * 6) news := ⟨_, rfl⟩
  have O1 := hide1 (show W1.ownsRow base 111 6 (.slice (some ⟨g, 0, none⟩) n cap) n (setL (rowG ntC l) (k * 6) news) by
    rw [hW1, setCells_putG, Nat.zero_add]
    exact own_putG news (k * 6) hown.drew)
  clear hown hlr hdr hnews
  obtain ⟨A, hA, hsrc⟩ : ∃ A : Addr, (if cap = k + 1 then some (⟨g, 0, none⟩ : Addr) else some ⟨g, (k + 1) * 6, none⟩) = some A ∧ Hid (∀ t u, news[t]? = some u → w.drew.cell? (A.add t) = some u) := by
    by_cases h : cap = k + 1
    · refine ⟨⟨g, 0, none⟩, by simp [h], fun t u hu => ?_⟩
      have h0 : news.length = 0 := by rw [s1.out]; omega
      rw [List.length_eq_zero_iff.1 h0] at hu
      simp at hu
    · refine ⟨⟨g, (k + 1) * 6, none⟩, by simp [h], fun t u hu => ?_⟩
      rw [Addr.add_lit]
      refine HC.out _ _ ?_
      rw [← hu]
      exact HN.out t
  have k1 : (k : Int) + 1 ≤ (n : Int) := by omega
  have kc : (n : Int) ≤ (cap : Int) := by omega
  have qe : ((k : Int) == (k : Int) + 1) = false := by
    cases hq : ((k : Int) == (k : Int) + 1) with
    | false => rfl
    | true => have := eq_of_beq hq; omega
  have k0 : (0 : Int) ≤ (k : Int) + 1 := by omega
  have hic : k ≤ cap := by omega
  have hjc : k + 1 ≤ cap := by omega
  have qw : IntKind.i64.wrap ((k : Int) + 1) = (k : Int) + 1 := IntWalk.i64_in _ ⟨by omega, by omega⟩
  have hW := hide1 hW1
  clear hW1
  obtain ⟨p, hp⟩ : ∃ p, n - 1 = p := ⟨_, rfl⟩
  have HP := hide1 hp
  have HP1 := hide1 (show k + (n - (k + 1)) = p by omega)
  have p1 : n - p = 1 := by omega
  have p2 : (p : Int) ≤ (n : Int) := by omega
  have p3 : ¬ cap = p := by omega
  have p4 : p ≤ n := by omega
  have hcl : ∀ ty, (Builtin.clear_ #[29] ty #[.slice (some ⟨g, p * 6, none⟩) 1 (cap - p)]).run Try.prog W1 = .ok (.tuple #[]) (W1.setCells g (p * 6) zN6) := fun ty => run_clear6 W1 29 111 ty (.agg #[.int .i64 0, .int .i64 0, .int .i64 0, .int .i64 0, .int .i64 0, .string ⟨#[]⟩]) Try.underlying29 (fun w => by kernel_rfl) zN6 (by kernel_rfl) (by intro u hu; simp only [zN6, List.mem_cons, List.not_mem_nil, or_false] at hu; rcases hu with rfl | rfl | rfl | rfl | rfl | rfl <;> rfl) g (p * 6) (cap - p) (fun j hj => by
    have hj : j < 6 := hj
    obtain ⟨u, hu⟩ := own_some O1.out (p * 6 + j) (by omega)
    rw [hu]
    rfl) (fun j hj => O1.out.frozenAt _)
  clear hp
  go_enter Try.func97, Try.ntmps97
  go_wp2_with fail
  go_region_law (refine step_append_room rfl (.tmp 22) (.tmp 25) 29 rfl 111 i0 6 Try.underlying29 hi hz1 g 0 k cap (by simp [Act.eval, Act.put]) A (n - (k + 1)) (cap - (k + 1)) news (by simp [Act.eval, Act.put]) s1.out hsrc.out s2.out (by omega) s3.out ?_; rw [← hW.out])
  all_goals
    rw [HP1.out]
    go_wp2
    go_ret
    refine ⟨by rw [HP.out]; rfl, ?_, ?_⟩
    · rw [HP.out, setCells_putG]
      have o2 := own_cut (own_putG zN6 (p * 6) O1.out) (m := p) (by have := HP.out; omega)
      have hd := HD.out
      rw [HP.out] at hd
      rw [hd] at o2
      exact o2
    · rw [setCells_putG]
      exact gtrans (gtrans (World.grownBy.refl w (some g)) (show w.grownBy W1 (some g) by rw [hW.out, setCells_putG]; exact putG_grownD news w g _)) (putG_grown zN6 W1 g _)
end Go.Proofs.Ytgehdgmllilmgaa
namespace Go.Proofs.Ytgehdgmllilmgaa
open Go.RowKit
set_option linter.unusedVariables false

section
variable {base : Nat} {w : World} {B : Nat} {A : CA} {c : Cn}
/-- Where a note lies. -/
theorem VaO.noteAt (h : VaO base w B A c) {k : Nat} (hk : k < c.ns.length) : ∃ g, A.na = some ⟨g, 0, none⟩ ∧ g ≠ B ∧ g < w.heap.size ∧ ∀ q, q < 6 → w.cell? ⟨g, k * 6 + q, none⟩ = (ntC (ntAt c k))[q]? := by
  obtain ⟨g, hta⟩ : ∃ g, A.na = some ⟨g, 0, none⟩ := by
    rcases h.o.n.2 with ⟨hv, h0⟩ | ⟨g, cap, cur, hv, _⟩
    · omega
    · injection hv with e1; exact ⟨g, e1⟩
  have hR := rdG_of_own encN.len h.o.n rfl
  obtain ⟨b, o, ha, hb, hc⟩ := hR k hk
  rw [hta] at ha
  injection ha with ha
  injection ha with e1 e2
  subst e1 e2
  refine ⟨g, hta, fun e => h.nb (e ▸ ⟨2, _, hta, rfl⟩), hb, fun q hq => ?_⟩
  have e : ntAt c k = c.ns[k] := by unfold ntAt; rw [List.getD_eq_getElem?_getD, List.getElem?_eq_getElem hk]; rfl
  have := hc q hq
  rw [Nat.zero_add] at this
  rw [e]
  exact this
end
theorem drop_len {l : List Nt} {k : Nat} (h : k < l.length) : (l.take k ++ l.drop (k + 1)).length = l.length - 1 := by
  rw [List.length_append, List.length_take, List.length_drop]
  omega
set_option maxRecDepth 100000 in
set_option maxHeartbeats 2000000 in
theorem implTakeN_any (c : Cn) (A : CA) (B base : Nat) (w : World) (k : Nat) (m : Nt) (h : VaO base w B A c) (hk : k < c.ns.length) (nn : c.ns.length ≤ 100000) (hm : ntAt c k = m) :
    Calls Try.prog 76 #[.pointer (some ⟨B, 0, none⟩), .int .i64 (k : Int)] w fun e w' => e = .returned (.agg #[.int .i64 m.k, .int .i64 m.f, .int .i64 m.o, .int .i64 m.b, .int .i64 m.t, .string m.v]) ∧ (∃ A', VaO base w' B A' (dropC c k) ∧ FrB A B w A' w') := by
  obtain ⟨g, hna, hgB, hgl, hc⟩ := h.noteAt hk
  rw [hm] at hc
  have x0 : w.cell? ⟨g, k * 6, none⟩ = some (.int .i64 m.k) := hc 0 (by omega)
  have x1 : w.cell? ⟨g, k * 6 + 1, none⟩ = some (.int .i64 m.f) := hc 1 (by omega)
  have x2 : w.cell? ⟨g, k * 6 + 2, none⟩ = some (.int .i64 m.o) := hc 2 (by omega)
  have x3 : w.cell? ⟨g, k * 6 + 3, none⟩ = some (.int .i64 m.b) := hc 3 (by omega)
  have x4 : w.cell? ⟨g, k * 6 + 4, none⟩ = some (.int .i64 m.t) := hc 4 (by omega)
  have x5 : w.cell? ⟨g, k * 6 + 5, none⟩ = some (.string m.v) := hc 5 (by omega)
  have z2 := h.cells.2.2.1
  rw [hna] at z2
  have HV := hide1 h
  have HNA := hide1 hna
  have lB : B < w.heap.size := h.b.lt
  obtain ⟨n, hn⟩ : ∃ n, c.ns.length = n := ⟨_, rfl⟩
  have HN := hide1 hn
  rw [hn] at z2 hk nn
  have k1 : (k : Int) < (n : Int) := by omega
  have k0 : (0 : Int) ≤ (k : Int) := by omega
  have F0 := hide1 (blkN2 w #[.int .i64 0, .int .i64 0, .int .i64 0, .int .i64 0, .int .i64 0, .string ⟨#[]⟩] #[.int .i64 m.k, .int .i64 m.f, .int .i64 m.o, .int .i64 m.b, .int .i64 m.t, .string m.v] 111 111)
  clear h hc hn hm hna
  go_enter Try.func76, Try.ntmps76
  go_wp2_with fail
  generalize ((w.alloc (.cells #[.int .i64 0, .int .i64 0, .int .i64 0, .int .i64 0, .int .i64 0, .string ⟨#[]⟩] 111)).alloc (.cells #[.int .i64 m.k, .int .i64 m.f, .int .i64 m.o, .int .i64 m.b, .int .i64 m.t, .string m.v] 111)) = u at F0 ⊢
  obtain ⟨R, hR⟩ : ∃ R, R = w.heap.size := ⟨_, rfl⟩
  obtain ⟨M, hM⟩ : ∃ M, M = w.heap.size + 1 := ⟨_, rfl⟩
  have K1 := hide1 F0.out.1
  have K2 := hide1 F0.out.2.1
  have B0 := hide1 F0.out.2.2
  rw [← hR] at K1
  rw [← hM] at K2 ⊢
  rw [show ({block := w.heap.size, off := 0} : Addr) = ⟨R, 0, none⟩ by rw [hR]]
  have hRM : Hid (w.heap.size ≤ R ∧ w.heap.size ≤ M ∧ R ≠ M) := hide1 (by omega)
  have HV1 := hide1 (HV.out.kept B0.out)
  have nRM : R ≠ M := hRM.out.2.2
  have nRB : R ≠ B := by have := hRM.out; omega
  have nMB : M ≠ B := by have := hRM.out; omega
  have nRg : R ≠ g := by have := hRM.out; omega
  have nMg : M ≠ g := by have := hRM.out; omega
  clear F0 hR hM x0 x1 x2 x3 x4 x5 z2
  have OD := HV1.out.o.n
  rw [HNA.out] at OD
  have CD := hide1 (delete_any c.ns k g A.nc base u (by rw [HN.out]; exact hk) (by rw [HN.out]; omega) OD)
  rw [HN.out] at CD
  clear OD
  refine CD.out.mono ?_
  rintro e w3 ⟨rfl, ho3, hg3⟩
  have e1 : (c.ns.take k ++ c.ns.drop (k + 1)).length = n - 1 := by rw [drop_len (by rw [HN.out]; exact hk), HN.out]
  have hgo : (Value.slice A.na c.ns.length A.nc).ownBlock = some g := by rw [HNA.out]; rfl
  have P := HV1.out.putN (ns := c.ns.take k ++ c.ns.drop (k + 1)) (a' := some ⟨g, 0, none⟩) (c' := A.nc) (by rw [hgo]; exact hg3) (by rw [e1]; exact ho3) (fun x hx => by injection hx with hx; subst hx; exact .inl hgo)
  rw [e1] at P
  have HP := hide1 P
  have J1 := hide1 ((gblk hg3 K1.out (by intro e; injection e with e; exact nRg e.symm)).far ⟨B, 2, none⟩ (.slice (some ⟨g, 0, none⟩) (n - 1) A.nc) nRB)
  have J2 := hide1 ((gblk hg3 K2.out (by intro e; injection e with e; exact nMg e.symm)).far ⟨B, 2, none⟩ (.slice (some ⟨g, 0, none⟩) (n - 1) A.nc) nMB)
  have KB := hide1 (gblk hg3 HV1.out.b (by intro e; injection e with e; exact hgB e))
  have z2 : w3.cell? ⟨B, 2, none⟩ = some (.slice A.na c.ns.length A.nc) := KB.out.cell 2
  have zf : w3.frozen? ⟨B, 2, none⟩ = false := KB.out.froz 2
  have lw3 : u.heap.size ≤ w3.heap.size := hg3.size
  clear P e1 hgo ho3 hg3 CD K1 K2
  go_upto_region 3 with fail
  generalize w3.setCell ⟨B, 2, none⟩ (.slice (some ⟨g, 0, none⟩) (n - 1) A.nc) = w4 at HP J1 J2 ⊢
  clear z2 zf KB
  have y0 : w4.cell? ⟨M, 0, none⟩ = some (.int .i64 m.k) := J2.out.cell 0
  have y1 : w4.cell? ⟨M, 1, none⟩ = some (.int .i64 m.f) := J2.out.cell 1
  have y2 : w4.cell? ⟨M, 2, none⟩ = some (.int .i64 m.o) := J2.out.cell 2
  have y3 : w4.cell? ⟨M, 3, none⟩ = some (.int .i64 m.b) := J2.out.cell 3
  have y4 : w4.cell? ⟨M, 4, none⟩ = some (.int .i64 m.t) := J2.out.cell 4
  have y5 : w4.cell? ⟨M, 5, none⟩ = some (.string m.v) := J2.out.cell 5
  have r0 : w4.cell? ⟨R, 0, none⟩ = some (.int .i64 0) := J1.out.cell 0
  have r1 : w4.cell? ⟨R, 1, none⟩ = some (.int .i64 0) := J1.out.cell 1
  have r2 : w4.cell? ⟨R, 2, none⟩ = some (.int .i64 0) := J1.out.cell 2
  have r3 : w4.cell? ⟨R, 3, none⟩ = some (.int .i64 0) := J1.out.cell 3
  have r4 : w4.cell? ⟨R, 4, none⟩ = some (.int .i64 0) := J1.out.cell 4
  have r5 : w4.cell? ⟨R, 5, none⟩ = some (.string ⟨#[]⟩) := J1.out.cell 5
  have rf : ∀ j, w4.frozen? ⟨R, j, none⟩ = false := fun j => J1.out.froz j
  go_wp2
  refine bodyPost_ret (results_cell_row Try.results76 _ _ R 111 #[.int .i64 m.k, .int .i64 m.f, .int .i64 m.o, .int .i64 m.b, .int .i64 m.t, .string m.v] (0, 0) _ rfl (Blk.set (Blk.set (Blk.set (Blk.set (Blk.set (Blk.set J1.out 0 _) 1 _) 2 _) 3 _) 4 _) 5 _) Try.underlying111 rfl (by kernel_rfl)) rfl ?_
  have G : ∀ (a b c d e f : Value), w4.grownBy ((((((w4.setCell ⟨R, 0, none⟩ a).setCell ⟨R, 1, none⟩ b).setCell ⟨R, 2, none⟩ c).setCell ⟨R, 3, none⟩ d).setCell ⟨R, 4, none⟩ e).setCell ⟨R, 5, none⟩ f) (some R) := fun a b c d e f => gset (gset (gset (gset (gset (gset (World.grownBy.refl _ _) 0 a) 1 b) 2 c) 3 d) 4 e) 5 f
  have hnR : ∀ {G0 : Nat}, InA { A with na := some ⟨g, 0, none⟩, nc := A.nc } G0 → G0 ≠ R := fun {G0} hG e => by
    rcases HP.out.2.rows G0 hG with e2 | e2
    · have := (HV.out.o.inA e2).2
      have := hRM.out
      omega
    · have := hRM.out
      rcases inA_N hG with e3 | ⟨x, hx, e3⟩
      · have := (HV.out.o.inA e3).2
        omega
      · injection hx with hx
        subst hx
        have : g = G0 := e3
        omega
  refine ⟨rfl, _, HP.out.1.farR nRB (fun e => hnR e rfl) (G _ _ _ _ _ _), (((FrB.refl A B w).below B0.out).trans HP.out.2).step (G _ _ _ _ _ _) (fun q hq => by injection hq with hq; subst hq; exact .inr (.inr hRM.out.1))⟩
end Go.Proofs.Ytgehdgmllilmgaa
namespace Go.Proofs.Ytgehdgmllilmgaa
open Go.RowKit
set_option linter.unusedVariables false

set_option maxRecDepth 100000 in
set_option maxHeartbeats 2000000 in
theorem implTwice_any (c : Cn) (A : CA) (B base : Nat) (w : World) (k : Nat) (m : Nt) (h : VaO base w B A c) (hk : k < c.ns.length) (nn : c.ns.length ≤ 100000) (hm : ntAt c k = m) :
    Calls Try.prog 77 #[.pointer (some ⟨B, 0, none⟩), .int .i64 (k : Int)] w fun e w' => e = .returned (.tuple #[]) ∧ (∃ A', VaO base w' B A' { c with ns := c.ns ++ [m] } ∧ FrB A B w A' w') := by
  obtain ⟨g, hna, hgB, hgl, hc⟩ := h.noteAt hk
  rw [hm] at hc
  have x0 : w.cell? ⟨g, k * 6, none⟩ = some (.int .i64 m.k) := hc 0 (by omega)
  have x1 : w.cell? ⟨g, k * 6 + 1, none⟩ = some (.int .i64 m.f) := hc 1 (by omega)
  have x2 : w.cell? ⟨g, k * 6 + 2, none⟩ = some (.int .i64 m.o) := hc 2 (by omega)
  have x3 : w.cell? ⟨g, k * 6 + 3, none⟩ = some (.int .i64 m.b) := hc 3 (by omega)
  have x4 : w.cell? ⟨g, k * 6 + 4, none⟩ = some (.int .i64 m.t) := hc 4 (by omega)
  have x5 : w.cell? ⟨g, k * 6 + 5, none⟩ = some (.string m.v) := hc 5 (by omega)
  have z2 := h.cells.2.2.1
  rw [hna] at z2
  have HV := hide1 h
  have lB : B < w.heap.size := h.b.lt
  have k1 : (k : Int) < (c.ns.length : Int) := by omega
  have k0 : (0 : Int) ≤ (k : Int) := by omega
  have F0 := hide1 (And.intro (Blk.new w 111 #[.int .i64 m.k, .int .i64 m.f, .int .i64 m.o, .int .i64 m.b, .int .i64 m.t, .string m.v]) ((Below.refl w.heap.size w).alloc (Nat.le_refl _) (.cells #[.int .i64 m.k, .int .i64 m.f, .int .i64 m.o, .int .i64 m.b, .int .i64 m.t, .string m.v] 111)))
  clear h hc hm hna
  go_enter Try.func77, Try.ntmps77
  go_upto_region 1 with fail
  generalize (w.alloc (.cells #[.int .i64 m.k, .int .i64 m.f, .int .i64 m.o, .int .i64 m.b, .int .i64 m.t, .string m.v] 111)) = u at F0 ⊢
  obtain ⟨M, hM⟩ : ∃ M, M = w.heap.size := ⟨_, rfl⟩
  have K1 := hide1 F0.out.1
  have B0 := hide1 F0.out.2
  rw [← hM] at K1 ⊢
  have hMw : Hid (w.heap.size ≤ M) := hide1 (by omega)
  have nMB : M ≠ B := by omega
  clear hM x0 x1 x2 x3 x4 x5 z2 F0
  have y5 : u.cell? ⟨M, 5, none⟩ = some (.string m.v) := K1.out.cell 5
  go_wp2_with fail
  refine (newB_any m.v u).mono ?_
  rintro e w2 ⟨rfl, hb2⟩
  have K2 := hide1 (K1.out.below hb2 K1.out.lt)
  have D2 := hide1 (B0.out.trans (hb2.mono B0.out.size))
  clear y5 hb2 K1 B0
  have y5 : w2.cell? ⟨M, 5, none⟩ = some (.string m.v) := K2.out.cell 5
  have yf : w2.frozen? ⟨M, 5, none⟩ = false := K2.out.froz 5
  have K3 := hide1 (show Blk (w2.setCell ⟨M, 5, none⟩ (.string m.v)) M 111 [.int .i64 m.k, .int .i64 m.f, .int .i64 m.o, .int .i64 m.b, .int .i64 m.t, .string m.v] from K2.out.set 5 (.string m.v))
  have D3 := hide1 (D2.out.setCell (p := ⟨M, 5, none⟩) hMw.out (.string m.v))
  clear K2 D2
  go_upto_region 2 with fail
  generalize w2.setCell ⟨M, 5, none⟩ (.string m.v) = w3 at K3 D3 ⊢
  clear y5 yf
  have HV3 := hide1 (HV.out.kept D3.out)
  have y0 : w3.cell? ⟨M, 0, none⟩ = some (.int .i64 m.k) := K3.out.cell 0
  have y1 : w3.cell? ⟨M, 1, none⟩ = some (.int .i64 m.f) := K3.out.cell 1
  have y2 : w3.cell? ⟨M, 2, none⟩ = some (.int .i64 m.o) := K3.out.cell 2
  have y3 : w3.cell? ⟨M, 3, none⟩ = some (.int .i64 m.b) := K3.out.cell 3
  have y4 : w3.cell? ⟨M, 4, none⟩ = some (.int .i64 m.t) := K3.out.cell 4
  have y5 : w3.cell? ⟨M, 5, none⟩ = some (.string m.v) := K3.out.cell 5
  have g2 := HV3.out.cells.2.2.1
  have zf : w3.frozen? ⟨B, 2, none⟩ = false := HV3.out.b.froz 2
  have lB3 : B < w3.heap.size := HV3.out.b.lt
  have lM3 : M < w3.heap.size := K3.out.lt
  go_region_law ((refine step_sayN HV3.out (by go_grown) rfl (.tmp 20) (.tmp 22) rfl rfl (some ⟨_, 0, none⟩) 1 1 [m] rfl rfl (by first | exact rd_one encN (Blk.new _ _ _) | exact rd_one encN (blkE1 _ _)) (show c.ns.length + 1 ≤ 1048576 by omega) ?_; intro b5 c5 w5 hs5; have S5 := hide1 hs5; clear hs5 g2 zf y0 y1 y2 y3 y4 y5; have g2 : w5.cell? ⟨B, 2, none⟩ = some (.slice A.na c.ns.length A.nc) := S5.out.b.cell 2; have zf : w5.frozen? ⟨B, 2, none⟩ = false := S5.out.b.froz 2))
  all_goals
    refine bodyPost_end (results_none Try.results77 _ _ _) rfl ?_
    exact ⟨rfl, _, S5.out.v, ((FrB.refl _ _ _).below D3.out).trans S5.out.f⟩
end Go.Proofs.Ytgehdgmllilmgaa
