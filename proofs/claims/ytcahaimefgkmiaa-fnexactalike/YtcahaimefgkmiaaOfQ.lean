/- A truth of all two of a row of members, the first function a bound method value. -/
import Derived.Test.YtcahaimefgkmiaaEaQ
import Derived.Test.YtcahaimefgkmiaaAlI
import Derived.Test.YtcahaimefgkmiaaOfP
namespace Go.Proofs.Ytcahaimefgkmiaa
open Go.RowKit Go.Shelf
set_option linter.unusedVariables false
attribute [local go_sem] Oper.semAt_some

/-- What holds of the members of a row that is read. -/
def OkMr (w : World) (x : Mr) : Prop := ZMr x ∧ RMr w x
noncomputable def spk_must {w0 : World} (g : Gv) (x y : MrP (OkMr w0)) : Bool := bo (MusG g.vs x.1.m y.1.m)
noncomputable def hld_must {w0 : World} (x y : MrP (OkMr w0)) : Bool := bo (x.1.m.is = y.1.m.is)
set_option maxRecDepth 100000 in
set_option maxHeartbeats 4000000 in
theorem of_must (g : Gv) (X : Nat) (ao : Option Addr) (w0 w : World) (ls : List (MrP (OkMr w0))) (ca : Nat) (hls : ls.length ≤ 1048576) (hbw : Below w0.heap.size w0 w) (hl : g.M.length ≤ 1048576) (hs : ∀ v ∈ g.M, v.l.length ≤ 1048576) (hX : BlkA w X 46 (grA g)) (hv : RdVs w g.va g.M) (hR : RdG mpC 16 w ao ls) :
    Calls Try.prog 46 #[.agg #[.func (.func 52) #[.pointer (some ⟨X, 0, none⟩)] #[], .func (.func 53) #[] #[]], .slice ao ls.length ca] w fun e w' => e = .returned (.bool (bo (OfL (spk_must g) hld_must ls))) ∧ Below w.heap.size w w' := by
  have HR := hide1 hR
  have CS := hide1 (fun (x y : MrP (OkMr w0)) W (h : Below w.heap.size w W) => mustMatch_any g x.1 y.1 X W hl hs (hX.below h hX.lt) (hv.later h))
  have CH := hide1 (fun (x y : MrP (OkMr w0)) W (h : Below w.heap.size w W) => sameItems_any x.1 y.1 W x.2.1 ((x.2.2.later hbw).later h) ((y.2.2.later hbw).later h))
  clear hR hX hv hs hbw
  refine (callsIn_wide (n := 6)).1 ?_
  refine callsIn_of_wp_marks Try.func46 rfl trivial ?_ rfl
  simp only [Try.ntmps46, List.size_toArray, List.length_cons, List.length_nil, Nat.reduceAdd, Nat.reduceSub, Array.replicate_succ, Array.replicate_zero, List.push_toArray, List.append_toArray, List.nil_append, List.cons_append]
  gi_wp2_with (refine ⟨trivial, ?_⟩; gi_at_call 68; refine (eachTwoMemberP_in Fence.wide _ trivial rfl _ _ _ _).mono ?_; rintro e w' ⟨rfl, rfl⟩)
  have bX := hide1 (BlkA.new w 76 #[.func (.func 52) #[.pointer (some ⟨X, 0, none⟩)] #[], .func (.func 53) #[] #[]])
  have bR := hide1 (Boxed.new (w.alloc (.cells #[.func (.func 52) #[.pointer (some ⟨X, 0, none⟩)] #[], .func (.func 53) #[] #[]] 76)) 4 (.bool false))
  have bL := hide1 (Boxed.new ((w.alloc (.cells #[.func (.func 52) #[.pointer (some ⟨X, 0, none⟩)] #[], .func (.func 53) #[] #[]] 76)).alloc (.cells #[.bool false] 4)) 43 (.slice ao ls.length ca))
  have bB := hide1 ((((Below.refl _ w).alloc (Nat.le_refl _) (.cells #[.func (.func 52) #[.pointer (some ⟨X, 0, none⟩)] #[], .func (.func 53) #[] #[]] 76)).alloc (by simp) (.cells #[.bool false] 4)).alloc (by simp; omega) (.cells #[.slice ao ls.length ca] 43))
  have hsz : (((w.alloc (.cells #[.func (.func 52) #[.pointer (some ⟨X, 0, none⟩)] #[], .func (.func 53) #[] #[]] 76)).alloc (.cells #[.bool false] 4)).alloc (.cells #[.slice ao ls.length ca] 43)).heap.size = w.heap.size + 3 := by simp
  have bX1 := hide1 ((bX.out.below ((Below.refl _ _).alloc (Nat.le_refl _) (.cells #[.bool false] 4)) bX.out.lt))
  have bX2 := hide1 ((bX1.out.below ((Below.refl _ _).alloc (Nat.le_refl _) (.cells #[.slice ao ls.length ca] 43)) bX1.out.lt))
  have bR2 := hide1 (bR.out.alloc (.cells #[.slice ao ls.length ca] 43))
  simp only [World.size_alloc] at bR2 bL
  obtain ⟨W0, hW0⟩ : ∃ W0, (((w.alloc (.cells #[.func (.func 52) #[.pointer (some ⟨X, 0, none⟩)] #[], .func (.func 53) #[] #[]] 76)).alloc (.cells #[.bool false] 4)).alloc (.cells #[.slice ao ls.length ca] 43)) = W0 := ⟨_, rfl⟩
  rw [hW0] at bL bB bX2 bR2 hsz ⊢
  clear hW0 bX bR bX1
  refine wpIn_rangeFunc_ownH rfl (by omega) (gf := 80) (lb := #[.pointer (some ⟨w.heap.size + 1 + 1, 0, none⟩)]) rfl trivial (enters_of Try.func80 (by kernel_rfl) rfl)
    (eachTwoMemberP_stops Fence.wide _ trivial rfl (by omega) (w.heap.size + 1 + 1) ao ls ca hls W0 (by omega) bL.out.cell (HR.out.later (bB.out))) (fun h k => h.t k) (fun W l o o' _ h hc _ => CK.put W l o o' h hc) (Below.refl _ _) (fun _ => rfl)
    (fun pre W => ((OfQ (spk_must g) hld_must pre) ∧ BlkA W w.heap.size 76 #[.func (.func 52) #[.pointer (some ⟨X, 0, none⟩)] #[], .func (.func 53) #[] #[]] ∧ Boxed W (w.heap.size + 1) 4 (.bool false)) ∧ Below w.heap.size w W)
    (fun c pre W => (c = .ret ∧ ¬ (OfQ (spk_must g) hld_must pre) ∧ Boxed W (w.heap.size + 1) 4 (.bool false)) ∧ Below w.heap.size w W)
    (OwnFrom.and (Own.from (fun s A B row hs hg hr => ⟨hs.1, (grownBy_keeps_cells hg hr hs.2.1 rfl).trans hs.2.1, (grownBy_keeps_cells hg hr hs.2.2 rfl).trans hs.2.2⟩) _) (ownFrom_below (Nat.le_refl _) (by omega)))
    (fun c => OwnFrom.and (Own.from (fun s A B row hs hg hr => ⟨hs.1, hs.2.1, (grownBy_keeps_cells hg hr hs.2.2 rfl).trans hs.2.2⟩) _) (ownFrom_below (Nat.le_refl _) (by omega)))
    ⟨⟨fun p hp => by simp at hp, bX2.out, bR2.out⟩, bB.out⟩
    (fun x a' W => ∃ B1 B2 : Nat, BlkA W B1 69 (mpA x.1) ∧ BlkA W B2 69 (mpA x.2) ∧ a' = { tmps := #[.agg #[.func (.func 52) #[.pointer (some ⟨X, 0, none⟩)] #[], .func (.func 53) #[] #[]], .slice ao ls.length ca, .pointer (some ⟨w.heap.size, 0, none⟩), undef, .pointer (some ⟨w.heap.size + 1, 0, none⟩), .pointer (some ⟨B1, 0, none⟩), .pointer (some ⟨B2, 0, none⟩), .slice ao ls.length ca, .func (.func 80) #[] #[.pointer (some ⟨w.heap.size + 1 + 1, 0, none⟩)], .agg (mpA x.1), .agg (mpA x.2), undef, undef, undef, undef, undef, undef, undef, undef, undef, undef, undef, undef, undef], defers := [] })
    (fun x a' s A B row hs hg hr => by
      obtain ⟨B1, B2, h1, h2, e⟩ := hs
      exact ⟨B1, B2, (grownBy_keeps_cells hg (fun r e => (hr r e).2) h1 rfl).trans h1, (grownBy_keeps_cells hg (fun r e => (hr r e).2) h2 rfl).trans h2, e⟩) ?assign ?body ?done ?stop
  case assign =>
    rintro l pre x W K hi hK
    have ONE1 := hide1 (oneMp x.1)
    have ONE2 := hide1 (oneMp x.2)
    gi_wp2_with (first | (refine wpListIn_store_row rfl 69 _ _ rfl W.heap.size (mpA x.1) rfl rfl 69 _ (heap_alloc_last _ _) sizeMb rfl ONE1.out ?_; rw [World.setRow_alloc_new]) | (refine wpListIn_store_row rfl 69 _ _ rfl (W.heap.size + 1) (mpA x.2) rfl rfl 69 _ (heap_alloc_two _ _ _) sizeMb rfl ONE2.out ?_; rw [setRow_alloc_two]))
    have FF := two_newT W 69 (mpA x.1) (mpA x.2)
    exact hK _ _ (keepsFrom_bel FF.2.2) (CK.bel FF.2.2) ⟨⟨hi.1.1, hi.1.2.1.below FF.2.2 hi.1.2.1.lt, boxed_bel hi.1.2.2 FF.2.2⟩, hi.2.trans (FF.2.2.mono hi.2.size)⟩ ⟨_, _, FF.1, FF.2.1, rfl⟩
  case body =>
    rintro l pre x a' W hl ⟨r, hr⟩ ⟨⟨hp, hX, hR1⟩, hB⟩ ⟨B1, B2, h1, h2, rfl⟩ hlt
    have x0 : W.cell? ⟨w.heap.size, 0, none⟩ = some (.func (.func 52) #[.pointer (some ⟨X, 0, none⟩)] #[]) := hX.cell 0 rfl
    have C1 := hide1 (fun W h => CS.out x.1 x.2 W h)
    have C2 := hide1 (fun W h => CH.out x.1 x.2 W h)
    have HP := hide1 hp
    have HB := hide1 hB
    have HX := hide1 hX
    have HR1 := hide1 hR1
    have H1 := hide1 h1
    have H2 := hide1 h2
    clear hp hB hX hR1 h1 h2 CS CH bL bB bX2 bR2
    by_cases hS : spk_must g x.1 x.2 = true
    · rw [show (bo (MusG g.vs x.1.1.m x.2.1.m)) = true from hS] at C1
      by_cases hH : hld_must x.1 x.2 = true
      · rw [show (bo (x.1.1.m.is = x.2.1.m.is)) = true from hH] at C2
        have QQ := hide1 (show OfQ (spk_must g) hld_must (pre ++ [x]) from fun p hp => by
          rcases List.mem_append.1 hp with h | h
          · exact HP.out p h
          · rw [List.mem_singleton.1 h]; exact fun _ => hH)
        clear hS hH
        gi_wp2_with (first | (refine ⟨trivial, ?_⟩; gi_at_call 52; refine (CallsIn.inRound l (callsIn_wide.2 (C1.out _ HB.out))).mono ?_; rintro e w2 ⟨rfl, hb2⟩; have D2 := hide1 hb2; have y1 : w2.cell? ⟨w.heap.size, 1, none⟩ = some (.func (.func 53) #[] #[]) := (HX.out.below D2.out HX.out.lt).cell 1 rfl; have J1 := hide1 (H1.out.below D2.out H1.out.lt); have J2 := hide1 (H2.out.below D2.out H2.out.lt); clear hb2) | (refine ⟨trivial, ?_⟩; gi_at_call 53; refine (CallsIn.inRound l (callsIn_wide.2 (C2.out _ (HB.out.trans (D2.out.mono HB.out.size))))).mono ?_; rintro e w3 ⟨rfl, hb3⟩; have D3 := hide1 (D2.out.trans (hb3.mono D2.out.size)); have r1 := (boxed_bel HR1.out D3.out).cell; have r2 := (boxed_bel HR1.out D3.out).frozen; clear hb3) | (refine wpListIn_load_A rfl 69 _ rfl B1 rfl 69 (mpA x.1) _ J1.out Try.underlying69 rfl sizeMb ?_) | (refine wpListIn_load_A rfl 69 _ rfl B2 rfl 69 (mpA x.2) _ J2.out Try.underlying69 rfl sizeMb ?_) | (refine wpListIn_load_A rfl 69 _ rfl B1 rfl 69 (mpA x.1) _ H1.out Try.underlying69 rfl sizeMb ?_) | (refine wpListIn_load_A rfl 69 _ rfl B2 rfl 69 (mpA x.2) _ H2.out Try.underlying69 rfl sizeMb ?_))
        exact ⟨keepsFrom_bel D3.out, CK.bel D3.out, ⟨QQ.out, HX.out.below D3.out HX.out.lt, boxed_bel HR1.out D3.out⟩, HB.out.trans (D3.out.mono HB.out.size)⟩
      · rw [show (bo (x.1.1.m.is = x.2.1.m.is)) = false from Bool.eq_false_iff.2 hH] at C2
        have QQ := hide1 (show ¬ OfQ (spk_must g) hld_must (pre ++ [x]) from fun h => hH (h x (by simp) hS))
        clear hS hH
        gi_wp2_with (first | (refine ⟨trivial, ?_⟩; gi_at_call 52; refine (CallsIn.inRound l (callsIn_wide.2 (C1.out _ HB.out))).mono ?_; rintro e w2 ⟨rfl, hb2⟩; have D2 := hide1 hb2; have y1 : w2.cell? ⟨w.heap.size, 1, none⟩ = some (.func (.func 53) #[] #[]) := (HX.out.below D2.out HX.out.lt).cell 1 rfl; have J1 := hide1 (H1.out.below D2.out H1.out.lt); have J2 := hide1 (H2.out.below D2.out H2.out.lt); clear hb2) | (refine ⟨trivial, ?_⟩; gi_at_call 53; refine (CallsIn.inRound l (callsIn_wide.2 (C2.out _ (HB.out.trans (D2.out.mono HB.out.size))))).mono ?_; rintro e w3 ⟨rfl, hb3⟩; have D3 := hide1 (D2.out.trans (hb3.mono D2.out.size)); have r1 := (boxed_bel HR1.out D3.out).cell; have r2 := (boxed_bel HR1.out D3.out).frozen; clear hb3) | (refine wpListIn_load_A rfl 69 _ rfl B1 rfl 69 (mpA x.1) _ J1.out Try.underlying69 rfl sizeMb ?_) | (refine wpListIn_load_A rfl 69 _ rfl B2 rfl 69 (mpA x.2) _ J2.out Try.underlying69 rfl sizeMb ?_) | (refine wpListIn_load_A rfl 69 _ rfl B1 rfl 69 (mpA x.1) _ H1.out Try.underlying69 rfl sizeMb ?_) | (refine wpListIn_load_A rfl 69 _ rfl B2 rfl 69 (mpA x.2) _ H2.out Try.underlying69 rfl sizeMb ?_))
        exact ⟨(keepsFrom_bel D3.out).trans ((KeepsOthers.setCell _ _ _).from _), ⟨rfl, QQ.out, boxed_set (boxed_bel HR1.out D3.out) _⟩, (HB.out.trans (D3.out.mono HB.out.size)).setCell (p := ⟨w.heap.size + 1, 0, none⟩) (by dsimp only; omega) _⟩
    · rw [show (bo (MusG g.vs x.1.1.m x.2.1.m)) = false from Bool.eq_false_iff.2 hS] at C1
      have QQ := hide1 (show OfQ (spk_must g) hld_must (pre ++ [x]) from fun p hp => by
        rcases List.mem_append.1 hp with h | h
        · exact HP.out p h
        · rw [List.mem_singleton.1 h]; exact fun h => absurd h hS)
      clear hS
      gi_wp2_with (first | (refine ⟨trivial, ?_⟩; gi_at_call 52; refine (CallsIn.inRound l (callsIn_wide.2 (C1.out _ HB.out))).mono ?_; rintro e w2 ⟨rfl, hb2⟩; have D2 := hide1 hb2; have y1 : w2.cell? ⟨w.heap.size, 1, none⟩ = some (.func (.func 53) #[] #[]) := (HX.out.below D2.out HX.out.lt).cell 1 rfl; have J1 := hide1 (H1.out.below D2.out H1.out.lt); have J2 := hide1 (H2.out.below D2.out H2.out.lt); clear hb2) | (refine wpListIn_load_A rfl 69 _ rfl B1 rfl 69 (mpA x.1) _ J1.out Try.underlying69 rfl sizeMb ?_) | (refine wpListIn_load_A rfl 69 _ rfl B2 rfl 69 (mpA x.2) _ J2.out Try.underlying69 rfl sizeMb ?_) | (refine wpListIn_load_A rfl 69 _ rfl B1 rfl 69 (mpA x.1) _ H1.out Try.underlying69 rfl sizeMb ?_) | (refine wpListIn_load_A rfl 69 _ rfl B2 rfl 69 (mpA x.2) _ H2.out Try.underlying69 rfl sizeMb ?_))
      refine ⟨fun _ h => (by cases h), ?_⟩
      gi_wp2
      exact ⟨keepsFrom_bel D2.out, CK.bel D2.out, ⟨QQ.out, HX.out.below D2.out HX.out.lt, boxed_bel HR1.out D2.out⟩, HB.out.trans (D2.out.mono HB.out.size)⟩
  case done =>
    rintro D xs W hD hxs ⟨⟨hp, hX, hR1⟩, hB⟩ hK
    have QA := hide1 (show OfL (spk_must g) hld_must ls from fun i hi k hk hne hs => hp (ls[i], ls[k]) (hxs.2 i hi k hk hne) hs)
    have r1 := hR1.cell
    have r2 := hR1.frozen
    have HR2 := hide1 (boxed_set hR1 (.bool true))
    clear hp hX hxs bL bB bX2 bR2 CS CH HR
    gi_wp2
    have hK' := (KeepsOthers.setCell W ⟨w.heap.size + 1, 0, none⟩ (.bool true)).same D _ hK rfl
    refine ⟨by simp, .inl ⟨_, _, rfl, run_takeDeferred hK', ?_⟩⟩
    have hc5 := cell_kept HR2.out.cell (grownBy_putObj' _ D (.deferred none)) (fun r e => by cases e; exact ⟨_, hK', rfl⟩)
    refine ⟨.bool true, ?_, by rw [bo_t QA.out], (hB.setCell (p := ⟨w.heap.size + 1, 0, none⟩) (by dsimp only; omega) _).trans (belowK_b (w := w) (Nat.le_refl _) _ D _ _ (by omega) hK' rfl rfl)⟩
    simp [results, Try.f46, go_sem, hc5]
  case stop =>
    rintro D c pre W hD hpre ⟨⟨rfl, hp, hR1⟩, hB⟩ hK
    have QA := hide1 (show ¬ OfL (spk_must g) hld_must ls from fun h => hp (fun p hp2 => by obtain ⟨i, hi, k, hk, hne, e⟩ := hpre p hp2; subst e; exact h i hi k hk hne))
    clear hp hpre bL bB bX2 bR2 CS CH HR
    gi_wp2
    refine ⟨by simp, .inl ⟨_, _, rfl, run_takeDeferred hK, ?_⟩⟩
    have hc5 := cell_kept hR1.cell (grownBy_putObj' _ D (.deferred none)) (fun r e => by cases e; exact ⟨_, hK, rfl⟩)
    refine ⟨.bool false, ?_, by rw [bo_f QA.out], hB.trans (belowK_b (w := w) (Nat.le_refl _) _ D _ _ (by omega) hK rfl rfl)⟩
    simp [results, Try.f46, go_sem, hc5]
/-- The same, told of the members themselves. -/
theorem of_alike (g : Gv) (X : Nat) (ao : Option Addr) (L : List Mr) (ca : Nat) (w : World) (hL : L.length ≤ 1048576) (hl : g.M.length ≤ 1048576) (hs : ∀ v ∈ g.M, v.l.length ≤ 1048576) (hX : BlkA w X 46 (grA g)) (hv : RdVs w g.va g.M)
    (hz : ∀ x ∈ L, ZMr x) (hR : RdMrs w ao L) :
    Calls Try.prog 46 #[.agg #[.func (.func 52) #[.pointer (some ⟨X, 0, none⟩)] #[], .func (.func 53) #[] #[]], .slice ao L.length ca] w fun e w' => e = .returned (.bool (bo (∀ i (hi : i < L.length) k (hk : k < L.length), i ≠ k → MusG g.vs L[i].m L[k].m → L[i].m.is = L[k].m.is))) ∧ Below w.heap.size w w' := by
  have HP : ∀ x ∈ L, OkMr w x := fun x hx => ⟨hz x hx, hR.e x hx⟩
  obtain ⟨ls, hls⟩ : ∃ ls : List (MrP (OkMr w)), ls = L.pmap (fun x h => ⟨x, h⟩) HP := ⟨_, rfl⟩
  have hlen : ls.length = L.length := by rw [hls]; simp
  have hget : ∀ i (hi : i < ls.length) (hi2 : i < L.length), ls[i].1 = L[i] := fun i hi hi2 => by subst hls; simp
  have hRd : RdG mpC 16 w ao ls := fun i hi => by
    obtain ⟨b, o, h1, h2, h3⟩ := hR.r i (by omega)
    refine ⟨b, o, h1, h2, fun j hj => ?_⟩
    rw [h3 j hj]
    show _ = (mrC ls[i].1)[j]?
    rw [hget i hi (by omega)]
  have C := of_must g X ao w w ls ca (by omega) (Below.refl _ _) hl hs hX hv hRd
  rw [hlen] at C
  refine C.mono ?_
  rintro e w' ⟨rfl, hb⟩
  refine ⟨?_, hb⟩
  congr 2
  refine bo_iff ⟨fun h i hi k hk hne hm => ?_, fun h i hi k hk hne hm => ?_⟩
  · have := h i (by omega) k (by omega) hne (by unfold spk_must; rw [hget i (by omega) hi, hget k (by omega) hk]; exact bo_t hm)
    unfold hld_must at this
    rw [hget i (by omega) hi, hget k (by omega) hk] at this
    exact bo_true.1 this
  · unfold spk_must at hm
    unfold hld_must
    rw [hget i hi (by omega), hget k hk (by omega)] at *
    exact bo_t (h i (by omega) k (by omega) hne (bo_true.1 hm))
end Go.Proofs.Ytcahaimefgkmiaa
