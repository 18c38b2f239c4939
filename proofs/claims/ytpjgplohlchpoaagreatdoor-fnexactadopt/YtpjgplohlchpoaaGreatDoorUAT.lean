/- slices.Sort at []int upon a row of one's own; slices.Sorted over slices.Values. -/
import Derived.Test.YtpjgplohlchpoaaGreatDoorUAS
import Derived.Test.YtpjgplohlchpoaaGreatDoorSetK
import Derived.Test.YtpjgplohlchpoaaGreatDoorUAH
import Derived.Test.YtpjgplohlchpoaaGreatDoorUAE
import Derived.Sort.OwnSortedInts
import Derived.Test.YtpjgplohlchpoaaGreatDoorAdH
import Derived.Test.YtpjgplohlchpoaaGreatDoorUAL
import Derived.Test.YtpjgplohlchpoaaGreatDoorUAN
namespace Go.Proofs.YtpjgplohlchpoaaGreatDoor
open Go.RowKit Go.Shelf Go.Sort Go.Proofs
set_option linter.unusedVariables false

def srtZ (l : List Int) : List Int := l.mergeSort (fun x y => decide (x ≤ y))
theorem srtZ_len (l : List Int) : (srtZ l).length = l.length := List.length_mergeSort l
theorem srt_oth {v : List Int} (id : Int) (h : okView v) : srtZ (wthV v id) = othV v id := by
  have hd : (wthV v id).Nodup := List.Pairwise.filter _ h.2.2
  have hp : (srtZ (wthV v id)).Perm (othV v id) := by
    refine (List.mergeSort_perm _ _).trans ?_
    refine (List.perm_ext_iff_of_nodup hd (List.Pairwise.filter _ (by decide : ([1, 2, 3, 4, 5, 6] : List Int).Nodup))).2 (fun x => ?_)
    unfold wthV
    simp only [List.mem_filter, decide_eq_true_eq, Bool.and_eq_true]
    constructor
    · rintro ⟨h1, h2⟩
      have := h.2.1 x h1
      refine ⟨?_, h2, h1⟩
      have : x = 1 ∨ x = 2 ∨ x = 3 ∨ x = 4 ∨ x = 5 ∨ x = 6 := by omega
      rcases this with e | e | e | e | e | e <;> subst e <;> decide
    · rintro ⟨_, h2, h3⟩
      exact ⟨h3, h2⟩
  refine List.Perm.eq_of_pairwise (le := fun x y => x ≤ y) (fun a b _ _ h1 h2 => Int.le_antisymm h1 h2) ?_ ?_ hp
  · have := List.pairwise_mergeSort (le := fun (x y : Int) => decide (x ≤ y)) (fun a b c h1 h2 => by simp only [decide_eq_true_eq] at *; omega) (fun a b => by simp only [Bool.or_eq_true, decide_eq_true_eq]; omega) (wthV v id)
    exact this.imp (fun h => by simpa using h)
  · exact List.Pairwise.filter _ (by decide)
set_option maxRecDepth 100000 in
theorem sortZ_any (b : Option Addr) (c base : Nat) (l : List Int) (w : World) (hl : l.length ≤ 1048576) (ho : w.ownsRow base 3 1 (.slice b l.length c) l.length (iz l)) :
    Calls Tryz.prog 99 #[.slice b l.length c] w fun e w' => e = .returned (.tuple #[]) ∧ w'.ownsRow base 3 1 (.slice b l.length c) l.length (iz (srtZ l)) ∧ w.grownBy w' (Value.slice b l.length c).ownBlock := by
  have ez : ∀ l : List Int, iz l = l.map (Value.int .i64) := fun l => rfl
  rcases ho.2 with ⟨hv, h0⟩ | ⟨g, cap, cur, hv, h1, h2, h3, h4, h5, h6⟩
  · have hl0 : l = [] := by cases l with | nil => rfl | cons a l => simp at h0
    subst hl0
    refine (AnyM.slices_Sort_int_none sortA b c w).mono (fun e w' h => ?_)
    obtain ⟨rfl, rfl⟩ := h
    exact ⟨rfl, (by rw [show srtZ [] = [] from List.eq_nil_of_length_eq_zero (srtZ_len [])]; exact ho), World.grownBy.refl _ _⟩
  · have hb : b = some ⟨g, 0, none⟩ := by injection hv
    have hc : c = cap := by injection hv
    subst hb hc
    have hh : Holds (Value.int .i64) w g 0 l.toArray := holds_of_blockI h2 (by rw [← ez]; simpa [iz] using h6)
    refine (AnyM.slices_Sort_int sortA g 0 c l w hh (Array.getElem?_eq_some_iff.1 h2).1 (by omega)).mono (fun e w' h => ?_)
    obtain ⟨rfl, n, os, rfl⟩ := h
    refine ⟨rfl, ?_, grownBy_sortedI _⟩
    rw [ez]
    exact ownsRow_sortedI (by exact srtZ_len l) h1 h2 h3 h4 h5
set_option maxRecDepth 100000 in
theorem sortedV_any (Bs : Nat) (ao : Option Addr) (ls : List Int) (ca : Nat) (hls : ls.length ≤ 1048576) (w : World) (hc : w.cell? ⟨Bs, 0, none⟩ = some (.slice ao ls.length ca)) (hR : RdZ w ao ls) :
    Calls Tryz.prog 76 #[.func (.func 100) #[] #[.pointer (some ⟨Bs, 0, none⟩)]] w fun e w' => ∃ b c, e = .returned (.slice b ls.length c) ∧ OwnK w' w.heap.size b c (srtZ ls) ∧ Below w.heap.size w w' := by
  have C := hide1 (collectZ_any Bs ao ls ca hls w hc hR.g)
  clear hc hR
  go_enter Tryz.func76, Tryz.ntmps76
  go_wp2_with fail
  refine C.out.mono ?_
  rintro e w2 ⟨b, c, rfl, ho, hb⟩
  rw [row_z] at ho
  have HB := hide1 hb
  have D := hide1 (sortZ_any b c w.heap.size ls w2 hls ho)
  have HL := hide1 ho.lt
  clear ho hb
  go_wp2_with fail
  refine D.out.mono ?_
  rintro e w3 ⟨rfl, ho, hg⟩
  have HO := hide1 ho
  have HG := hide1 (gbelow hg (fun g e => (HL.out g e).1) HB.out.size)
  clear ho hg
  go_wp2
  go_ret
  refine ⟨b, c, rfl, ?_, HB.out.trans HG.out⟩
  unfold OwnK
  rw [srtZ_len]
  exact HO.out
theorem valuesC_any (ao : Option Addr) (len ca : Nat) (w : World) :
    Calls Tryz.prog 77 #[.slice ao len ca] w fun e w' => e = .returned (.func (.func 100) #[] #[.pointer (some ⟨w.heap.size, 0, none⟩)]) ∧ w' = w.alloc (.cells #[.slice ao len ca] 22) :=
  (callsIn_wide (n := 6)).1 (values_any ao len ca w)
end Go.Proofs.YtpjgplohlchpoaaGreatDoor
namespace Go.Proofs.YtpjgplohlchpoaaGreatDoor
open Go.RowKit
set_option linter.unusedVariables false

theorem SeA.items {S : Nat} {w w3 : World} {X : Nat} {q : Int} {v : Value} {m : Mb} {A : MA} {b : Option Addr} {c : Nat} {D : List Mv} (h : SeA S w X q v m A b c D) (hb : Below w.heap.size w w3) {a : Option Addr} {is : List Im} {ic : Nat} (hI : w3.ownsRow w.heap.size 34 3 (.slice a is.length ic) is.length (rowG imC is)) :
    SeA S ((w3.setCell ⟨X, 6, none⟩ (.bool true)).setCell ⟨X, 10, none⟩ (.slice a is.length ic)) X q v { m with ba := true, is := is } { A with ia := a, ic := ic } b c D ∧ FrX (fun g => g < w.heap.size ∧ g ≠ X) w ((w3.setCell ⟨X, 6, none⟩ (.bool true)).setCell ⟨X, 10, none⟩ (.slice a is.length ic)) := by
  have g2 : w3.grownBy ((w3.setCell ⟨X, 6, none⟩ (.bool true)).setCell ⟨X, 10, none⟩ (.slice a is.length ic)) (some X) := gset (gset (World.grownBy.refl w3 (some X)) 6 _) 10 _
  have h3 := h.later hb
  have hX : ∀ g, w.heap.size ≤ g → g ≠ X := fun g hg e => by have := h.bx.lt; omega
  refine h.grow (gtrans (gnew hb) g2) ((h3.bx.setc 6 (.bool true)).setc 10 (.slice a is.length ic)) ⟨gown g2 h3.mo.wo (fun g hg e => h.mx (.inl (by injection e with e; rw [e]; exact hg))), own_base (gown g2 hI (fun g hg e => hX g (hI.lt g hg).1 (by injection e with e; exact e.symm))) h.size, gown g2 h3.mo.lo (fun g hg e => h.mx (.inr (.inr (by injection e with e; rw [e]; exact hg)))), fun g h1 h2 => ?_, h.mo.wl, fun g h1 h2 => ?_⟩ (fun g hg => ?_)
  · have := (h.mo.wo.lt g h1).2; have := (hI.lt g h2).1; omega
  · have := (h.mo.lo.lt g h2).2; have := (hI.lt g h1).1; omega
  · rcases hg with h1 | h1 | h1
    · exact .inl (.inl h1)
    · exact .inr (hI.lt g h1).1
    · exact .inl (.inr (.inr h1))
theorem SeA.waits {S : Nat} {w w3 : World} {X : Nat} {q : Int} {v : Value} {m : Mb} {A : MA} {b : Option Addr} {c : Nat} {D : List Mv} (h : SeA S w X q v m A b c D) (hb : Below w.heap.size w w3) {a : Option Addr} {l : List Int} {lc : Nat} (hI : OwnK w3 w.heap.size a lc l) :
    SeA S (w3.setCell ⟨X, 9, none⟩ (.slice a l.length lc)) X q v { m with wa := l } { A with wa := a, wc := lc } b c D ∧ FrX (fun g => g < w.heap.size ∧ g ≠ X) w (w3.setCell ⟨X, 9, none⟩ (.slice a l.length lc)) := by
  have g2 : w3.grownBy (w3.setCell ⟨X, 9, none⟩ (.slice a l.length lc)) (some X) := gset (World.grownBy.refl w3 (some X)) 9 _
  have h3 := h.later hb
  have hX : ∀ g, w.heap.size ≤ g → g ≠ X := fun g hg e => by have := h.bx.lt; omega
  refine h.grow (gtrans (gnew hb) g2) (h3.bx.setc 9 (.slice a l.length lc)) ⟨own_base (gown g2 hI (fun g hg e => hX g (hI.lt g hg).1 (by injection e with e; exact e.symm))) h.size, gown g2 h3.mo.io (fun g hg e => h.mx (.inr (.inl (by injection e with e; rw [e]; exact hg)))), gown g2 h3.mo.lo (fun g hg e => h.mx (.inr (.inr (by injection e with e; rw [e]; exact hg)))), fun g h1 h2 => ?_, fun g h1 h2 => ?_, h.mo.il⟩ (fun g hg => ?_)
  · have := (h.mo.io.lt g h2).2; have := (hI.lt g h1).1; omega
  · have := (h.mo.lo.lt g h2).2; have := (hI.lt g h1).1; omega
  · rcases hg with h1 | h1 | h1
    · exact .inr (hI.lt g h1).1
    · exact .inl (.inr (.inl h1))
    · exact .inl (.inr (.inr h1))
theorem SeA.serves {S : Nat} {w : World} {X : Nat} {q : Int} {v : Value} {m : Mb} {A : MA} {b : Option Addr} {c : Nat} {D : List Mv} (h : SeA S w X q v m A b c D) (t : Bool) :
    SeA S (w.setCell ⟨X, 8, none⟩ (.bool t)) X q v { m with se := t } A b c D ∧ FrX (fun g => g < w.heap.size ∧ g ≠ X) w (w.setCell ⟨X, 8, none⟩ (.bool t)) := by
  have g2 : w.grownBy (w.setCell ⟨X, 8, none⟩ (.bool t)) (some X) := gset (World.grownBy.refl w (some X)) 8 _
  exact h.grow g2 (h.bx.setc 8 (.bool t)) ⟨gown g2 h.mo.wo (fun g hg e => h.mx (.inl (by injection e with e; rw [e]; exact hg))), gown g2 h.mo.io (fun g hg e => h.mx (.inr (.inl (by injection e with e; rw [e]; exact hg)))), gown g2 h.mo.lo (fun g hg e => h.mx (.inr (.inr (by injection e with e; rw [e]; exact hg)))), h.mo.wi, h.mo.wl, h.mo.il⟩ (fun g hg => .inl hg)
/-- What was there from S on, in a world behind a frame. -/
theorem FrX.belS {S X : Nat} {w w' : World} {Y : Nat → Prop} (f : FrX (fun g => g < w.heap.size ∧ g ≠ X ∧ ¬ Y g) w w') (hX : S ≤ X) (hw : S ≤ w.heap.size) (hY : ∀ g, Y g → S ≤ g) : Below S w w' := f.bel (fun k hk => ⟨by omega, by omega, fun h => by have := hY k h; omega⟩)
theorem FrX.belT {S X : Nat} {w w' : World} (f : FrX (fun g => g < w.heap.size ∧ g ≠ X) w w') (hX : S ≤ X) (hw : S ≤ w.heap.size) : Below S w w' := f.bel (fun k hk => ⟨by omega, by omega⟩)
theorem oth_nilZ {v : List Int} (id : Int) (h : okView v) : othV v id = [] ↔ (wthV v id).length = 0 := by
  rw [← srt_oth id h]
  constructor
  · intro e; rw [← srtZ_len, e]; rfl
  · intro e; exact List.eq_nil_of_length_eq_zero (by rw [srtZ_len]; exact e)
set_option maxRecDepth 100000 in
set_option maxHeartbeats 8000000 in
theorem haveState_any {S X : Nat} {q : Int} {va : Option Addr} {L : List Vw} {vc : Nat} {m : Mb} {A : MA} {b : Option Addr} {c : Nat} {D : List Mv} (k : Nat) (hk : k < L.length) (a : Option Addr) (is : List Im) (ic : Nat) (w : World) (h : SeA S w X q (.slice va L.length vc) m A b c D) (hep : m.ep = (k : Int) + 1) (hD : D.length ≤ 900) (hl : is.length ≤ 1048576) (hA : RdG imC 3 w a is)
    (hL : L.length ≤ 1048576) (hV : ∀ u, Below S w u → RdVs u va L) (hok : okView L[k].l) :
    Calls Tryz.prog 58 #[.pointer (some ⟨X, 0, none⟩), .slice a is.length ic] w fun e w' => e = .returned (.tuple #[]) ∧ (∃ (b' : Option Addr) (c' : Nat) (E : List Mv) (A' : MA), E.map (·.m) = (hasM m L[k].l is).2 ∧ SeA S w' X q (.slice va L.length vc) (hasM m L[k].l is).1 A' b' c' (D ++ E)) ∧ Below S w w' := by
  have vlen : L[k].l.length ≤ 4 := hok.1.2
  have SO := hide1 (srt_oth m.id hok)
  have ON := hide1 (oth_nilZ m.id hok)
  have H := hide1 h
  have HA := hide1 hA
  have HV := hide1 hV
  have x4 : w.cell? ⟨X, 4, none⟩ = some (.int .i64 ((k : Int) + 1)) := by rw [← hep]; exact h.bx.cell 4 rfl
  have CV := hide1 (fun u (hb : Below w.heap.size w u) => implViewOf_any X (.int .i32 q) (.int .u32 0) (.slice b D.length c) (.slice none 0 0) m A va L vc k hk u (hX := h.bx.below hb h.bx.lt) hL (hV u (hb.mono h.size)))
  have CO := hide1 (fun u (hb : Below w.heap.size w u) => implOthers_any X (.int .i32 q) (.int .u32 0) (.slice va L.length vc) (.slice b D.length c) (.slice none 0 0) m A L[k].a L[k].l L[k].c u (h.bx.below hb h.bx.lt) (by omega) ((hV u (hb.mono h.size)).v _ (List.getElem_mem hk)))
  generalize L[k].l = vl at *
  generalize L[k].a = vla at *
  generalize L[k].c = vlc at *
  have hm2 : hasM m vl is = ({ m with ba := true, is := is, wa := othV vl m.id, se := decide (othV vl m.id = []) }, (wthV vl m.id).map (fun t => ⟨3, m.id, t, m.ep, 0, is⟩)) := rfl
  rw [hm2]
  have wl : (wthV vl m.id).length ≤ 4 := Nat.le_trans (wth_le _ _) vlen
  obtain ⟨n, hn⟩ : ∃ n, n = (wthV vl m.id).length := ⟨_, rfl⟩
  have HN := hide1 hn
  rw [← hn] at CO wl
  clear h hA hV hn hok hm2
  go_enter Tryz.func58, Tryz.ntmps58
  go_upto_region 1 with (first | (go_at_call 60; refine (CV.out _ (Below.refl _ _)).mono ?_; rintro e w1 ⟨rfl, hw1⟩; rw [hw1]; clear hw1 w1) | (go_at_call 59; refine (CO.out _ (Below.refl _ _)).mono ?_; rintro e w2 ⟨oa, oc, rfl, ho, hb⟩; have HO := hide1 ho; have B2 := hide1 hb; clear ho hb))
  have sw : S ≤ w.heap.size := H.out.size
  have sX : S ≤ X := H.out.hX
  have H2 := hide1 (H.out.later B2.out)
  have BS2 := hide1 (B2.out.mono sw)
  have s2 : w.heap.size ≤ w2.heap.size := B2.out.size
  have HO2 := hide1 (show w2.ownsRow S 3 1 (.slice oa n oc) n (iz (wthV vl m.id)) from by rw [HN.out]; exact HO.out.base sw)
  have NO := hide1 (fun g (hg : (Value.slice oa n oc).ownBlock = some g) => (show g ≠ X ∧ ¬ InD b c D g ∧ g < w2.heap.size from ⟨fun e => by have := (HO.out.lt g (by rw [← HN.out]; exact hg)).1; have := H.out.bx.lt; omega, fun e => by have := (HO.out.lt g (by rw [← HN.out]; exact hg)).1; have := (H.out.tw.lt e).2; omega, (HO.out.lt g (by rw [← HN.out]; exact hg)).2⟩))
  have CN := hide1 (newItems_any a is ic w2 hl (HA.out.later B2.out))
  clear x4 CV CO HO B2 HA H
  go_upto_region 2 with (go_at_call 65; refine CN.out.mono ?_; rintro e w3 ⟨rfl, ho, hb⟩; have HI := hide1 ho; have B3 := hide1 hb; clear ho hb; have c6 := (H2.out.later B3.out).bx.cell 6 rfl; have c10 := (H2.out.later B3.out).bx.cell 10 rfl; have f6 := (H2.out.later B3.out).bx.froz 6; have f10 := (H2.out.later B3.out).bx.froz 10; have lX3 : X < w3.heap.size := (H2.out.later B3.out).bx.lt)
  have P1 := H2.out.items B3.out HI.out
  have s3 : w2.heap.size ≤ w3.heap.size := B3.out.size
  clear c6 c10 f6 f10 H2 B3 HI CN
  obtain ⟨ib, hib⟩ : ∃ ib : Option Addr, ib = some ⟨w2.heap.size, 0, none⟩ := ⟨_, rfl⟩
  rw [← hib] at P1 ⊢
  clear hib
  generalize ((w3.setCell ⟨X, 6, none⟩ (.bool true)).setCell ⟨X, 10, none⟩ (.slice ib is.length is.length)) = w4 at P1 ⊢
  have H4 := hide1 P1.1
  have F4 := hide1 P1.2
  have BS4 := hide1 (BS2.out.trans (F4.out.belT sX (by omega)))
  have HO4 := hide1 (own_blkT HO2.out F4.out.size (fun g hg => F4.out.block g ⟨(NO.out g hg).2.2, (NO.out g hg).1⟩))
  have s4 : w2.heap.size ≤ w4.heap.size := F4.out.size
  have hln : (othV vl m.id).length = n := by rw [← SO.out, srtZ_len, HN.out]
  have EV4 := hide1 ((Below.refl w4.heap.size w4).alloc (Nat.le_refl _) (.cells #[.slice oa n oc] 22))
  have CS := hide1 (show Calls Tryz.prog 76 #[.func (.func 100) #[] #[.pointer (some ⟨w4.heap.size, 0, none⟩)]] (w4.alloc (.cells #[.slice oa n oc] 22)) fun e w' => ∃ b c, e = .returned (.slice b n c) ∧ OwnK w' (w4.alloc (.cells #[.slice oa n oc] 22)).heap.size b c (othV vl m.id) ∧ Below (w4.alloc (.cells #[.slice oa n oc] 22)).heap.size (w4.alloc (.cells #[.slice oa n oc] 22)) w' from by
    have h := sortedV_any w4.heap.size oa (wthV vl m.id) oc (by rw [← HN.out]; omega) (w4.alloc (.cells #[.slice oa n oc] 22)) (by rw [← HN.out]; exact (Blk.new w4 22 #[.slice oa n oc]).cell 0) (rdZ_of_own (own_kept HO4.out EV4.out))
    rw [← HN.out, SO.out] at h
    exact h)
  clear P1 F4 HO2 BS2
  go_upto_region 3 with (first | (go_at_call 77; refine (valuesC_any oa n oc _).mono ?_; rintro e w5 ⟨rfl, hw5⟩; rw [hw5]; clear hw5 w5) | (go_at_call 76; refine CS.out.mono ?_; rintro e w6 ⟨pb, pc, rfl, ho, hb⟩; have HP := hide1 ho; have B6 := hide1 (EV4.out.trans (hb.mono EV4.out.size)); clear ho hb; have c9 := (H4.out.later B6.out).bx.cell 9 rfl; have f9 := (H4.out.later B6.out).bx.froz 9; have lX6 : X < w6.heap.size := (H4.out.later B6.out).bx.lt))
  have P2 := H4.out.waits B6.out (HP.out.base EV4.out.size)
  rw [hln] at P2
  have s6 : w4.heap.size ≤ w6.heap.size := B6.out.size
  clear c9 f9 B6 HP CS EV4 H4
  generalize (w6.setCell ⟨X, 9, none⟩ (.slice pb n pc)) = w7 at P2 ⊢
  have H7 := hide1 P2.1
  have s7 : w4.heap.size ≤ w7.heap.size := P2.2.size
  have NO7 := hide1 (fun g hg => (show g < w4.heap.size ∧ g ≠ X ∧ ¬ InD b c D g from ⟨Nat.lt_of_lt_of_le (NO.out g hg).2.2 s4, (NO.out g hg).1, (NO.out g hg).2.1⟩))
  have HO7 := hide1 (own_blkT HO4.out P2.2.size (fun g hg => P2.2.block g ⟨(NO7.out g hg).1, (NO7.out g hg).2.1⟩))
  have BS7 := hide1 (BS4.out.trans (P2.2.belT sX (by omega)))
  clear P2 HO4 BS4 NO
  obtain ⟨tt, htt⟩ : ∃ t, t = decide (othV vl m.id = []) := ⟨_, rfl⟩
  have e0 : ((n : Int) == 0) = tt := by
    rw [htt]
    have := ON.out
    rw [← HN.out] at this
    by_cases c0 : n = 0
    · rw [decide_eq_true (this.2 c0)]; simp [c0]
    · rw [decide_eq_false (fun e => c0 (this.1 e))]; simp; omega
  have HTT := hide1 htt
  clear htt
  have P3 := H7.out.serves tt
  have c8 := H7.out.bx.cell 8 rfl
  have f8 := H7.out.bx.froz 8
  have lX7 : X < w7.heap.size := H7.out.bx.lt
  go_upto_region 4 with fail
  clear c8 f8 lX7
  generalize (w7.setCell ⟨X, 8, none⟩ (.bool tt)) = w8 at P3 ⊢
  obtain ⟨M2, hM2⟩ : ∃ M : Mb, M = { m with ba := true, is := is, wa := othV vl m.id, se := tt } := ⟨_, rfl⟩
  obtain ⟨A2, hA2⟩ : ∃ A' : MA, A' = { A with ia := ib, ic := is.length, wa := pb, wc := pc } := ⟨_, rfl⟩
  have H8 := hide1 (show SeA S w8 X q (.slice va L.length vc) M2 A2 b c D from by rw [hM2, hA2]; exact P3.1)
  have s8 : w7.heap.size ≤ w8.heap.size := P3.2.size
  have NO8 := hide1 (fun g hg => (show g < w8.heap.size ∧ g ≠ X ∧ ¬ InD b c D g from ⟨by have := (NO7.out g hg).1; omega, (NO7.out g hg).2.1, (NO7.out g hg).2.2⟩))
  have HO8 := hide1 (own_blkT HO7.out P3.2.size (fun g hg => P3.2.block g ⟨by have := (NO7.out g hg).1; omega, (NO7.out g hg).2.1⟩))
  have BS8 := hide1 (BS7.out.trans (P3.2.belT sX (by omega)))
  have mid : M2.id = m.id := by rw [hM2]
  have mep : M2.ep = m.ep := by rw [hM2]
  have HMI := hide1 (show M2.is = is from by rw [hM2])
  have HM2 := hide1 hM2
  clear P3 H7 HO7 NO7 BS7 e0 hM2 hA2
  go_wp2
  go_loopw [42] (fun iv wr => ∃ (i : Nat) (td : Option Addr) (tc : Nat) (E : List Mv), i ≤ n ∧ iv = .int .i64 (i : Int) ∧ Hid (E.length = i) ∧ Hid (E.map (·.m) = ((wthV vl m.id).take i).map (fun t => (⟨3, m.id, t, m.ep, 0, is⟩ : Ms))) ∧ Hid (SeA S wr X q (.slice va L.length vc) M2 A2 td tc (D ++ E)) ∧ Hid (wr.ownsRow S 3 1 (.slice oa n oc) n (iz (wthV vl m.id))) ∧ Hid (∀ g, (Value.slice oa n oc).ownBlock = some g → g < wr.heap.size ∧ g ≠ X ∧ ¬ InD td tc (D ++ E) g) ∧ Hid (Below S w wr)) (fun iv _ => n - (intOf iv).toNat)
  case atStart => exact ⟨0, b, c, [], Nat.zero_le _, rfl, hide1 rfl, hide1 rfl, hide1 (by rw [List.append_nil]; exact H8.out), HO8, hide1 (by rw [List.append_nil]; exact NO8.out), BS8⟩
  case round =>
    obtain ⟨i, td, tc, E, hi, rfl, HEL, HEM, HS, HOr, NOr, BSr⟩ := hrel
    by_cases hlt : i < n
    · have k1 : (i : Int) < (n : Int) := by omega
      have k0 : (0 : Int) ≤ (i : Int) := by omega
      have iw : i < (wthV vl m.id).length := by rw [← HN.out]; exact hlt
      obtain ⟨g, o, rfl, hg, hc⟩ := rdZ_of_own HOr.out i iw
      have x0 : wr.cell? ⟨g, o + i, none⟩ = some (.int .i64 (wthV vl m.id)[i]) := hc
      have c10 : wr.cell? ⟨X, 10, none⟩ = some (.slice A2.ia is.length A2.ic) := by rw [← HMI.out]; exact HS.out.bx.cell 10 rfl
      have CT := hide1 (tell_any 3 (wthV vl m.id)[i] 0 A2.ia is A2.ic wr HS.out (by rw [List.length_append, HEL.out]; omega) hl (by rw [← HMI.out]; exact HS.out.mo.rd.ir))
      rw [mid, mep] at CT
      clear hc
      go_wp2_with (go_at_call 61; refine CT.out.mono ?_; rintro e w9 ⟨rfl, ⟨td2, tc2, y, hy, hS9, hD9⟩, hF9⟩; have HY := hide1 hy; have S9 := hide1 hS9; have D9 := hide1 hD9; have F9 := hide1 hF9; clear hy hS9 hD9 hF9)
      go_roundw
      case rel =>
        have s9 : wr.heap.size ≤ w9.heap.size := F9.out.size
        refine ⟨i + 1, td2, tc2, E ++ [y], by omega, by go_num, hide1 (by rw [List.length_append, HEL.out]; rfl), hide1 ?_, hide1 (by rw [← List.append_assoc]; exact S9.out), hide1 (own_blkT HOr.out s9 (fun g hg => F9.out.block g (NOr.out g hg))), hide1 (fun g hg => ⟨Nat.lt_of_lt_of_le (NOr.out g hg).1 s9, (NOr.out g hg).2.1, fun e => ?_⟩), hide1 (BSr.out.trans (F9.out.belS sX HS.out.size (fun g hg => (HS.out.tw.lt hg).1)))⟩
        · rw [List.map_append, HEM.out, List.take_succ_eq_append_getElem iw, List.map_append]
          show _ ++ [y.m] = _
          rw [HY.out]
          rfl
        · rw [← List.append_assoc] at e
          rcases D9.out g e with h1 | h1
          · exact (NOr.out g hg).2.2 h1
          · have := (NOr.out g hg).1; omega
      case measure => simp [intOf] <;> omega
    · obtain rfl : i = n := by omega
      go_wp2
      go_end0
      refine ⟨rfl, ⟨td, tc, E, A2, ?_, ?_⟩, BSr.out⟩
      · rw [HEM.out, HN.out, List.take_length]
      · rw [← HTT.out, ← HM2.out]
        exact HS.out
end Go.Proofs.YtpjgplohlchpoaaGreatDoor
namespace Go.Proofs.YtpjgplohlchpoaaGreatDoor
open Go.RowKit
set_option linter.unusedVariables false

/-- What enter makes of a member. -/
def entM (m : Mb) (e : Int) : Mb := { id := m.id, ep := e, fe := false, ba := false, le := false, se := false, wa := [], is := m.is, cn := m.cn, tk := { op := 0, cl := 0, nu := 0, it := ⟨⟨#[]⟩, ⟨#[]⟩, 0⟩, lf := [] } }
def entA (A : MA) : MA := { A with wa := none, wc := 0, la := none, lc := 0 }
set_option maxRecDepth 100000 in
set_option maxHeartbeats 4000000 in
theorem implEnter_any (X : Nat) (q0 q1 v td sd : Value) (m : Mb) (A : MA) (e : Int) (w : World) (hX : BlkA w X 94 (seatA q0 q1 v m A td sd)) :
    Calls Tryz.prog 57 #[.pointer (some ⟨X, 0, none⟩), .int .i64 e] w fun r w' => r = .returned (.tuple #[]) ∧ BlkA w' X 94 (seatA q0 q1 v (entM m e) (entA A) td sd) ∧ w.grownBy w' (some X) := by
  have KX := hide1 hX
  have x4 : w.cell? ⟨X, 4, none⟩ = some (.int .i64 m.ep) := hX.cell 4 rfl
  have x5 : w.cell? ⟨X, 5, none⟩ = some (.bool m.fe) := hX.cell 5 rfl
  have x6 : w.cell? ⟨X, 6, none⟩ = some (.bool m.ba) := hX.cell 6 rfl
  have x7 : w.cell? ⟨X, 7, none⟩ = some (.bool m.le) := hX.cell 7 rfl
  have x8 : w.cell? ⟨X, 8, none⟩ = some (.bool m.se) := hX.cell 8 rfl
  have x9 : w.cell? ⟨X, 9, none⟩ = some (.slice A.wa m.wa.length A.wc) := hX.cell 9 rfl
  have x12 : w.cell? ⟨X, 12, none⟩ = some (.int .i64 m.tk.op) := hX.cell 12 rfl
  have x13 : w.cell? ⟨X, 13, none⟩ = some (.int .i64 m.tk.cl) := hX.cell 13 rfl
  have x14 : w.cell? ⟨X, 14, none⟩ = some (.int .i64 m.tk.nu) := hX.cell 14 rfl
  have x15 : w.cell? ⟨X, 15, none⟩ = some (.string m.tk.it.k) := hX.cell 15 rfl
  have x16 : w.cell? ⟨X, 16, none⟩ = some (.string m.tk.it.v) := hX.cell 16 rfl
  have x17 : w.cell? ⟨X, 17, none⟩ = some (.int .i64 m.tk.it.n) := hX.cell 17 rfl
  have x18 : w.cell? ⟨X, 18, none⟩ = some (.slice A.la m.tk.lf.length A.lc) := hX.cell 18 rfl
  have f4 := hX.froz 4
  have f5 := hX.froz 5
  have f6 := hX.froz 6
  have f7 := hX.froz 7
  have f8 := hX.froz 8
  have f9 := hX.froz 9
  have f12 := hX.froz 12
  have f13 := hX.froz 13
  have f14 := hX.froz 14
  have f15 := hX.froz 15
  have f16 := hX.froz 16
  have f17 := hX.froz 17
  have f18 := hX.froz 18
  clear hX
  go_enter Tryz.func57, Tryz.ntmps57
  go_wp2
  go_end0
  have B1 := ((((((((((((KX.out.setc 4 (.int .i64 e)).setc 5 (.bool false)).setc 6 (.bool false)).setc 7 (.bool false)).setc 8 (.bool false)).setc 9 (.slice none 0 0)).setc 12 (.int .i64 0)).setc 13 (.int .i64 0)).setc 14 (.int .i64 0)).setc 15 (.string ⟨#[]⟩)).setc 16 (.string ⟨#[]⟩)).setc 17 (.int .i64 0)).setc 18 (.slice none 0 0)
  exact ⟨rfl, B1, gset (gset (gset (gset (gset (gset (gset (gset (gset (gset (gset (gset (gset (gnew (Below.refl _ _)) 4 _) 5 _) 6 _) 7 _) 8 _) 9 _) 12 _) 13 _) 14 _) 15 _) 16 _) 17 _) 18 _⟩
end Go.Proofs.YtpjgplohlchpoaaGreatDoor
