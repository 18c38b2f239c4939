/- What a board has, sorted, by the program. -/
import Derived.Test.YtahglnojllkjdaaTabKB
namespace Go.Proofs.Ytahglnojllkjdaa
open Go.RowKit

theorem sortE_length {es : List Ce} (hd : Dis es) : (sortE es).length = es.length := (sortE_asc hd).2.length_eq
theorem own_at2 {w : World} {base n : Nat} {e : TypeId} {v : Value} {xs : List Value} (h : w.ownsRow base e 2 v n xs) (hn : 0 < n) : ∃ g cap, v = .slice (some ⟨g, 0, none⟩) n cap ∧ base ≤ g := by
  rcases h.2 with ⟨_, h0⟩ | ⟨g, cap, cur, hv, hb, _⟩
  · omega
  · exact ⟨g, cap, hv, hb⟩
theorem sort_noneX (p : Option Addr) (cap : Nat) (w : World) : Calls Try.prog 76 #[.slice p 0 cap, .func (.func 77) #[] #[]] w fun e w' => e = .returned (.tuple #[]) ∧ w' = w := by
  have hcon := AnyF.slices_SortFunc_none sortC p cap (.func (.func 77) #[] #[]) w
  change Calls Try.prog 76 _ _ _ at hcon
  exact hcon
/-- What is gathered behind so many lists. -/
def gath (l o : List Ce) : Nat → List Ce
  | 0 => []
  | 1 => keyed l
  | _ => entT l o

set_option maxRecDepth 100000 in
set_option maxHeartbeats 4000000 in
theorem entries2_any {B b g mv : Nat} {w : World} {l o : List Ce} (h : Brd B w b g l o mv) (hl : l.length ≤ 64) (hl' : o.length ≤ 64) (hd : Dis (entT l o)) :
    Calls Try.prog 64 #[.pointer (some ⟨b, 0, none⟩)] w fun e w' => ∃ ao ca, e = .returned (.slice ao (entT l o).length ca) ∧ RdJ w' ao (sortE (entT l o)) ∧ Below w.heap.size w w' ∧ (∀ bb of, ao = some ⟨bb, of, none⟩ → 0 < (entT l o).length → w.heap.size ≤ bb) := by
  obtain ⟨i0, hi0, hz0, hz1, hz2⟩ := info_parts Try.infoCell
  have x0 : w.cell? ⟨b, 0, none⟩ = some (.slice (some ⟨g, 0, none⟩) l.length l.length) := h.hd.cell 0
  have x1 : w.cell? ⟨b, 1, none⟩ = some (.slice (oldP g l.length o.length) o.length o.length) := h.hd.cell 1
  have HJ := hide1 h.cells
  have HK := hide1 h.olds
  have HD := hide1 hd
  generalize oldP g l.length o.length = op at *
  clear h hd
  go_enter Try.func64, Try.ntmps64
  go_wp2
  go_region
  go_wp2
  have F1 : Hid (Blk (w.alloc (.cells #[.slice (some ⟨g, 0, none⟩) l.length l.length, .slice op o.length o.length] 24)).drew w.heap.size 24 [.slice (some ⟨g, 0, none⟩) l.length l.length, .slice op o.length o.length] ∧ Below w.heap.size w (w.alloc (.cells #[.slice (some ⟨g, 0, none⟩) l.length l.length, .slice op o.length o.length] 24)).drew) := ⟨Blk.new w _ _, ((Below.refl _ _).alloc (Nat.le_refl _) _).drew⟩
  generalize (w.alloc (.cells #[.slice (some ⟨g, 0, none⟩) l.length l.length, .slice op o.length o.length] 24)).drew = W at F1 ⊢
  have K1 := hide1 F1.out.1
  have B1 := hide1 F1.out.2
  clear F1 x0 x1
  have J1 := hide1 (HJ.out.later B1.out)
  have J2 := hide1 (HK.out.later B1.out)
  go_loopw [3, 18] (fun lv iv wr => ∃ (i : Nat) (E : List Ce) (lo : Option Addr) (lc : Nat), i ≤ 2 ∧ iv = .int .i64 (i : Int) ∧ lv = .slice lo E.length lc ∧ Hid (E = gath l o i) ∧ Hid (wr.ownsRow W.heap.size 65 2 (.slice lo E.length lc) E.length (ces E)) ∧ Hid (Below W.heap.size W wr)) (fun _ iv _ => 2 - (intOf iv).toNat)
  case atStart => exact ⟨0, [], none, 0, by omega, rfl, rfl, rfl, World.ownsRow_nil _ _ _ _, Below.refl _ _⟩
  case round =>
    obtain ⟨i, E, lo, lc, hi, rfl, rfl, hE, hown, hbel⟩ := hrel
    by_cases h2 : i < 2
    · by_cases h0 : i = 0
      · have H0 := hide1 h0
        clear h0
        obtain rfl : E = [] := by rw [hE.out, H0.out]; rfl
        have EL := hide1 (show ([] : List Ce).length ≤ 64 by simp)
        have y : wr.cell? ⟨w.heap.size, i, none⟩ = some (.slice (some ⟨g, 0, none⟩) l.length l.length) := by rw [H0.out]; exact (K1.out.below hbel.out K1.out.lt).cell 0
        have k2 : (i : Int) < 2 := by omega
        have RJ := hide1 (J1.out)
        have HOW := hide1 hown.out
        clear hown
        go_wp2
        go_loopw [3, 24] (fun lv jv wq => ∃ (j : Nat) (lo : Option Addr) (lc : Nat), j ≤ l.length ∧ jv = .int .i64 (j : Int) ∧ lv = .slice lo (([] : List Ce) ++ keyed (l.take j)).length lc ∧ Hid (wq.ownsRow W.heap.size 65 2 (.slice lo (([] : List Ce) ++ keyed (l.take j)).length lc) (([] : List Ce) ++ keyed (l.take j)).length (ces (([] : List Ce) ++ keyed (l.take j)))) ∧ Hid (Below W.heap.size W wq)) (fun _ jv _ => l.length - (intOf jv).toNat)
        case atStart => exact ⟨0, lo, lc, by omega, rfl, by first | rfl | simp [keyed], by show World.ownsRow _ _ _ _ _ _ _; simpa [keyed] using HOW.out, hbel⟩
        case round =>
          obtain ⟨j, lo', lc', hj, rfl, rfl, hown, hbel'⟩ := hrel
          by_cases hlt : j < l.length
          · have k1 : (j : Int) < (l.length : Int) := by omega
            obtain ⟨bb, of, hao, hb, h1⟩ := RJ.out j hlt
            obtain ⟨x0, x1⟩ := h1.below hbel'.out hb
            have hkt := hide1 (keyed_take hlt)
            have hll : (([] : List Ce) ++ keyed (l.take j)).length ≤ 128 := by
              have := List.length_filter_le (fun x : Ce => !x.key.toList.isEmpty) (l.take j)
              have := List.length_take_le j l
              simp only [keyed, List.length_append]
              have := EL.out
              omega
            generalize l[j] = s at *
            obtain ⟨ky, hh⟩ := s
            simp only at x0 x1 hkt
            have BX : Hid (Below W.heap.size W (wr.alloc (.cells #[.string ky, .int .i64 hh] 65))) := hbel'.out.alloc hbel'.out.size _
            have OX := hide1 (hown.out.alloc (.cells #[.string ky, .int .i64 hh] 65))
            have NN : Hid ((wr.alloc (.cells #[.string ky, .int .i64 hh] 65)).cell? ⟨wr.heap.size, 0, none⟩ = some (.string ky) ∧ (wr.alloc (.cells #[.string ky, .int .i64 hh] 65)).cell? ⟨wr.heap.size, 1, none⟩ = some (.int .i64 hh)) := ⟨World.cell?_alloc_at _ _ _ _ rfl, World.cell?_alloc_at _ _ _ _ rfl⟩
            rw [hao]
            clear h1 hao hown hbel'
            go_upto_region 8 with fail
            generalize (wr.alloc (.cells #[.string ky, .int .i64 hh] 65)) = wv at NN BX OX ⊢
            obtain ⟨n0, n1⟩ := NN.out
            clear NN x0 x1
            by_cases d1 : ky.toList = []
            · have b1 : ky.toList.isEmpty = true := by rw [d1]; rfl
              have HE := hide1 (show ([] : List Ce) ++ keyed (l.take (j + 1)) = ([] : List Ce) ++ keyed (l.take j) by rw [hkt.out, if_pos b1, List.append_nil])
              clear hkt d1
              go_wp2
              go_roundw
              case rel => exact ⟨j + 1, lo', lc', by omega, by go_num, by rw [HE.out], by show World.ownsRow _ _ _ _ _ _ _; rw [HE.out]; exact OX.out, BX⟩
              case measure => simp [intOf]; omega
            · have b1 : ky.toList.isEmpty = false := by cases h : ky.toList with | nil => exact absurd h d1 | cons a b => rfl
              have HE := hide1 (show ([] : List Ce) ++ keyed (l.take (j + 1)) = (([] : List Ce) ++ keyed (l.take j)) ++ [⟨ky, hh⟩] by rw [hkt.out, if_neg (by rw [b1]; simp), List.append_assoc])
              have hbs := BX.out.size
              generalize ([] : List Ce) ++ keyed (l.take j) = acc at *
              clear hkt d1
              go_wp2_with (at_builtin; (refine wpList_push2 rfl _ _ 24 rfl W.heap.size 65 i0 Try.underlying24 hi0 hz0 hz1 hz2 _ acc acc.length rfl OX.out ⟨ky, hh⟩ rfl (by omega) hbs ?_; intro v' w6 hown6 hb6))
              have O6 := hide1 hown6
              obtain ⟨lo2, lc2, rfl⟩ := own_slice2 O6.out
              have B6 := hide1 (BX.out.trans hb6)
              have hla : (acc ++ [(⟨ky, hh⟩ : Ce)]).length = acc.length + 1 := by simp
              clear hown6 hb6
              go_wp2
              go_roundw
              case rel => exact ⟨j + 1, lo2, lc2, by omega, by go_num, by rw [HE.out, hla], by show World.ownsRow _ _ _ _ _ _ _; rw [HE.out, hla]; exact O6.out, B6⟩
              case measure => simp [intOf]; omega
          · obtain rfl : j = l.length := by omega
            have HE := hide1 (show ([] : List Ce) ++ keyed (l.take l.length) = keyed l by rw [List.take_length, List.nil_append])
            have O7 := hide1 hown.out
            rw [HE.out] at O7
            rw [HE.out]
            clear hown HE
            go_wp2
            go_roundw
            case rel => exact ⟨i + 1, keyed l, lo', lc', by omega, by go_num, rfl, (by show _ = gath l o (i + 1); rw [H0.out]; rfl), O7, hbel'⟩
            case measure => simp [intOf]; omega
      · have H0 := hide1 (show i = 1 by omega)
        clear h0
        have hE1 : E = keyed l := by rw [hE.out, H0.out]; rfl
        have EL := hide1 (show E.length ≤ 64 by rw [hE1]; have := List.length_filter_le (fun x : Ce => !x.key.toList.isEmpty) l; unfold keyed; omega)
        have y : wr.cell? ⟨w.heap.size, i, none⟩ = some (.slice op o.length o.length) := by rw [H0.out]; exact (K1.out.below hbel.out K1.out.lt).cell 1
        have k2 : (i : Int) < 2 := by omega
        have RJ := hide1 (J2.out)
        have HOW := hide1 hown.out
        clear hown
        go_wp2
        go_loopw [3, 24] (fun lv jv wq => ∃ (j : Nat) (lo : Option Addr) (lc : Nat), j ≤ o.length ∧ jv = .int .i64 (j : Int) ∧ lv = .slice lo (E ++ keyed (o.take j)).length lc ∧ Hid (wq.ownsRow W.heap.size 65 2 (.slice lo (E ++ keyed (o.take j)).length lc) (E ++ keyed (o.take j)).length (ces (E ++ keyed (o.take j)))) ∧ Hid (Below W.heap.size W wq)) (fun _ jv _ => o.length - (intOf jv).toNat)
        case atStart => exact ⟨0, lo, lc, by omega, rfl, by first | rfl | simp [keyed], by show World.ownsRow _ _ _ _ _ _ _; simpa [keyed] using HOW.out, hbel⟩
        case round =>
          obtain ⟨j, lo', lc', hj, rfl, rfl, hown, hbel'⟩ := hrel
          by_cases hlt : j < o.length
          · have k1 : (j : Int) < (o.length : Int) := by omega
            obtain ⟨bb, of, hao, hb, h1⟩ := RJ.out j hlt
            obtain ⟨x0, x1⟩ := h1.below hbel'.out hb
            have hkt := hide1 (keyed_take hlt)
            have hll : (E ++ keyed (o.take j)).length ≤ 128 := by
              have := List.length_filter_le (fun x : Ce => !x.key.toList.isEmpty) (o.take j)
              have := List.length_take_le j o
              simp only [keyed, List.length_append]
              have := EL.out
              omega
            generalize o[j] = s at *
            obtain ⟨ky, hh⟩ := s
            simp only at x0 x1 hkt
            have BX : Hid (Below W.heap.size W (wr.alloc (.cells #[.string ky, .int .i64 hh] 65))) := hbel'.out.alloc hbel'.out.size _
            have OX := hide1 (hown.out.alloc (.cells #[.string ky, .int .i64 hh] 65))
            have NN : Hid ((wr.alloc (.cells #[.string ky, .int .i64 hh] 65)).cell? ⟨wr.heap.size, 0, none⟩ = some (.string ky) ∧ (wr.alloc (.cells #[.string ky, .int .i64 hh] 65)).cell? ⟨wr.heap.size, 1, none⟩ = some (.int .i64 hh)) := ⟨World.cell?_alloc_at _ _ _ _ rfl, World.cell?_alloc_at _ _ _ _ rfl⟩
            rw [hao]
            clear h1 hao hown hbel'
            go_upto_region 8 with fail
            generalize (wr.alloc (.cells #[.string ky, .int .i64 hh] 65)) = wv at NN BX OX ⊢
            obtain ⟨n0, n1⟩ := NN.out
            clear NN x0 x1
            by_cases d1 : ky.toList = []
            · have b1 : ky.toList.isEmpty = true := by rw [d1]; rfl
              have HE := hide1 (show E ++ keyed (o.take (j + 1)) = E ++ keyed (o.take j) by rw [hkt.out, if_pos b1, List.append_nil])
              clear hkt d1
              go_wp2
              go_roundw
              case rel => exact ⟨j + 1, lo', lc', by omega, by go_num, by rw [HE.out], by show World.ownsRow _ _ _ _ _ _ _; rw [HE.out]; exact OX.out, BX⟩
              case measure => simp [intOf]; omega
            · have b1 : ky.toList.isEmpty = false := by cases h : ky.toList with | nil => exact absurd h d1 | cons a b => rfl
              have HE := hide1 (show E ++ keyed (o.take (j + 1)) = (E ++ keyed (o.take j)) ++ [⟨ky, hh⟩] by rw [hkt.out, if_neg (by rw [b1]; simp), List.append_assoc])
              have hbs := BX.out.size
              generalize E ++ keyed (o.take j) = acc at *
              clear hkt d1
              go_wp2_with (at_builtin; (refine wpList_push2 rfl _ _ 24 rfl W.heap.size 65 i0 Try.underlying24 hi0 hz0 hz1 hz2 _ acc acc.length rfl OX.out ⟨ky, hh⟩ rfl (by omega) hbs ?_; intro v' w6 hown6 hb6))
              have O6 := hide1 hown6
              obtain ⟨lo2, lc2, rfl⟩ := own_slice2 O6.out
              have B6 := hide1 (BX.out.trans hb6)
              have hla : (acc ++ [(⟨ky, hh⟩ : Ce)]).length = acc.length + 1 := by simp
              clear hown6 hb6
              go_wp2
              go_roundw
              case rel => exact ⟨j + 1, lo2, lc2, by omega, by go_num, by rw [HE.out, hla], by show World.ownsRow _ _ _ _ _ _ _; rw [HE.out, hla]; exact O6.out, B6⟩
              case measure => simp [intOf]; omega
          · obtain rfl : j = o.length := by omega
            have HE := hide1 (show E ++ keyed (o.take o.length) = entT l o by rw [List.take_length, hE1]; rfl)
            have O7 := hide1 hown.out
            rw [HE.out] at O7
            rw [HE.out]
            clear hown HE
            go_wp2
            go_roundw
            case rel => exact ⟨i + 1, entT l o, lo', lc', by omega, by go_num, rfl, (by show _ = gath l o (i + 1); rw [H0.out]; rfl), O7, hbel'⟩
            case measure => simp [intOf]; omega
    · obtain rfl : i = 2 := by omega
      have hE2 : E = entT l o := hE.out
      subst hE2
      by_cases hz : (entT l o).length = 0
      · have hnil : entT l o = [] := List.eq_nil_of_length_eq_zero hz
        have hsn : sortE (entT l o) = [] := by rw [hnil]; rfl
        have HSN := hide1 hsn
        have CN := hide1 (fun lo lc => sort_noneX lo lc wr)
        rw [hz]
        clear hown
        have B9 := hide1 (B1.out.trans (hbel.out.mono B1.out.size))
        have HZ := hide1 hz
        clear hz hsn hnil
        go_wp2_with fail
        refine (CN.out _ _).mono ?_
        rintro e w9 ⟨rfl, rfl⟩
        go_wp2
        go_ret
        exact ⟨lo, lc, by rw [HZ.out]; rfl, by rw [HSN.out]; intro i hi; simp at hi, B9.out, by rw [HZ.out]; intro _ _ _ h; omega⟩
      · obtain ⟨gb, cap, hgv, hgb⟩ := own_at2 hown.out (by omega)
        have HGB := hide1 hgb
        clear hgb
        injection hgv with e1 e2 e3
        subst e1 e3
        have CS := hide1 (sort_any (entT l o) W.heap.size gb lc wr HD.out hown.out (by have := ent_length (l := l) (o := o); omega))
        clear hown hz
        have B9 := hide1 (B1.out.trans (hbel.out.mono B1.out.size))
        go_wp2_with fail
        refine CS.out.mono ?_
        rintro e w9 ⟨rfl, hrd, hb9⟩
        have RD := hide1 hrd
        have BD := hide1 (B9.out.trans (hb9.mono B1.out.size))
        clear hrd hb9
        go_wp2
        go_ret
        exact ⟨_, _, rfl, RD.out, BD.out, fun bb of e _ => by injection e with e; injection e with e; rw [← e]; exact Nat.le_trans B1.out.size HGB.out⟩
theorem entries_any {B b g mv : Nat} {w : World} {l o : List Ce} (h : Brd B w b g l o mv) (hl : l.length ≤ 64) (hl' : o.length ≤ 64) (hd : Dis (entT l o)) :
    Calls Try.prog 64 #[.pointer (some ⟨b, 0, none⟩)] w fun e w' => ∃ ao ca, e = .returned (.slice ao (entT l o).length ca) ∧ RdJ w' ao (sortE (entT l o)) ∧ Below w.heap.size w w' :=
  (entries2_any h hl hl' hd).mono (fun _ _ ⟨a, b, c, d, e, _⟩ => ⟨a, b, c, d, e⟩)
end Go.Proofs.Ytahglnojllkjdaa
