/- Rings, by the program: the keys that move. -/
import Derived.Test.YtdgpencendphbaaDoorRiW
import Derived.Test.YtdgpencendphbaaDoorRiH
namespace Go.Proofs.YtdgpencendphbaaDoor
open Go.RowKit
set_option linter.unusedVariables false

theorem conv_newK {P : Program} (w : World) (src dst e : TypeId) (s : ByteArray) (hs : P.underlying src = some .string) (hd : P.underlying dst = some (.slice e)) (he : P.underlying e = some (.int .u8)) :
    ∃ v w1, (convert src dst (.string s)).run P w = .ok v w1 ∧ (convert dst src v).run P w1 = .ok (.string s) w1 ∧ Below w.heap.size w w1 := by
  refine ⟨_, _, run_bytes_of_string w src dst e s hs hd he, ?_, (Below.refl _ _).drew.alloc (Nat.le_refl _) _⟩
  have hl : s.size = s.data.toList.length := by simp
  rw [hl, run_convert_bytes_back _ dst src e ⟨w.heap.size, 0, none⟩ _ s.data.toList hd he hs]
  intro j hj
  have hj' : j < s.data.size := by simpa using hj
  rw [Addr.add_lit, Nat.zero_add]
  have := World.cell?_alloc_mark w.drew (bytesRow s (grownCap w s.size 0 e)) e ((bytesRow s (grownCap w s.size 0 e)).size, (bytesRow s (grownCap w s.size 0 e)).size + 1) j
  rw [bytesRow_at s _ j hj'] at this
  rw [← hl]
  simpa using this

theorem newK_any (s : ByteArray) (w : World) : Calls Tryd.prog 46 #[.string s] w fun e w' => e = .returned (.string s) ∧ Below w.heap.size w w' := by
  obtain ⟨v, w1, r1, r2, hb⟩ := conv_newK (P := Tryd.prog) w 9 22 5 s Tryd.underlying9 Tryd.underlying22 Tryd.underlying5
  go_enter Tryd.func46, Tryd.ntmps46
  go_wp2
  go_ret
  exact ⟨rfl, hb⟩

set_option maxRecDepth 100000 in
set_option maxHeartbeats 2000000 in
theorem implMoved_any (ao bo ko : Option Addr) (la lb : List Sp) (ks : List ByteArray) (ca cb ck : Nat) (w : World) (hla : la.length ≤ 1048576) (hlb : lb.length ≤ 1048576) (hks : ks.length ≤ 1048576) (hk : ∀ i (h : i < ks.length), ks[i].size ≤ 1048576) (hA : RdP w ao la) (hB : RdP w bo lb) (hK : RdK w ko ks) :
    Calls Tryd.prog 19 #[riV ao la.length ca, riV bo lb.length cb, .slice ko ks.length ck] w fun e w' => MadeS w w' e (movedS la lb ks) := by
  obtain ⟨i0, hi0, hz0, hz1, hz2⟩ := info_parts Tryd.infoStrM
  have F0 := hide1 (And.intro (blkN3 w #[.slice ao la.length ca] #[.slice bo lb.length cb] #[] 28 28 9) (owns_empty ((w.alloc (.cells #[.slice ao la.length ca] 28)).alloc (.cells #[.slice bo lb.length cb] 28)) 9))
  have HA := hide1 hA
  have HB := hide1 hB
  have HK := hide1 hK
  have HS := hide1 hk
  clear hA hB hK hk
  unfold riV
  go_enter Tryd.func19, Tryd.ntmps19
  go_wp2_with fail
  have e2 : ((w.alloc (.cells #[.slice ao la.length ca] 28)).alloc (.cells #[.slice bo lb.length cb] 28)).heap.size = w.heap.size + 1 + 1 := by rw [World.size_alloc, World.size_alloc]
  rw [e2] at F0
  generalize (((w.alloc (.cells #[.slice ao la.length ca] 28)).alloc (.cells #[.slice bo lb.length cb] 28)).alloc (.cells #[] 9)) = w0 at F0 ⊢
  have hs0 : w.heap.size + 1 + 1 ≤ w0.heap.size := Nat.le_of_lt F0.out.1.2.2.1.lt
  clear e2
  go_loopw [7, 13] (fun v iv wr => ∃ i : Nat, i ≤ ks.length ∧ iv = .int .i64 (i : Int) ∧ wr.ownsRow (w.heap.size + 1 + 1) 9 1 v (movedS la lb (ks.take i)).length (sc (movedS la lb (ks.take i))) ∧ Hid (Below (w.heap.size + 1 + 1) w0 wr)) (fun _ iv _ => ks.length - (intOf iv).toNat)
  case atStart => exact ⟨0, by omega, rfl, F0.out.2, hide1 (Below.refl _ _)⟩
  case round =>
    obtain ⟨i, hi, rfl, hown, hbel⟩ := hrel
    have hbs := hbel.out.size
    obtain ⟨vo, vc, rfl⟩ := own_slice hown
    have HBw := hide1 (F0.out.1.2.2.2.trans (hbel.out.mono (by omega)))
    by_cases c1 : i < ks.length
    · have k1 : (i : Int) < (ks.length : Int) := by omega
      have x0 : wr.cell? ⟨w.heap.size, 0, none⟩ = some (.slice ao la.length ca) := (hbel.out.cell (p := ⟨w.heap.size, 0, none⟩) (show w.heap.size < w.heap.size + 1 + 1 by omega)).trans (F0.out.1.1.cell 0)
      have x1 : wr.cell? ⟨w.heap.size + 1, 0, none⟩ = some (.slice bo lb.length cb) := (hbel.out.cell (p := ⟨w.heap.size + 1, 0, none⟩) (Nat.lt_succ_self _)).trans (F0.out.1.2.1.cell 0)
      obtain ⟨g, o, rfl, hg, y0⟩ := (HK.out.later HBw.out) i c1
      have hz := HS.out i c1
      have HN := hide1 (movedS_next (la := la) (lb := lb) c1)
      have hml : (movedS la lb (ks.take i)).length ≤ i := Nat.le_trans (List.length_filter_le _ _) (by rw [List.length_take]; omega)
      generalize ks[i] = z at *
      have CA := hide1 (fun w' (hb : Below wr.heap.size wr w') => implHome_any ao la ca z w' hla hz ((HA.out.later HBw.out).later hb))
      have CB := hide1 (fun w' (hb : Below wr.heap.size wr w') => implHome_any bo lb cb z w' hlb hz ((HB.out.later HBw.out).later hb))
      obtain ⟨ra, hra⟩ : ∃ r, homeS la (hashN z 0 : Int) = r := ⟨_, rfl⟩
      obtain ⟨rb, hrb⟩ : ∃ r, homeS lb (hashN z 0 : Int) = r := ⟨_, rfl⟩
      rw [hra] at CA HN
      rw [hrb] at CB HN
      unfold riV at CA CB
      clear hra hrb hz
      have X0 := hide1 (And.intro x0 (And.intro x1 y0))
      have l0 : w.heap.size < wr.heap.size := by omega
      have l1 : w.heap.size + 1 < wr.heap.size := by omega
      have HO := hide1 hown
      clear hown
      go_wp2
      go_region_held3 (fun w' => w'.cell? ⟨w.heap.size, 0, none⟩ = some (.slice ao la.length ca) ∧ w'.cell? ⟨w.heap.size + 1, 0, none⟩ = some (.slice bo lb.length cb)) (first | go_keep | exact ⟨(D2.out.cell (p := ⟨w.heap.size, 0, none⟩) l0).trans X0.out.1, (D2.out.cell (p := ⟨w.heap.size + 1, 0, none⟩) l1).trans X0.out.2.1⟩ | exact ⟨(D1.out.cell (p := ⟨w.heap.size, 0, none⟩) l0).trans X0.out.1, (D1.out.cell (p := ⟨w.heap.size + 1, 0, none⟩) l1).trans X0.out.2.1⟩) (first | (have := D1.out; go_at_call 15; refine (CB.out _ (D1.out.trans (show Below wr.heap.size w3 _ by go_grown))).mono ?_; rintro e w4 ⟨rfl, hb4⟩; have D2 : Hid (Below wr.heap.size wr w4) := (D1.out.trans (show Below wr.heap.size w3 _ by go_grown)).trans (hb4.mono (by have := D1.out.size; go_size)); clear hb4) | (go_at_call 15; refine (CA.out _ (show Below wr.heap.size wr _ by go_grown)).mono ?_; rintro e w3 ⟨rfl, hb3⟩; have D1 : Hid (Below wr.heap.size wr w3) := (show Below wr.heap.size wr _ by go_grown).trans (hb3.mono (by go_size)); clear hb3))
      have HO2 := hide1 (own_kept HO.out D2.out)
      have HE2 := hide1 (hbel.out.trans (D2.out.mono (by omega)))
      have hs2 : w.heap.size + 1 + 1 ≤ w4.heap.size := by have := D2.out.size; omega
      clear x0 x1 y0 X0 CA CB HO D1 hbel
      by_cases c : (ra != rb) = true
      · have HX := hide1 (show movedS la lb (ks.take (i + 1)) = movedS la lb (ks.take i) ++ [z] by rw [HN.out, if_pos c])
        have hown := HO2.out
        clear HN HO2
        generalize movedS la lb (ks.take i) = acc at *
        go_wp2_with (first | (at_builtin; (refine wpList_push1 rfl _ _ 34 rfl (w.heap.size + 1 + 1) 9 i0 (.string ⟨#[]⟩) 16 Tryd.underlying34 hi0 hz0 hz1 hz2 rfl (by decide) _ acc.length (sc acc) rfl hown5 _ rfl rfl (by omega) hs5 ?_; intro v' w7 hown' hb')) | (go_at_call 46; refine (newK_any _ _).mono ?_; rintro e w5 ⟨rfl, hb5⟩; have hown5 := own_kept hown hb5; have HE5 := hide1 (HE2.out.trans (hb5.mono hs2)); have hs5 := Nat.le_trans hs2 hb5.size; clear hb5))
        go_roundw
        case rel =>
          refine ⟨i + 1, by omega, by go_num, ?_, hide1 (HE5.out.trans hb')⟩
          rw [HX.out, sc_append, List.length_append]
          exact hown'
        case measure => simp [intOf]; omega
      · have c' : (ra != rb) = false := by simpa using c
        have HX := hide1 (show movedS la lb (ks.take (i + 1)) = movedS la lb (ks.take i) by rw [HN.out, if_neg c])
        clear HN c
        go_wp2
        go_roundw
        case rel => exact ⟨i + 1, by omega, by go_num, by rw [HX.out]; exact HO2.out, HE2⟩
        case measure => simp [intOf]; omega
    · obtain rfl : i = ks.length := by omega
      rw [List.take_length] at hown ⊢
      have HO := hide1 hown
      clear hown
      go_wp2
      go_ret
      exact ⟨_, _, rfl, own_base HO.out (by omega), HBw.out⟩
end Go.Proofs.YtdgpencendphbaaDoor
