/- The program gives queues out; whether one is right. -/
import Derived.Test.YtaafofgfeaodhaaQuI
namespace Go.Proofs.Ytaafofgfeaodhaa
open Go.RowKit

theorem conv_newQ {P : Program} (w : World) (src dst e : TypeId) (s : ByteArray) (hs : P.underlying src = some .string) (hd : P.underlying dst = some (.slice e)) (he : P.underlying e = some (.int .u8)) :
    ∃ v w1, (convert src dst (.string s)).run P w = .ok v w1 ∧ (convert dst src v).run P w1 = .ok (.string s) w1 ∧ Below w.heap.size w w1 := by
  refine ⟨_, _, run_bytes_of_string w src dst e s hs hd he, ?_, (Below.refl _ _).drew.alloc (Nat.le_refl _) _⟩
  have hl : s.size = s.data.toList.length := by simp
  rw [hl, run_convert_bytes_back _ dst src e ⟨w.heap.size, 0, none⟩ _ s.data.toList hd he hs]
  intro j hj
  have hj' : j < s.data.size := by simpa using hj
  rw [Addr.add_lit, Nat.zero_add]
  have := World.cell?_alloc_mark w.drew (bytesRow s (grownCap w s.size 0 e)) e ((bytesRow s (grownCap w s.size 0 e)).size, (bytesRow s (grownCap w s.size 0 e)).size + 1) j
  rw [bytesRow_at s _ j hj'] at this
  rw [← hl]
  simpa using this

theorem newQ_any (s : ByteArray) (w : World) : Calls Try.prog 41 #[.string s] w fun e w' => e = .returned (.string s) ∧ Below w.heap.size w w' := by
  obtain ⟨v, w1, r1, r2, hb⟩ := conv_newQ (P := Try.prog) w 9 22 5 s Try.underlying9 Try.underlying22 Try.underlying5
  go_enter Try.func41, Try.ntmps41
  go_wp2
  go_ret
  exact ⟨rfl, hb⟩

set_option maxRecDepth 100000 in
set_option maxHeartbeats 800000 in
theorem queueOf_any (ao : Option Addr) (l : List ByteArray) (n ca : Nat) (m : Int) (w : World) (hln : l.length = n) (hl : n ≤ 65536) (hA : RdQ w ao l) :
    Calls Try.prog 33 #[.int .i64 m, .slice ao n ca] w fun e w' => ∃ b c, e = .returned (.agg #[.int .i64 m, .slice b l.length c]) ∧ OwnQ w' w.heap.size b c l ∧ Below w.heap.size w w' := by
  obtain ⟨i0, hi, hz0, hz1, hz2⟩ := info_parts Try.infoQ
  subst hln
  have HA := hide1 hA
  clear hA
  have F0 : Hid (Blk (w.alloc (.cells #[.int .i64 0, .slice none 0 0] 26)) w.heap.size 26 [.int .i64 0, .slice none 0 0] ∧ Below w.heap.size w (w.alloc (.cells #[.int .i64 0, .slice none 0 0] 26)) ∧ (w.alloc (.cells #[.int .i64 0, .slice none 0 0] 26)).heap.size = w.heap.size + 1) := ⟨Blk.new w _ _, (Below.refl _ _).alloc (Nat.le_refl _) _, World.size_alloc _ _⟩
  go_enter Try.func33, Try.ntmps33
  go_wp2_with (at_make; (refine wpList_make_full _ rfl _ _ 24 rfl (w.heap.size + 1) 9 i0 (.string ⟨#[]⟩) 1 Try.underlying24 hi hz0 hz1 _ _ _ _ l.length rfl rfl rfl rfl (by rw [hz2]; omega) (by unfold maxLen; omega) (by rw [World.size_alloc]; exact Nat.le_refl _) ?_; intro w1 hown1 hg1; rw [madeQ, F0.out.2.2] at hown1; have hb1 : Below (w.heap.size + 1) _ w1 := Below.grown (Below.refl _ _) hg1 (by rw [World.size_alloc]; exact Nat.le_refl _) (by intro k hk; cases hk); have J0 := hide1 (F0.out.1.below hb1 (by omega)); have B1 := hide1 (F0.out.2.1.trans (hb1.mono (by omega))); have O1 := hide1 hown1; have hs1 : w.heap.size + 1 ≤ w1.heap.size := (by have := hb1.size; rw [F0.out.2.2] at this; exact this); clear F0 hown1 hg1 hb1))
  go_loopw [13] (fun iv wr => ∃ i : Nat, i ≤ l.length ∧ iv = .int .i64 (i : Int) ∧ Hid (wr.ownsRow (w.heap.size + 1) 9 1 (.slice (some ⟨w.heap.size + 1, 0, none⟩) l.length l.length) l.length (sc (l.take i ++ List.replicate (l.length - i) ⟨#[]⟩))) ∧ Hid (Blk wr w.heap.size 26 [.int .i64 0, .slice none 0 0]) ∧ Hid (Below w.heap.size w wr) ∧ w.heap.size + 1 ≤ wr.heap.size) (fun iv _ => l.length - (intOf iv).toNat)
  case atStart => exact ⟨0, by omega, rfl, by simpa using O1, J0, B1, hs1⟩
  case round =>
    obtain ⟨i, hi, rfl, hown, hK, hbel, hsz⟩ := hrel
    by_cases hlt : i < l.length
    · have k1 : (i : Int) < (l.length : Int) := by omega
      obtain ⟨b, o, rfl, hb, h1⟩ := HA.out i hlt
      have x0 := (hbel.out.cell (p := ⟨b, o + i, none⟩) hb).trans h1
      obtain ⟨s, hs⟩ : ∃ s, l[i] = s := ⟨_, rfl⟩
      rw [hs] at x0
      have HS := hide1 hs
      clear h1 hs
      go_wp2_with (go_at_call 41; refine (newQ_any _ _).mono ?_; rintro e w2 ⟨rfl, hb2⟩; have HO2 := hide1 (own_kept hown.out hb2); obtain ⟨u, y0⟩ := own_some HO2.out i (by omega); have y1 := HO2.out.frozenAt i; have K2 := hide1 (hK.out.below hb2 (by omega)); have B2 := hide1 (hbel.out.trans (hb2.mono hbel.out.size)); have hs2 : w.heap.size + 1 ≤ w2.heap.size := Nat.le_trans hsz hb2.size; clear hb2)
      go_roundw
      case rel =>
        have st := (World.ownsRow.stored HO2.out i (.string s)).1
        rw [← qc_set, fill_setQ l ⟨#[]⟩ s i hlt HS.out] at st
        exact ⟨i + 1, by omega, by go_num, st, K2.out.far ⟨w.heap.size + 1, i, none⟩ _ (by dsimp only; omega), B2.out.setCell (p := ⟨w.heap.size + 1, i, none⟩) (by dsimp only; omega) _, by simpa using hs2⟩
      case measure => simp [intOf]; omega
    · obtain rfl : i = l.length := by omega
      have y0 : wr.cell? ⟨w.heap.size, 0, none⟩ = some (.int .i64 0) := hK.out.cell 0
      have y1 : wr.cell? ⟨w.heap.size, 1, none⟩ = some (.slice none 0 0) := hK.out.cell 1
      have yf : ∀ j, wr.frozen? ⟨w.heap.size, j, none⟩ = false := fun j => hK.out.froz j
      have HO := hown.out
      rw [List.take_length, Nat.sub_self, List.replicate_zero, List.append_nil] at HO
      have HO := hide1 HO
      have hh := hide1 (Blk.set (Blk.set hK.out 0 (.int .i64 m)) 1 (.slice (some ⟨w.heap.size + 1, 0, none⟩) l.length l.length))
      go_wp2
      refine bodyPost_ret (results_cell_row Try.results33 _ _ w.heap.size 26 #[.int .i64 m, .slice (some ⟨w.heap.size + 1, 0, none⟩) l.length l.length] (0, 0) _ rfl hh.out Try.underlying26 rfl (by kernel_rfl)) rfl ?_
      refine ⟨_, _, rfl, ?_, (hbel.out.setCell (p := ⟨w.heap.size, 0, none⟩) (Nat.le_refl _) _).setCell (p := ⟨w.heap.size, 1, none⟩) (Nat.le_refl _) _⟩
      refine own_base (own_far (own_far HO.out _ _ ?_) _ _ ?_) (by omega)
      all_goals
        intro k hk
        have := (HO.out.lt k hk).1
        dsimp only
        omega

set_option maxRecDepth 100000 in
set_option maxHeartbeats 800000 in
theorem keyFitsQ_any (k : ByteArray) (w : World) : Calls Try.prog 38 #[.string k] w fun e w' => ∃ x : Bool, e = .returned (.bool x) ∧ (x = true ↔ keyQ k) ∧ w' = w := by
  by_cases h1 : 1 ≤ k.size
  · by_cases h2 : k.size ≤ 12
    · have HF := hide1 (show keyQ k from ⟨h1, h2⟩)
      go_enter Try.func38, Try.ntmps38
      go_wp2
      go_ret
      first | exact ⟨true, rfl, ⟨(fun _ => HF.out), fun _ => rfl⟩, rfl⟩ | exact .inr ⟨rfl, HF.out, rfl⟩ | exact ⟨decide ((k.size : Int) ≤ 12), rfl, ⟨(fun _ => HF.out), fun _ => decide_eq_true (by omega)⟩, rfl⟩
    · have HF := hide1 (show ¬ keyQ k from fun h => h2 h.2)
      go_enter Try.func38, Try.ntmps38
      go_wp2
      go_ret
      first | exact ⟨false, rfl, ⟨(fun h => by cases h), fun h => absurd h HF.out⟩, rfl⟩ | exact .inl ⟨rfl, HF.out, rfl⟩ | exact ⟨decide ((k.size : Int) ≤ 12), rfl, ⟨(fun h => by have := of_decide_eq_true h; omega), fun h => absurd h HF.out⟩, rfl⟩
  · have HF := hide1 (show ¬ keyQ k from fun h => h1 h.1)
    go_enter Try.func38, Try.ntmps38
    go_wp2
    go_ret
    first | exact ⟨false, rfl, ⟨(fun h => by cases h), fun h => absurd h HF.out⟩, rfl⟩ | exact .inl ⟨rfl, HF.out, rfl⟩

set_option maxRecDepth 100000 in
set_option maxHeartbeats 2000000 in
theorem implQOk_any (ao : Option Addr) (l : List ByteArray) (ca : Nat) (m : Int) (w : World) (hl : l.length ≤ 1048576) (hc : l.length ≤ ca) (hcm : ca ≤ maxLen) (hA : RdQ w ao l) :
    Calls Try.prog 15 #[.agg #[.int .i64 m, .slice ao l.length ca]] w fun e w' => ∃ x : Bool, e = .returned (.bool x) ∧ (x = true ↔ OkQ l m) ∧ Below w.heap.size w w' := by
  have B0 := hide1 (fun o => (Below.refl w.heap.size w).alloc (Nat.le_refl _) o)
  by_cases c1 : m < 0
  · have HN := hide1 (show ¬ OkQ l m from fun h => by have := h.1; omega)
    have q1 : decide (m < 0) = true := decide_eq_true c1
    clear hA hc hcm
    go_enter Try.func15, Try.ntmps15
    go_wp2
    go_ret
    first | exact ⟨false, rfl, ⟨(fun h => by cases h), fun h => absurd h HN.out⟩, B0.out _⟩ | exact .inl ⟨rfl, HN.out, B0.out _⟩
  by_cases c2 : 24 < m
  · have HN := hide1 (show ¬ OkQ l m from fun h => by have := h.2.1; omega)
    have q1 : decide (m < 0) = false := decide_eq_false c1
    have q2 : decide (24 < m) = true := decide_eq_true c2
    clear hA hc hcm
    go_enter Try.func15, Try.ntmps15
    go_wp2
    go_ret
    first | exact ⟨false, rfl, ⟨(fun h => by cases h), fun h => absurd h HN.out⟩, B0.out _⟩ | exact .inl ⟨rfl, HN.out, B0.out _⟩
  by_cases c3 : m < (l.length : Int)
  · have HN := hide1 (show ¬ OkQ l m from fun h => by have := h.2.2.1; omega)
    have q1 : decide (m < 0) = false := decide_eq_false c1
    have q2 : decide (24 < m) = false := decide_eq_false c2
    have q3 : decide (m < (l.length : Int)) = true := decide_eq_true c3
    clear hA hc hcm
    go_enter Try.func15, Try.ntmps15
    go_wp2
    go_ret
    first | exact ⟨false, rfl, ⟨(fun h => by cases h), fun h => absurd h HN.out⟩, B0.out _⟩ | exact .inl ⟨rfl, HN.out, B0.out _⟩
  have q1 : decide (m < 0) = false := decide_eq_false c1
  have q2 : decide (24 < m) = false := decide_eq_false c2
  have q3 : decide (m < (l.length : Int)) = false := decide_eq_false c3
  have HB := hide1 (show 0 ≤ m ∧ m ≤ 24 ∧ (l.length : Int) ≤ m by omega)
  have CU := hide1 (fun w' (hb : Below w.heap.size w w') => unlike_any ao l ca w' hl hc hcm (hA.later hb))
  have CR := hide1 (fun w' => recentKeys_any ao l.length ca m w')
  have BX := hide1 (Blk.new w 26 #[.int .i64 m, .slice ao l.length ca])
  have D0 := hide1 (B0.out (.cells #[.int .i64 m, .slice ao l.length ca] 26))
  have HA := hide1 (hA.later D0.out)
  clear hA hc hcm c1 c2 c3 B0
  go_enter Try.func15, Try.ntmps15
  go_wp2
  generalize w.alloc (.cells #[.int .i64 m, .slice ao l.length ca] 26) = w1 at BX D0 HA ⊢
  go_loop [24] (fun iv => ∃ i : Nat, i ≤ l.length ∧ iv = .int .i64 (i : Int) ∧ Hid (∀ j (h : j < l.length), j < i → keyQ l[j])) (fun iv => l.length - (intOf iv).toNat)
  case atStart => exact ⟨0, by omega, rfl, fun j h hj => by omega⟩
  case round =>
    obtain ⟨i, hi, rfl, hall⟩ := hrel
    by_cases hlt : i < l.length
    · have k1 : (i : Int) < (l.length : Int) := by omega
      obtain ⟨b, o, rfl, hb, h1⟩ := HA.out i hlt
      obtain ⟨s, hs⟩ : ∃ s, l[i] = s := ⟨_, rfl⟩
      rw [hs] at h1
      have HS := hide1 hs
      clear hs
      have CK := hide1 (fun w' => keyFitsQ_any s w')
      go_wp2_with fail
      refine (CK.out _).mono ?_
      rintro e w2 ⟨x, rfl, hx, rfl⟩
      rcases x with _ | _
      · have HN := hide1 (show ¬ OkQ l m from fun h => by have := hx.2 (h.2.2.2.1 s (by rw [← HS.out]; exact List.getElem_mem _)); cases this)
        clear hx
        go_wp2
        go_ret
        first | exact ⟨false, rfl, ⟨(fun h => by cases h), fun h => absurd h HN.out⟩, D0.out⟩ | exact .inl ⟨rfl, HN.out, D0.out⟩
      · have HK := hide1 (hx.1 rfl)
        clear hx
        go_wp2
        go_round
        case rel =>
          refine ⟨i + 1, by omega, by go_num, fun j h hj => ?_⟩
          by_cases hj2 : j < i
          · exact hall.out j h hj2
          · obtain rfl : j = i := by omega
            rw [HS.out]; exact HK.out
        case measure => simp [intOf]; omega
    · obtain rfl : i = l.length := by omega
      have x0 : w1.cell? ⟨w.heap.size, 0, none⟩ = some (.int .i64 m) := BX.out.cell 0
      have x1 : w1.cell? ⟨w.heap.size, 1, none⟩ = some (.slice ao l.length ca) := BX.out.cell 1
      go_wp2_with fail
      refine (CR.out _).mono ?_
      rintro e w2 ⟨rfl, hb2⟩
      have B2 := hide1 (D0.out.trans (hb2.mono D0.out.size))
      clear hb2
      go_wp2_with fail
      refine (CU.out _ B2.out).mono ?_
      rintro e w3 ⟨x, rfl, hx, rfl⟩
      have HX := hide1 (show x = true ↔ OkQ l m from ⟨fun h => ⟨HB.out.1, HB.out.2.1, HB.out.2.2, (fun s hs => by obtain ⟨j, hj, rfl⟩ := List.getElem_of_mem hs; exact hall.out j hj hj), hx.1 h⟩, fun h => hx.2 h.2.2.2.2⟩)
      clear hx
      go_wp2
      go_ret
      exact ⟨x, rfl, HX.out, B2.out⟩
end Go.Proofs.Ytaafofgfeaodhaa
