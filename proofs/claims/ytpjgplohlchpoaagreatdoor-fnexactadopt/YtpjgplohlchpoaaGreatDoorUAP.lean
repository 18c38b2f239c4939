/- The program's small functions on items and messages. -/
import Derived.Test.YtpjgplohlchpoaaGreatDoorUAF
import Derived.Test.YtpjgplohlchpoaaGreatDoorUAG
import Derived.Deep.RegionHeld3
namespace Go.Proofs.YtpjgplohlchpoaaGreatDoor
open Go.RowKit
set_option linter.unusedVariables false

theorem conv_newX {P : Program} (w : World) (src dst e : TypeId) (s : ByteArray) (hs : P.underlying src = some .string) (hd : P.underlying dst = some (.slice e)) (he : P.underlying e = some (.int .u8)) :
    ∃ v w1, (convert src dst (.string s)).run P w = .ok v w1 ∧ (convert dst src v).run P w1 = .ok (.string s) w1 ∧ Below w.heap.size w w1 := by
  refine ⟨_, _, run_bytes_of_string w src dst e s hs hd he, ?_, (Below.refl _ _).drew.alloc (Nat.le_refl _) _⟩
  have hl : s.size = s.data.toList.length := by simp
  rw [hl, run_convert_bytes_back _ dst src e ⟨w.heap.size, 0, none⟩ _ s.data.toList hd he hs]
  intro j hj
  have hj' : j < s.data.size := by simpa using hj
  rw [Addr.add_lit, Nat.zero_add]
  have := World.cell?_alloc_mark w.drew (bytesRow s (grownCap w s.size 0 e)) e ((bytesRow s (grownCap w s.size 0 e)).size, (bytesRow s (grownCap w s.size 0 e)).size + 1) j
  rw [bytesRow_at s _ j hj'] at this
  rw [← hl]
  simpa using this

theorem newX_any (s : ByteArray) (w : World) : Calls Tryz.prog 101 #[.string s] w fun e w' => e = .returned (.string s) ∧ Below w.heap.size w w' := by
  obtain ⟨v, w1, r1, r2, hb⟩ := conv_newX (P := Tryz.prog) w 9 126 5 s Tryz.underlying9 Tryz.underlying126 Tryz.underlying5
  go_enter Tryz.func101, Tryz.ntmps101
  go_wp2
  go_ret
  exact ⟨rfl, hb⟩

theorem keyX_any (k : ByteArray) (w : World) : Calls Tryz.prog 126 #[.string k] w fun e w' => e = .returned (.bool (decide (1 ≤ k.size ∧ k.size ≤ 12))) ∧ w' = w := by
  by_cases h1 : 1 ≤ k.size
  · by_cases h2 : k.size ≤ 12
    · have HF := hide1 (show decide (1 ≤ k.size ∧ k.size ≤ 12) = true by simp [h1, h2])
      go_enter Tryz.func126, Tryz.ntmps126
      go_wp2
      go_ret
      exact ⟨by first | rfl | (rw [HF.out]; first | rfl | (show Ending.returned (.bool (decide ((k.size : Int) ≤ 12))) = _; rw [decide_eq_true (by omega)])), rfl⟩
    · have HF := hide1 (show decide (1 ≤ k.size ∧ k.size ≤ 12) = false by simp [h2])
      go_enter Tryz.func126, Tryz.ntmps126
      go_wp2
      go_ret
      exact ⟨by rw [HF.out]; first | rfl | (show Ending.returned (.bool (decide ((k.size : Int) ≤ 12))) = _; rw [decide_eq_false (by omega)]), rfl⟩
  · have HF := hide1 (show decide (1 ≤ k.size ∧ k.size ≤ 12) = false by simp [h1])
    go_enter Tryz.func126, Tryz.ntmps126
    go_wp2
    go_ret
    exact ⟨by first | rfl | (rw [HF.out]; rfl), rfl⟩

def fitX (k v : ByteArray) : Prop := (1 ≤ k.size ∧ k.size ≤ 12) ∧ v.size ≤ 20
instance (k v : ByteArray) : Decidable (fitX k v) := by unfold fitX; infer_instance
theorem fitX_any (k v : ByteArray) (w : World) : Calls Tryz.prog 114 #[.string k, .string v] w fun e w' => e = .returned (.bool (decide (fitX k v))) ∧ w' = w := by
  have CK := hide1 (fun w => keyX_any k w)
  by_cases hk : 1 ≤ k.size ∧ k.size ≤ 12
  · rw [decide_eq_true hk] at CK
    by_cases h3 : v.size ≤ 20
    · have HF := hide1 (show decide (fitX k v) = true from decide_eq_true ⟨hk, h3⟩)
      clear hk
      go_enter Tryz.func114, Tryz.ntmps114
      go_wp2_with fail
      refine (CK.out _).mono ?_
      rintro e w1 ⟨rfl, rfl⟩
      go_wp2
      go_ret
      exact ⟨by rw [HF.out]; first | rfl | (show Ending.returned (.bool (decide ((v.size : Int) ≤ 20))) = _; rw [decide_eq_true (by omega)]), rfl⟩
    · have HF := hide1 (show decide (fitX k v) = false from decide_eq_false (fun h => h3 h.2))
      clear hk
      go_enter Tryz.func114, Tryz.ntmps114
      go_wp2_with fail
      refine (CK.out _).mono ?_
      rintro e w1 ⟨rfl, rfl⟩
      go_wp2
      go_ret
      exact ⟨by rw [HF.out]; first | rfl | (show Ending.returned (.bool (decide ((v.size : Int) ≤ 20))) = _; rw [decide_eq_false (by omega)]), rfl⟩
  · have HF := hide1 (show decide (fitX k v) = false from decide_eq_false (fun h => hk h.1))
    rw [decide_eq_false hk] at CK
    clear hk
    go_enter Tryz.func114, Tryz.ntmps114
    go_wp2_with fail
    refine (CK.out _).mono ?_
    rintro e w1 ⟨rfl, rfl⟩
    go_wp2
    go_ret
    exact ⟨by rw [HF.out]; rfl, rfl⟩

theorem okIm_fit (x : Im) : okIm x ↔ fitX x.k x.v ∧ 1 ≤ x.n ∧ x.n ≤ 1000000000 := by unfold okIm fitX; constructor <;> (intro h; exact ⟨by first | exact ⟨h.1, h.2.1⟩ | exact h.1.1, by first | exact h.2.2 | exact ⟨h.1.2, h.2⟩⟩)
set_option maxRecDepth 100000 in
set_option maxHeartbeats 2000000 in
theorem itemFits_any (x : Im) (w : World) : Calls Tryz.prog 109 #[.agg #[.string x.k, .string x.v, .int .i64 x.n]] w fun e w' => e = .returned (.bool (decide (okIm x))) ∧ Below w.heap.size w w' := by
  obtain ⟨k, v, n⟩ := x
  have HI := hide1 (okIm_fit ⟨k, v, n⟩)
  dsimp only at HI ⊢
  have CF := hide1 (fun w => fitX_any k v w)
  have F0 := hide1 (And.intro (Blk.new w 34 #[.string k, .string v, .int .i64 n]) ((Below.refl w.heap.size w).alloc (Nat.le_refl _) (.cells #[.string k, .string v, .int .i64 n] 34)))
  go_enter Tryz.func109, Tryz.ntmps109
  go_upto_region 1 with fail
  generalize (w.alloc (.cells #[.string k, .string v, .int .i64 n] 34)) = u at F0 ⊢
  obtain ⟨K0, B0⟩ := F0.out
  have y0 : u.cell? ⟨w.heap.size, 0, none⟩ = some (.string k) := K0.cell 0
  have y1 : u.cell? ⟨w.heap.size, 1, none⟩ = some (.string v) := K0.cell 1
  have y2 : u.cell? ⟨w.heap.size, 2, none⟩ = some (.int .i64 n) := K0.cell 2
  have HB := hide1 B0
  clear K0 B0 F0
  by_cases c1 : fitX k v
  · rw [decide_eq_true c1] at CF
    by_cases c2 : 1 ≤ n
    · have q2 : decide ((1 : Int) ≤ n) = true := decide_eq_true c2
      by_cases c3 : n ≤ 1000000000
      · have q3 : decide (n ≤ (1000000000 : Int)) = true := decide_eq_true c3
        have RES := hide1 (decide_eq_true (HI.out.2 ⟨c1, c2, c3⟩))
        clear HI c1
        go_wp2_with fail
        refine (CF.out _).mono ?_
        rintro e w1 ⟨rfl, rfl⟩
        go_wp2
        go_ret
        exact ⟨by rw [RES.out]; rfl, HB.out⟩
      · have q3 : decide (n ≤ (1000000000 : Int)) = false := decide_eq_false c3
        have RES := hide1 (decide_eq_false (fun h => c3 (HI.out.1 h).2.2))
        clear HI c1
        go_wp2_with fail
        refine (CF.out _).mono ?_
        rintro e w1 ⟨rfl, rfl⟩
        go_wp2
        go_ret
        exact ⟨by rw [RES.out]; rfl, HB.out⟩
    · have q2 : decide ((1 : Int) ≤ n) = false := decide_eq_false c2
      have RES := hide1 (decide_eq_false (fun h => c2 (HI.out.1 h).2.1))
      clear HI c1
      go_wp2_with fail
      refine (CF.out _).mono ?_
      rintro e w1 ⟨rfl, rfl⟩
      go_wp2
      go_ret
      exact ⟨by rw [RES.out]; rfl, HB.out⟩
  · rw [decide_eq_false c1] at CF
    have RES := hide1 (decide_eq_false (fun h => c1 (HI.out.1 h).1))
    clear HI c1
    go_wp2_with fail
    refine (CF.out _).mono ?_
    rintro e w1 ⟨rfl, rfl⟩
    go_wp2
    go_ret
    exact ⟨by rw [RES.out]; rfl, HB.out⟩

set_option maxRecDepth 100000 in
set_option maxHeartbeats 2000000 in
theorem newItem_any (x : Im) (w : World) : Calls Tryz.prog 79 #[.agg #[.string x.k, .string x.v, .int .i64 x.n]] w fun e w' => e = .returned (.agg #[.string x.k, .string x.v, .int .i64 x.n]) ∧ Below w.heap.size w w' := by
  obtain ⟨k, v, n⟩ := x
  dsimp only
  have F0 := hide1 (blkN2 w #[.string k, .string v, .int .i64 n] #[.string ⟨#[]⟩, .string ⟨#[]⟩, .int .i64 0] 34 34)
  go_enter Tryz.func79, Tryz.ntmps79
  go_wp2_with fail
  generalize ((w.alloc (.cells #[.string k, .string v, .int .i64 n] 34)).alloc (.cells #[.string ⟨#[]⟩, .string ⟨#[]⟩, .int .i64 0] 34)) = w0 at F0 ⊢
  obtain ⟨K0, K1, B0⟩ := F0.out
  have HK0 := hide1 K0
  have HK1 := hide1 K1
  have HB0 := hide1 B0
  have hs0 : w.heap.size + 1 < w0.heap.size := K1.lt
  have a0 : w0.cell? ⟨w.heap.size, 0, none⟩ = some (.string k) := K0.cell 0
  have a1 : w0.cell? ⟨w.heap.size, 1, none⟩ = some (.string v) := K0.cell 1
  have a2 : w0.cell? ⟨w.heap.size, 2, none⟩ = some (.int .i64 n) := K0.cell 2
  have z0 : w0.cell? ⟨w.heap.size + 1, 0, none⟩ = some (.string ⟨#[]⟩) := K1.cell 0
  have z1 : w0.cell? ⟨w.heap.size + 1, 1, none⟩ = some (.string ⟨#[]⟩) := K1.cell 1
  have z2 : w0.cell? ⟨w.heap.size + 1, 2, none⟩ = some (.int .i64 0) := K1.cell 2
  have zf : ∀ j, w0.frozen? ⟨w.heap.size + 1, j, none⟩ = false := fun j => K1.froz j
  clear F0 K0 K1 B0
  have k01 : ∀ (u : World) (i j : Nat) (y : Value), (u.setCell ⟨w.heap.size + 1, i, none⟩ y).cell? ⟨w.heap.size, j, none⟩ = u.cell? ⟨w.heap.size, j, none⟩ := fun u i j y => World.cell?_setCell_far _ _ _ _ (by dsimp only; omega)
  go_region_held3 (fun w' => w'.cell? ⟨w.heap.size, 0, none⟩ = some (.string k) ∧ w'.cell? ⟨w.heap.size, 1, none⟩ = some (.string v) ∧ w'.cell? ⟨w.heap.size, 2, none⟩ = some (.int .i64 n)) (first | go_keep | simp only [World.cell?_drew, k01, a0, a1, a2, and_self]) ((go_at_call 101; first | (have hasB := b1.out; clear hasB; refine (newX_any _ _).mono ?_; rintro e w2 ⟨rfl, hb2⟩; have b2 : Hid (Below w0.heap.size w0 w2) := (b1.out.trans (show Below w0.heap.size w1 _ by go_grown)).trans (hb2.mono (by have := b1.out.size; go_size)); clear hb2; clear zf a0 a1 a2 z0 z1 z2; have a0 : w2.cell? ⟨w.heap.size, 0, none⟩ = some (.string k) := (HK0.out.below b2.out HK0.out.lt).cell 0; have a1 : w2.cell? ⟨w.heap.size, 1, none⟩ = some (.string v) := (HK0.out.below b2.out HK0.out.lt).cell 1; have a2 : w2.cell? ⟨w.heap.size, 2, none⟩ = some (.int .i64 n) := (HK0.out.below b2.out HK0.out.lt).cell 2; have z0 : w2.cell? ⟨w.heap.size + 1, 0, none⟩ = some (.string ⟨#[]⟩) := (HK1.out.below b2.out HK1.out.lt).cell 0; have z1 : w2.cell? ⟨w.heap.size + 1, 1, none⟩ = some (.string ⟨#[]⟩) := (HK1.out.below b2.out HK1.out.lt).cell 1; have z2 : w2.cell? ⟨w.heap.size + 1, 2, none⟩ = some (.int .i64 0) := (HK1.out.below b2.out HK1.out.lt).cell 2; have zf : ∀ j, w2.frozen? ⟨w.heap.size + 1, j, none⟩ = false := fun j => (HK1.out.below b2.out HK1.out.lt).froz j; have hs2 : w.heap.size + 1 < w2.heap.size := Nat.lt_of_lt_of_le hs0 b2.out.size) | (refine (newX_any _ _).mono ?_; rintro e w1 ⟨rfl, hb1⟩; have b1 : Hid (Below w0.heap.size w0 w1) := (show Below w0.heap.size w0 _ by go_grown).trans (hb1.mono (by go_size)); clear hb1; clear zf a0 a1 a2 z0 z1 z2; have a0 : w1.cell? ⟨w.heap.size, 0, none⟩ = some (.string k) := (HK0.out.below b1.out HK0.out.lt).cell 0; have a1 : w1.cell? ⟨w.heap.size, 1, none⟩ = some (.string v) := (HK0.out.below b1.out HK0.out.lt).cell 1; have a2 : w1.cell? ⟨w.heap.size, 2, none⟩ = some (.int .i64 n) := (HK0.out.below b1.out HK0.out.lt).cell 2; have z0 : w1.cell? ⟨w.heap.size + 1, 0, none⟩ = some (.string ⟨#[]⟩) := (HK1.out.below b1.out HK1.out.lt).cell 0; have z1 : w1.cell? ⟨w.heap.size + 1, 1, none⟩ = some (.string ⟨#[]⟩) := (HK1.out.below b1.out HK1.out.lt).cell 1; have z2 : w1.cell? ⟨w.heap.size + 1, 2, none⟩ = some (.int .i64 0) := (HK1.out.below b1.out HK1.out.lt).cell 2; have zf : ∀ j, w1.frozen? ⟨w.heap.size + 1, j, none⟩ = false := fun j => (HK1.out.below b1.out HK1.out.lt).froz j; have hs1 : w.heap.size + 1 < w1.heap.size := Nat.lt_of_lt_of_le hs0 b1.out.size)))
  go_wp2
  have NB : Blk (((w2.setCell ⟨w.heap.size + 1, 0, none⟩ (.string k)).setCell ⟨w.heap.size + 1, 1, none⟩ (.string v)).setCell ⟨w.heap.size + 1, 2, none⟩ (.int .i64 n)) (w.heap.size + 1) 34 [.string k, .string v, .int .i64 n] := (Blk.set (Blk.set (Blk.set (HK1.out.below b2.out HK1.out.lt) 0 (.string k)) 1 (.string v)) 2 (.int .i64 n))
  have BF : Below w.heap.size w (((w2.setCell ⟨w.heap.size + 1, 0, none⟩ (.string k)).setCell ⟨w.heap.size + 1, 1, none⟩ (.string v)).setCell ⟨w.heap.size + 1, 2, none⟩ (.int .i64 n)) := ((((HB0.out.trans (b2.out.mono HB0.out.size)).setCell (p := ⟨w.heap.size + 1, 0, none⟩) (by dsimp only; omega) _).setCell (p := ⟨w.heap.size + 1, 1, none⟩) (by dsimp only; omega) _).setCell (p := ⟨w.heap.size + 1, 2, none⟩) (by dsimp only; omega) _)
  generalize (((w2.setCell ⟨w.heap.size + 1, 0, none⟩ (.string k)).setCell ⟨w.heap.size + 1, 1, none⟩ (.string v)).setCell ⟨w.heap.size + 1, 2, none⟩ (.int .i64 n)) = w9 at NB BF ⊢
  refine bodyPost_ret (results_cell_row Tryz.results79 _ _ (w.heap.size + 1) 34 #[.string k, .string v, .int .i64 n] (0, 0) _ rfl NB Tryz.underlying34 rfl (by kernel_rfl)) rfl ?_
  first | exact ⟨rfl, BF⟩ | exact ⟨rfl, BF.drew⟩

set_option maxRecDepth 100000 in
theorem nodeFits_any (n : Int) (w : World) : Calls Tryz.prog 91 #[.int .i64 n] w fun e w' => e = .returned (.bool (decide (1 ≤ n ∧ n ≤ 6))) ∧ w' = w := by
  by_cases h1 : 1 ≤ n
  · by_cases h2 : n ≤ 6
    · rw [show decide (1 ≤ n ∧ n ≤ 6) = true by simp [h1, h2]]
      go_enter Tryz.func91, Tryz.ntmps91
      go_wp2
      go_ret
      exact ⟨rfl, rfl⟩
    · rw [show decide (1 ≤ n ∧ n ≤ 6) = false by simp [h2]]
      go_enter Tryz.func91, Tryz.ntmps91
      go_wp2
      go_ret
      exact ⟨rfl, rfl⟩
  · rw [show decide (1 ≤ n ∧ n ≤ 6) = false by simp [h1]]
    go_enter Tryz.func91, Tryz.ntmps91
    go_wp2
    go_ret
    exact ⟨rfl, rfl⟩
/-- What the program's countFits answers: no count fits where there is no such kind. -/
def cntF (k : Int) (c : Nat) : Prop := (1 ≤ k ∧ k ≤ 8) ∧ manyOk k c
instance (k : Int) (c : Nat) : Decidable (cntF k c) := by unfold cntF; infer_instance
end Go.Proofs.YtpjgplohlchpoaaGreatDoor
namespace Go.Proofs.YtpjgplohlchpoaaGreatDoor
open Go.RowKit
set_option linter.unusedVariables false

/-- All ahead of i have lesser keys. -/
def lessTo (l : List Im) (k : ByteArray) (i : Nat) : Prop := ∀ j (h : j < l.length), j < i → tLt l[j].k k = true
theorem lessTo_next {l : List Im} {k : ByteArray} {i : Nat} (h : lessTo l k i) (hi : i < l.length) (h2 : tLt l[i].k k = true) : lessTo l k (i + 1) := fun j hj hlt => by
  by_cases c : j < i
  · exact h j hj c
  · have : j = i := by omega
    subst this
    exact h2
theorem asc_lt {l : List Im} (ha : ascI l) {i j : Nat} (hi : i < l.length) (hj : j < l.length) (h : i < j) : tLt l[i].k l[j].k = true := by
  unfold ascI at ha
  rw [List.pairwise_iff_getElem] at ha
  exact ha i j hi hj h
theorem fil_take {l : List Im} {p : Im → Bool} {i : Nat} (h : ∀ j (hj : j < l.length), j < i → p l[j] = true) : (l.take i).filter p = l.take i := List.filter_eq_self.2 (fun y hy => by
  obtain ⟨j, hj, rfl⟩ := List.getElem_of_mem hy
  rw [List.length_take] at hj
  rw [List.getElem_take]
  exact h j (by omega) (by omega))
theorem fil_takeN {l : List Im} {p : Im → Bool} {i : Nat} (h : ∀ j (hj : j < l.length), j < i → p l[j] = false) : (l.take i).filter p = [] := List.filter_eq_nil_iff.2 (fun y hy => by
  obtain ⟨j, hj, rfl⟩ := List.getElem_of_mem hy
  rw [List.length_take] at hj
  rw [List.getElem_take, h j (by omega) (by omega)]
  simp)
theorem fil_drop {l : List Im} {p : Im → Bool} {i : Nat} (h : ∀ j (hj : j < l.length), i ≤ j → p l[j] = true) : (l.drop i).filter p = l.drop i := List.filter_eq_self.2 (fun y hy => by
  obtain ⟨j, hj, rfl⟩ := List.getElem_of_mem hy
  rw [List.length_drop] at hj
  rw [List.getElem_drop]
  exact h (i + j) (by omega) (by omega))
theorem fil_dropN {l : List Im} {p : Im → Bool} {i : Nat} (h : ∀ j (hj : j < l.length), i ≤ j → p l[j] = false) : (l.drop i).filter p = [] := List.filter_eq_nil_iff.2 (fun y hy => by
  obtain ⟨j, hj, rfl⟩ := List.getElem_of_mem hy
  rw [List.length_drop] at hj
  rw [List.getElem_drop, h (i + j) (by omega) (by omega)]
  simp)
theorem fil_part {l : List Im} (p : Im → Bool) (i : Nat) : l.filter p = (l.take i).filter p ++ (l.drop i).filter p := by
  rw [← List.filter_append, List.take_append_drop]
/-- A key that is not there: it goes ahead of the first one that is greater. -/
theorem ins_new {l : List Im} {x : Im} {i : Nat} (ha : ascI l) (hi : i ≤ l.length) (h1 : lessTo l x.k i) (h2 : ∀ (h : i < l.length), tLt x.k l[i].k = true) : insI l x = l.take i ++ x :: l.drop i ∧ newI l x = false := by
  have hg : ∀ j (hj : j < l.length), i ≤ j → tLt x.k l[j].k = true := fun j hj hij => by
    by_cases c : i = j
    · subst c; exact h2 hj
    · exact tLt_trans (h2 (by omega)) (asc_lt ha (by omega) hj (by omega))
  constructor
  · unfold insI
    rw [fil_part (fun y => tLt y.k x.k) i, fil_part (fun y => tLt x.k y.k) i, fil_take (fun j hj hji => h1 j hj hji), fil_dropN (fun j hj hij => tLt_asym (hg j hj hij)), fil_takeN (fun j hj hji => tLt_asym (h1 j hj hji)), fil_drop hg, List.append_nil, List.nil_append]
  · refine oldTo_all (fun j hj _ => fun e => ?_)
    by_cases c : j < i
    · exact tLt_ne (h1 j hj c) e.1
    · exact tLt_ne (hg j hj (by omega)) e.1.symm
/-- A key that is there: its item is the new one. -/
theorem ins_old {l : List Im} {x : Im} {i : Nat} (ha : ascI l) (hi : i < l.length) (h1 : lessTo l x.k i) (h2 : l[i].k = x.k) : insI l x = l.set i x ∧ newI l x = decide (x.n ≤ l[i].n) := by
  have hg : ∀ j (hj : j < l.length), i + 1 ≤ j → tLt x.k l[j].k = true := fun j hj hij => by
    rw [← h2]; exact asc_lt ha hi hj (by omega)
  constructor
  · unfold insI
    have e1 : (l.drop i).filter (fun y => tLt y.k x.k) = [] := fil_dropN (fun j hj hij => by
      by_cases c : i = j
      · subst c; show tLt l[i].k x.k = false; rw [h2]; exact tLt_irr _
      · exact tLt_asym (hg j hj (by omega)))
    have e2 : (l.take (i + 1)).filter (fun y => tLt x.k y.k) = [] := fil_takeN (fun j hj hji => by
      by_cases c : i = j
      · subst c; show tLt x.k l[i].k = false; rw [h2]; exact tLt_irr _
      · exact tLt_asym (h1 j hj (by omega)))
    rw [fil_part (fun y => tLt y.k x.k) i, fil_part (fun y => tLt x.k y.k) (i + 1), fil_take (fun j hj hji => h1 j hj hji), e1, e2, fil_drop hg, List.append_nil, List.nil_append, List.set_eq_take_append_cons_drop, if_pos hi]
  · by_cases c : x.n ≤ l[i].n
    · rw [decide_eq_true c]
      exact newI_at hi ⟨h2, c⟩
    · rw [decide_eq_false c]
      refine oldTo_all (fun j hj _ => fun e => ?_)
      by_cases d : j = i
      · subst d; exact c e.2
      · by_cases d2 : j < i
        · exact tLt_ne (h1 j hj d2) e.1
        · exact tLt_ne (hg j hj (by omega)) e.1.symm
end Go.Proofs.YtpjgplohlchpoaaGreatDoor
