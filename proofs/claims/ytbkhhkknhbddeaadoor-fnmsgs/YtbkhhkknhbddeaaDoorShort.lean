/- The contracts of the functions that write and read a short text: at every text and place. -/
import Derived.Test.YtbkhhkknhbddeaaDoorReadS
namespace Go.Proofs.YtbkhhkknhbddeaaDoor
open Go.RowKit
set_option maxRecDepth 100000

/-- '[]byte(s)', and 'string(..)' of it. -/
theorem conv_back {P : Program} (w : World) (src dst e : TypeId) (s : ByteArray) (hs : P.underlying src = some .string) (hd : P.underlying dst = some (.slice e)) (he : P.underlying e = some (.int .u8)) :
    ∃ v w1, (convert src dst (.string s)).run P w = .ok v w1 ∧ (convert dst src v).run P w1 = .ok (.string s) w1 ∧ Below w.heap.size w w1 := by
  refine ⟨_, _, run_bytes_of_string w src dst e s hs hd he, ?_, (Below.refl _ _).drew.alloc (Nat.le_refl _) _⟩
  have hl : s.size = s.data.toList.length := by simp
  rw [hl, run_convert_bytes_back _ dst src e ⟨w.heap.size, 0, none⟩ _ s.data.toList hd he hs]
  intro j hj
  have hj' : j < s.data.size := by simpa using hj
  rw [Addr.add_lit, Nat.zero_add]
  have := World.cell?_alloc_mark w.drew (bytesRow s (grownCap w s.size 0 e)) e ((bytesRow s (grownCap w s.size 0 e)).size, (bytesRow s (grownCap w s.size 0 e)).size + 1) j
  rw [bytesRow_at s _ j hj'] at this
  rw [← hl]
  simpa using this

theorem newText_any (s : ByteArray) (w : World) : Calls Tryd.prog 56 #[.string s] w fun e w' => e = .returned (.string s) ∧ Below w.heap.size w w' := by
  obtain ⟨v, w1, r1, r2, hb⟩ := conv_back (P := Tryd.prog) w 9 22 5 s Tryd.underlying9 Tryd.underlying22 Tryd.underlying5
  go_enter Tryd.func56, Tryd.ntmps56
  go_wp2
  go_ret
  exact ⟨rfl, hb⟩

def shortV (s : ByteArray) : Value := if s.size ≤ 20000 then .tuple #[.string (⟨(varB s.size).toArray⟩ ++ s), .bool true] else .tuple #[.string ⟨#[]⟩, .bool false]

theorem implShort_any (s : ByteArray) (w : World) (hs : s.size ≤ 1048576) :
    Calls Tryd.prog 53 #[.string s] w fun e w' => e = .returned (shortV s) ∧ Below w.heap.size w w' := by
  unfold shortV
  by_cases h : s.size ≤ 20000
  · rw [if_pos h]
    have cc := fun w => implVarText_any (s.size : Int) w
    rw [varText_yes (by omega) (by omega), Int.toNat_natCast] at cc
    have hv := varB_length s.size
    obtain ⟨z, hz⟩ : ∃ z : ByteArray, z = ⟨(varB s.size).toArray⟩ := ⟨_, rfl⟩
    rw [← hz] at cc ⊢
    have hzs : z.size ≤ 10 := by rw [hz]; show (varB s.size).toArray.size ≤ 10; rw [List.size_toArray]; exact hv
    have CC : Hid _ := cc
    clear hz cc
    go_enter Tryd.func53, Tryd.ntmps53
    go_wp2_with (go_at_call 24; refine (CC.out _).mono ?_; rintro e w1 ⟨rfl, hb1⟩)
    go_ret2
    exact ⟨rfl, hb1⟩
  · rw [if_neg h]
    go_enter Tryd.func53, Tryd.ntmps53
    go_wp2
    go_ret2
    exact ⟨rfl, Below.refl _ _⟩

def readShortV (s : ByteArray) (o : Option (Nat × Nat)) : Value :=
  match o with
  | some (n, j) => if n ≤ 20000 ∧ j + n ≤ s.size then .tuple #[.string (s.extract j (j + n)), .int .i64 ((j : Int) + (n : Int)), .bool true] else .tuple #[.string ⟨#[]⟩, .int .i64 0, .bool false]
  | none => .tuple #[.string ⟨#[]⟩, .int .i64 0, .bool false]

theorem readShortV_yes {s : ByteArray} {n j : Nat} (h : n ≤ 20000) (k : j + n ≤ s.size) : readShortV s (some (n, j)) = .tuple #[.string (s.extract j (j + n)), .int .i64 ((j : Int) + (n : Int)), .bool true] := by
  show (if n ≤ 20000 ∧ j + n ≤ s.size then _ else _) = _
  rw [if_pos ⟨h, k⟩]
theorem readShortV_no {s : ByteArray} {n j : Nat} (h : ¬ (n ≤ 20000 ∧ j + n ≤ s.size)) : readShortV s (some (n, j)) = .tuple #[.string ⟨#[]⟩, .int .i64 0, .bool false] := by
  show (if n ≤ 20000 ∧ j + n ≤ s.size then _ else _) = _
  rw [if_neg h]
theorem readVarV_open (s : ByteArray) (p : Int) : ∃ o : Option (Nat × Nat), readVarV s p = rdV o ∧ ∀ n j, o = some (n, j) → n ≤ 1000000000 ∧ j ≤ s.size := by
  have key : ∀ f i n wt, ∀ m j, rdF (byt s) s.size f i n wt = some (m, j) → m ≤ 1000000000 ∧ j ≤ s.size := by
    intro f
    induction f with
    | zero => intro i n wt m j h; simp [rdF] at h
    | succ f ih =>
      intro i n wt m j h
      rw [rdF] at h
      split at h
      · split at h
        · exact ih _ _ _ _ _ h
        · split at h
          · cases h
          · simp at h
            omega
      · cases h
  unfold readVarV
  split
  · exact ⟨_, rfl, fun n j h => key _ _ _ _ _ _ h⟩
  · exact ⟨none, rfl, by intro n j h; cases h⟩

set_option maxHeartbeats 400000 in
theorem implReadShort_any (s : ByteArray) (p : Int) (w : World) (hs : s.size ≤ 1048576) (o : Option (Nat × Nat)) (ho : readVarV s p = rdV o) (hbd : ∀ n j, o = some (n, j) → n ≤ 1000000000 ∧ j ≤ s.size) :
    Calls Tryd.prog 89 #[.string s, .int .i64 p] w fun e w' => e = .returned (readShortV s o) ∧ Below w.heap.size w w' := by
  have cc := fun w => implReadVar_any s p w hs
  rw [ho] at cc
  clear ho
  rcases o with _ | ⟨n, j⟩
  · have CC : Hid _ := cc
    clear cc
    go_enter Tryd.func89, Tryd.ntmps89
    go_wp2_with (first | (go_at_call 85; refine (CC.out _).mono ?_; rintro e w1 ⟨rfl, rfl⟩; unfold rdV) | (go_at_call 56; refine (newText_any _ _).mono ?_; rintro e w2 ⟨rfl, hb2⟩))
    go_ret3
    exact ⟨rfl, Below.refl _ _⟩
  · obtain ⟨h1, h2⟩ := hbd n j rfl
    clear hbd
    have CC : Hid _ := cc
    clear cc
    by_cases c1 : n ≤ 20000
    · by_cases c2 : j + n ≤ s.size
      · rw [readShortV_yes c1 c2]
        go_enter Tryd.func89, Tryd.ntmps89
        go_wp2_with (first | (go_at_call 85; refine (CC.out _).mono ?_; rintro e w1 ⟨rfl, rfl⟩; unfold rdV) | (go_at_call 56; refine (newText_any _ _).mono ?_; rintro e w2 ⟨rfl, hb2⟩))
        go_ret3
        exact ⟨rfl, hb2⟩
      · rw [readShortV_no (by omega)]
        go_enter Tryd.func89, Tryd.ntmps89
        go_wp2_with (first | (go_at_call 85; refine (CC.out _).mono ?_; rintro e w1 ⟨rfl, rfl⟩; unfold rdV) | (go_at_call 56; refine (newText_any _ _).mono ?_; rintro e w2 ⟨rfl, hb2⟩))
        go_ret3
        exact ⟨rfl, Below.refl _ _⟩
    · rw [readShortV_no (by omega)]
      go_enter Tryd.func89, Tryd.ntmps89
      go_wp2_with (first | (go_at_call 85; refine (CC.out _).mono ?_; rintro e w1 ⟨rfl, rfl⟩; unfold rdV) | (go_at_call 56; refine (newText_any _ _).mono ?_; rintro e w2 ⟨rfl, hb2⟩))
      go_ret3
      exact ⟨rfl, Below.refl _ _⟩

end Go.Proofs.YtbkhhkknhbddeaaDoor
