/- What a text is read as, plain: the model's way and the program's are one. -/
import Derived.Test.YtbkhhkknhbddeaaDoorRdM
import Derived.Test.YtbkhhkknhbddeaaDoorTurnP
namespace Go.Proofs.YtbkhhkknhbddeaaDoor
open Go.RowKit
set_option linter.unusedVariables false

def sealedB (s : ByteArray) : Prop := 4 ≤ s.size ∧ s.size ≤ 20004 ∧ (tl s).toList = four (sumOf (inn s))
instance (s : ByteArray) : Decidable (sealedB s) := by unfold sealedB; infer_instance
theorem sealS_inn (x : ByteArray) : inn (sealS x) = x := by
  apply tx_inj
  rw [inn_list, sealS_size]
  have h : (sealS x).data.toList = x.data.toList ++ four (sumOf x) := by
    have := sealS_list x
    rw [ByteArray.toList_eq, ByteArray.toList_eq] at this
    exact this
  rw [h, List.take_left' (by simp), ByteArray.toList_eq]
theorem sealS_ok (x : ByteArray) (h : x.size ≤ 20000) : sealedB (sealS x) := by
  have e := sealS_inn x
  refine ⟨by rw [sealS_size]; omega, by rw [sealS_size]; omega, ?_⟩
  exact (sealed_iff (sealS x)).1 (by rw [e])
theorem seal_inn {s : ByteArray} (h : sealedB s) : sealS (inn s) = s := tx_inj ((sealed_iff s).2 h.2.2)
/-- The text that is read, and whether it is bad from the beginning. -/
def unT (s : ByteArray) : ByteArray := if sealedB s then inn s else ⟨#[]⟩
def unB (s : ByteArray) : Bool := !decide (sealedB s)
theorem unsealV_un (s : ByteArray) : unsealV s = .tuple #[.string (unT s), .bool (!unB s)] := by
  unfold unsealV unT unB
  by_cases c : sealedB s
  · rw [if_pos c, decide_eq_true c, if_pos (show 4 ≤ s.size ∧ s.size ≤ 20004 ∧ (tl s).toList = four (sumOf (inn s)) from c)]; rfl
  · rw [if_neg c, decide_eq_false c, if_neg (show ¬ (4 ≤ s.size ∧ s.size ≤ 20004 ∧ (tl s).toList = four (sumOf (inn s))) from c)]; rfl
def okAll (s : ByteArray) (m : Ms) (b : Bool) : Prop := b = false ∧ okMs m ∧ sealS (bA (msB m)) = s
theorem rd_yes {s : ByteArray} {m : Ms} {b : Bool} (h : okAll s m b) : rdM s = some m := by
  obtain ⟨_, h2, h3⟩ := h
  have hsz : (bA (msB m)).size ≤ 20000 := by rw [bA_size]; have := msB_size h2; omega
  have h4 : sealedB s := by rw [← h3]; exact sealS_ok _ hsz
  unfold rdM
  rw [if_pos (show 4 ≤ s.size ∧ s.size ≤ 20004 ∧ (tl s).toList = four (sumOf (inn s)) from h4), ← h3, sealS_inn]
  exact readP_ms h2
theorem rd_no {s : ByteArray} (h : ¬ okAll s (readM (unT s) (unB s)).1 (readM (unT s) (unB s)).2.2.2) : rdM s = none := by
  cases e : rdM s with
  | none => rfl
  | some m =>
    exfalso
    apply h
    unfold rdM at e
    by_cases c : sealedB s
    · rw [if_pos (show 4 ≤ s.size ∧ s.size ≤ 20004 ∧ (tl s).toList = four (sumOf (inn s)) from c)] at e
      obtain ⟨h1, h2⟩ := readP_back e
      have e1 : unT s = bA (msB m) := by unfold unT; rw [if_pos c]; exact h2
      have e2 : unB s = false := by unfold unB; rw [decide_eq_true c]; rfl
      rw [e1, e2, show readM (bA (msB m)) false = (m, m.is.length, (msB m).length, false) from read_ms h1]
      exact ⟨rfl, h1, by show sealS (bA (msB m)) = s; rw [← show inn s = bA (msB m) from h2]; exact seal_inn c⟩
    · rw [if_neg (show ¬ (4 ≤ s.size ∧ s.size ≤ 20004 ∧ (tl s).toList = four (sumOf (inn s))) from c)] at e
      cases e
/-- What is still to be read, behind what was. -/
def onC (s : ByteArray) (K : Nat) (c0 : Nat × Bool) (pre : List Im) (i : Nat) (c : Nat × Bool) : Prop := cItems s K c0 = (pre ++ (cItems s (K - i) c).1, (cItems s (K - i) c).2)
theorem onC_start (s : ByteArray) (K : Nat) (c0 : Nat × Bool) : onC s K c0 [] 0 c0 := by unfold onC; rw [Nat.sub_zero]; rfl
theorem onC_next {s : ByteArray} {K i : Nat} {c0 c : Nat × Bool} {pre : List Im} (h : onC s K c0 pre i c) (hi : i < K) (hc : c.2 = false) : onC s K c0 (pre ++ [(cItem s c).1]) (i + 1) (cItem s c).2 := by
  unfold onC at h ⊢
  rw [h]
  obtain ⟨d, hd⟩ : ∃ d, K - i = d + 1 := ⟨K - i - 1, by omega⟩
  rw [hd, show K - (i + 1) = d by omega]
  conv => lhs; unfold cItems
  rw [if_neg (by rw [hc]; simp)]
  simp
theorem onC_end {s : ByteArray} {K i : Nat} {c0 c : Nat × Bool} {pre : List Im} (h : onC s K c0 pre i c) (he : i = K ∨ c.2 = true) : cItems s K c0 = (pre, c) := by
  unfold onC at h
  rw [h]
  have : cItems s (K - i) c = ([], c) := by
    cases hk : K - i with
    | zero => rfl
    | succ d =>
      unfold cItems
      rcases he with he | he
      · omega
      · rw [if_pos he]
  rw [this]
  simp
end Go.Proofs.YtbkhhkknhbddeaaDoor
