/- A message in bytes: the model's MsgText and its parts. -/
import Derived.Test.YtbkhhkknhbddeaaDoorMsR
import Derived.Test.YtbkhhkknhbddeaaDoorSumD
import Derived.Test.YtbkhhkknhbddeaaDoorShort
import Derived.Test.YtbkhhkknhbddeaaDoorGrQ
import Derived.Deep.DeepCutAuto
namespace Go.Proofs.YtbkhhkknhbddeaaDoor
open Go.RowKit
set_option linter.unusedVariables false

def bA (l : List UInt8) : ByteArray := ⟨l.toArray⟩
theorem bA_size (l : List UInt8) : (bA l).size = l.length := by show l.toArray.size = _; simp
theorem bA_app (a b : List UInt8) : bA a ++ bA b = bA (a ++ b) := by
  apply ByteArray.ext
  show (bA a ++ bA b).data = _
  rw [ByteArray.data_append]
  show a.toArray ++ b.toArray = (a ++ b).toArray
  simp
theorem bA_of (s : ByteArray) : bA s.data.toList = s := by
  apply ByteArray.ext
  show s.data.toList.toArray = s.data
  simp
def headB (m : Ms) : List UInt8 := oneB m.k ++ (oneB m.f ++ (oneB m.o ++ (oneB m.e ++ (varB m.n.toNat ++ varB m.is.length))))
theorem msB_head (m : Ms) : msB m = headB m ++ imsB m.is := by unfold msB headB; simp only [List.append_assoc]
theorem imsB_next (l : List Im) (i : Nat) (h : i < l.length) : imsB (l.take (i + 1)) = imsB (l.take i) ++ imB l[i] := by
  have key : ∀ a b : List Im, imsB (a ++ b) = imsB a ++ imsB b := by
    intro a b
    induction a with
    | nil => rfl
    | cons x a ih => show imB x ++ imsB (a ++ b) = (imB x ++ imsB a) ++ imsB b; rw [ih, List.append_assoc]
  rw [List.take_succ_eq_append_getElem h, key]
  show _ ++ (imB l[i] ++ []) = _
  rw [List.append_nil]
/-- The text with i items. -/
def tx13 (m : Ms) (i : Nat) : ByteArray := bA (headB m ++ imsB (m.is.take i))
theorem tx13_all (m : Ms) : tx13 m m.is.length = bA (msB m) := by unfold tx13; rw [List.take_length, msB_head]
theorem imB_parts (x : Im) : bA (imB x) = ((bA (varB x.k.size) ++ x.k) ++ (bA (varB x.v.size) ++ x.v)) ++ bA (varB x.n.toNat) := by
  have h1 := bA_of x.k
  have h2 := bA_of x.v
  rw [← h1, ← h2, bA_app, bA_app, bA_app, bA_app, bA_size, bA_size]
  unfold imB
  simp only [List.append_assoc]
  have e1 : x.k.data.toList.length = x.k.size := by simp
  have e2 : x.v.data.toList.length = x.v.size := by simp
  rw [e1, e2]
theorem tx13_next (m : Ms) (i : Nat) (h : i < m.is.length) : tx13 m (i + 1) = tx13 m i ++ bA (imB m.is[i]) := by
  unfold tx13
  rw [imsB_next _ _ h, bA_app, List.append_assoc]
theorem imB_len {x : Im} (hx : okIm x) : (imB x).length ≤ 60 := by
  unfold imB
  have h1 := varB_len5 x.k.size (by have := hx.1.2; omega)
  have h2 := varB_len5 x.v.size (by have := hx.2.1; omega)
  have h3 := varB_len5 x.n.toNat (by have := hx.2.2.2; omega)
  have e1 : x.k.data.toList.length = x.k.size := by simp
  have e2 : x.v.data.toList.length = x.v.size := by simp
  have := hx.1.2
  have := hx.2.1
  simp only [List.length_append, e1, e2]
  omega
theorem imsB_len : ∀ (l : List Im), (∀ x ∈ l, okIm x) → (imsB l).length ≤ l.length * 60
  | [], _ => Nat.le_refl _
  | x :: l, h => by
    have h1 := imB_len (h x (List.mem_cons_self ..))
    have h2 := imsB_len l (fun y hy => h y (List.mem_cons_of_mem _ hy))
    show (imB x ++ imsB l).length ≤ (l.length + 1) * 60
    rw [List.length_append]
    omega
theorem tx13_size {m : Ms} (hm : okMs m) (i : Nat) : (tx13 m i).size ≤ 1000 := by
  unfold tx13
  rw [bA_size, List.length_append]
  obtain ⟨_, _, _, _, hn, hi, _⟩ := hm
  have h1 := imsB_len (m.is.take i) (fun x hx => hi.1 x (List.mem_of_mem_take hx))
  have h2 : (m.is.take i).length ≤ 12 := by rw [List.length_take]; have := hi.2.2; omega
  have h3 := varB_len5 m.n.toNat (by omega)
  have h4 := varB_len5 m.is.length (by have := hi.2.2; omega)
  have e1 : ∀ z, (oneB z).length = 1 := fun _ => rfl
  unfold headB
  simp only [List.length_append, e1]
  omega
theorem tx13_zero (m : Ms) : tx13 m 0 = ((((bA (oneB m.k) ++ bA (oneB m.f)) ++ bA (oneB m.o)) ++ bA (oneB m.e)) ++ bA (varB m.n.toNat)) ++ bA (varB m.is.length) := by
  unfold tx13 headB
  rw [bA_app, bA_app, bA_app, bA_app, bA_app]
  show bA (_ ++ []) = _
  simp only [List.append_assoc, List.append_nil]
def msgV (m : Ms) : Value := if okMs m then .tuple #[.string (sealS (bA (msB m))), .bool true] else .tuple #[.string ⟨#[]⟩, .bool false]
theorem seal_ms {m : Ms} (hm : okMs m) : sealV (tx13 m m.is.length) = msgV m := by
  have := tx13_size hm m.is.length
  unfold sealV msgV
  rw [if_pos (by omega), if_pos hm, tx13_all]

set_option maxHeartbeats 400000 in
theorem l13Byte_any (n : Int) (hn : 0 ≤ n ∧ n ≤ 255) (w : World) :
    Calls Tryd.prog 43 #[.int .i64 n] w fun e w' => e = .returned (.string (bA (oneB n))) ∧ Below w.heap.size w w' := by
  have hb : (#[Value.int .u8 n] : Array Value).toList = bc (oneB n) := by simp [bc, oneB, UInt8.toNat_ofNat']; omega
  have hcv := conv_lit w 22 9 5 Tryd.underlying22 Tryd.underlying5 Tryd.underlying9 (oneB n) 1 rfl _ hb
  obtain ⟨h1, h2⟩ := hn
  clear hb
  go_enter Tryd.func43, Tryd.ntmps43
  go_wp2
  go_ret
  exact ⟨rfl, (Below.refl _ _).alloc (Nat.le_refl _) _⟩

set_option maxHeartbeats 400000 in
theorem l13Short_any (s : ByteArray) (hs : s.size ≤ 1048576) (w : World) :
    Calls Tryd.prog 45 #[.string s] w fun e w' => e = .returned (.string (bA (varB s.size) ++ s)) ∧ Below w.heap.size w w' := by
  have cc := fun w => l01Var_any s.size w (by omega)
  have hv := varB_length s.size
  obtain ⟨z, hz⟩ : ∃ z : ByteArray, z = bA (varB s.size) := ⟨_, rfl⟩
  have hzs : z.size ≤ 10 := by rw [hz, bA_size]; exact hv
  have e : (⟨(varB s.size).toArray⟩ : ByteArray) = z := hz.symm
  rw [e] at cc
  rw [← hz]
  have CC := hide1 cc
  clear hz cc e
  go_enter Tryd.func45, Tryd.ntmps45
  go_wp2_with fail
  refine (CC.out _).mono ?_
  rintro e w1 ⟨rfl, hb1⟩
  go_wp2
  go_ret
  exact ⟨rfl, hb1⟩
end Go.Proofs.YtbkhhkknhbddeaaDoor
