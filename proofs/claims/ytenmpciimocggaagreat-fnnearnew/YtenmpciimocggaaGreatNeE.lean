/- New near entries: data, rows. -/
import Derived.Test.YtenmpciimocggaaGreatXV
import Derived.Test.YtenmpciimocggaaGreatXBW
import Derived.Test.YtenmpciimocggaaGreatXSK
import Derived.Test.YtenmpciimocggaaGreatXI
namespace Go.Proofs.YtenmpciimocggaaGreat
open Go.RowKit

/-- New near entries of n slots. -/
def newN (n : Nat) : Nr := { sl := newL n n, fr := 0, ce := List.replicate (cellsN n) nC, od := [], mv := 0, w := [], wm := (mostW n : Int), t := [], tm := (mostT n : Int), s := [], sm := (mostS n : Int), sk := List.replicate 48 0, ad := 0, dr := 0 }
def zeN : Nr := { sl := [], fr := 0, ce := [], od := [], mv := 0, w := [], wm := 0, t := [], tm := 0, s := [], sm := 0, sk := [], ad := 0, dr := 0 }
def noA : NA := ⟨none, 0, none, 0, none, 0, none, 0, none, 0, none, 0, none, 0⟩
theorem OwnN.zero (w : World) (B : Nat) : OwnN w B noA zeN := by
  refine ⟨World.ownsRow_nil _ _ _ _, World.ownsRow_nil _ _ _ _, World.ownsRow_nil _ _ _ _, World.ownsRow_nil _ _ _ _, World.ownsRow_nil _ _ _ _, World.ownsRow_nil _ _ _ _, World.ownsRow_nil _ _ _ _, ?_⟩
  simp [vlN, noA, zeN, Value.ownBlock]
theorem cellsN_ok (n : Nat) : szOk (cellsN n : Int) := by
  unfold szOk cellsN
  split
  · simp
  · split
    · simp
    · split
      · simp
      · split <;> simp
theorem cellsN_le (n : Nat) : cellsN n ≤ 64 := by
  unfold cellsN
  split
  · omega
  · split
    · omega
    · split
      · omega
      · split <;> omega
theorem SmN.zero : SmN zeN := by constructor <;> simp [zeN]
theorem SmN.new {n : Nat} (h : n ≤ 24) : SmN (newN n) := by
  have := cellsN_le n
  constructor <;> simp [newN, newL_length] <;> omega
/-- Rows made one behind the other are near entries of the call's own, where no queue has a key. -/
theorem OwnN.made {w : World} {B S1 S2 ac cc oc kc : Nat} {a c o k : Option Addr} {sl : List Sl} {ce od : List Ce} {sk : List Int} {fr mv wm tm sm ad dr : Int} (h1 : B ≤ S1) (h2 : S1 ≤ S2)
    (ha : w.ownsRow B 67 5 (.slice a sl.length ac) sl.length (sls sl)) (hal : ∀ g, (Value.slice a sl.length ac).ownBlock = some g → g < S1)
    (hc : Own2 w S1 c cc ce o oc od) (hcl : ∀ g, ((Value.slice c ce.length cc).ownBlock = some g ∨ (Value.slice o od.length oc).ownBlock = some g) → g < S2)
    (hk : OwnK w S2 k kc sk) :
    OwnN w B ⟨a, ac, c, cc, o, oc, none, 0, none, 0, none, 0, k, kc⟩ { sl := sl, fr := fr, ce := ce, od := od, mv := mv, w := [], wm := wm, t := [], tm := tm, s := [], sm := sm, sk := sk, ad := ad, dr := dr } := by
  refine ⟨ha, own_base hc.1 h1, own_base hc.2.1 h1, World.ownsRow_nil _ _ _ _, World.ownsRow_nil _ _ _ _, World.ownsRow_nil _ _ _ _, hk.base (by omega), ?_⟩
  have q : ∀ g, (Value.slice none 0 0).ownBlock = some g → False := fun g hg => by simp [Value.ownBlock] at hg
  have c1 : ∀ g, (Value.slice c ce.length cc).ownBlock = some g → S1 ≤ g ∧ g < S2 := fun g hg => ⟨(hc.1.lt g hg).1, hcl g (.inl hg)⟩
  have c2 : ∀ g, (Value.slice o od.length oc).ownBlock = some g → S1 ≤ g ∧ g < S2 := fun g hg => ⟨(hc.2.1.lt g hg).1, hcl g (.inr hg)⟩
  have c3 : ∀ g, (Value.slice k sk.length kc).ownBlock = some g → S2 ≤ g := fun g hg => (hk.lt g hg).1
  have hap := hc.2.2
  simp only [vlN, List.pairwise_cons, List.mem_cons, List.not_mem_nil, or_false, List.Pairwise.nil, and_true]
  refine ⟨?_, ?_, ?_, ?_, ?_, ?_, ?_⟩
  · rintro v (rfl | rfl | rfl | rfl | rfl | rfl) g hg e
    · have := hal g hg; have := c1 g e; omega
    · have := hal g hg; have := c2 g e; omega
    · exact q g e
    · exact q g e
    · exact q g e
    · have := hal g hg; have := c3 g e; omega
  · rintro v (rfl | rfl | rfl | rfl | rfl) g hg e
    · exact hap g hg e
    · exact q g e
    · exact q g e
    · exact q g e
    · have := c1 g hg; have := c3 g e; omega
  · rintro v (rfl | rfl | rfl | rfl) g hg e
    · exact q g e
    · exact q g e
    · exact q g e
    · have := c2 g hg; have := c3 g e; omega
  · rintro v (rfl | rfl | rfl) g hg e
    · exact q g hg
    · exact q g hg
    · exact q g hg
  · rintro v (rfl | rfl) g hg e
    · exact q g hg
    · exact q g hg
  · rintro v rfl g hg e
    exact q g hg
  · rintro v hv
    cases hv
end Go.Proofs.YtenmpciimocggaaGreat
