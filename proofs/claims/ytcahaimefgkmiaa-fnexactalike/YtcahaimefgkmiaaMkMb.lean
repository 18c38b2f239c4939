/- What the laws mark and hold of a member. -/
import Derived.Test.YtcahaimefgkmiaaToMb
import Derived.Test.YtcahaimefgkmiaaMkI
namespace Go.Proofs.Ytcahaimefgkmiaa
open Go.RowKit
set_option linter.unusedVariables false

/-- A member whose rows are marked from q on. -/
def mkMb (m : Mb) (q : Nat) : Mb := { m with wa := patZ q m.wa.length, is := patG mIm 3 (q + m.wa.length) m.is.length, tk := { m.tk with lf := patZ (q + m.wa.length + 3 * m.is.length) m.tk.lf.length } }
/-- A block that holds none of a member's rows. -/
def OffMb (m : Mb) (A : MA) (g : Nat) : Prop := (Value.slice A.wa m.wa.length A.wc).ownBlock ≠ some g ∧ (Value.slice A.ia m.is.length A.ic).ownBlock ≠ some g ∧ (Value.slice A.la m.tk.lf.length A.lc).ownBlock ≠ some g
theorem OwnMb.off {w : World} {B g : Nat} {m : Mb} {A : MA} (h : OwnMb w B m A) (hg : g < B ∨ w.heap.size ≤ g) : OffMb m A g := ⟨fun e => by have := h.wo.lt g e; omega, fun e => by have := h.io.lt g e; omega, fun e => by have := h.lo.lt g e; omega⟩
def mkN (m : Mb) (q : Nat) : Nat := q + m.wa.length + 3 * m.is.length + m.tk.lf.length
theorem own_blk {w : World} {B n k : Nat} {e : TypeId} {v : Value} {xs : List Value} (h : w.ownsRow B e k v n xs) : ∀ g, v.ownBlock = some g → B ≤ g := fun g hg => (h.lt g hg).1
/-- A member without rows, count or task. -/
def bareB (i e : Int) (f b l s : Bool) : Mb := ⟨i, e, f, b, l, s, [], [], 0, zeroTk⟩
theorem sz_bare (i e : Int) (f b l s : Bool) : SzMb (bareB i e f b l s) := ⟨by simp [bareB], by simp [bareB], by simp [bareB, zeroTk]⟩
theorem rd_bare (w : World) (i e : Int) (f b l s : Bool) : RdMb w (bareB i e f b l s) noMA := ⟨fun i hi => by simp [bareB] at hi, fun i hi => by simp [bareB] at hi, fun i hi => by simp [bareB, zeroTk] at hi⟩
theorem rd_bare2 (w : World) (i e : Int) (f b l s : Bool) (q : Nat) : RdMb w (mkMb (bareB i e f b l s) q) noMA := ⟨fun i hi => by simp [bareB, mkMb, patZ] at hi, fun i hi => by simp [bareB, mkMb, patG] at hi, fun i hi => by simp [bareB, zeroTk, mkMb, patZ] at hi⟩
theorem own_bare (w : World) (B : Nat) (i e : Int) (f b l s : Bool) : OwnMb w B (bareB i e f b l s) noMA := ⟨World.ownsRow_nil _ _ _ _, World.ownsRow_nil _ _ _ _, World.ownsRow_nil _ _ _ _, fun g h => by simp [noMA, Value.ownBlock] at h, fun g h => by simp [noMA, Value.ownBlock] at h, fun g h => by simp [noMA, Value.ownBlock] at h⟩
theorem off_bare (i e : Int) (f b l s : Bool) (g : Nat) : OffMb (bareB i e f b l s) noMA g := ⟨fun h => by simp [noMA, Value.ownBlock] at h, fun h => by simp [noMA, Value.ownBlock] at h, fun h => by simp [noMA, Value.ownBlock] at h⟩
theorem eqBare_any (i e : Int) (f b l s : Bool) (w : World) : Calls Try.prog 70 #[.agg #[.int .i64 i, .int .i64 e, .bool f, .bool b, .bool l, .bool s, .slice none 0 0, .slice none 0 0, .int .i64 0, .int .i64 0, .int .i64 0, .int .i64 0, .string ⟨#[]⟩, .string ⟨#[]⟩, .int .i64 0, .slice none 0 0], .agg #[.int .i64 i, .int .i64 e, .bool f, .bool b, .bool l, .bool s, .slice none 0 0, .slice none 0 0, .int .i64 0, .int .i64 0, .int .i64 0, .int .i64 0, .string ⟨#[]⟩, .string ⟨#[]⟩, .int .i64 0, .slice none 0 0]] w fun r w' => r = .returned (.bool true) ∧ Below w.heap.size w w' := eqMember_same (bareB i e f b l s) noMA noMA w (sz_bare i e f b l s) (rd_bare w i e f b l s) (rd_bare w i e f b l s)
end Go.Proofs.Ytcahaimefgkmiaa
