/- Bytes appended to a row of the call's own inside a statement whose order Go leaves open; no condition but those stated. -/
import Derived.Test.YtcahaimefgkmiaaKitB
import Derived.Deep.RegionLaw
namespace Go.Proofs.Ytcahaimefgkmiaa
open Go.RowKit

/-- 'out = append(out, b ..)' as one step of a region that draws its order. -/
theorem step_push {P : Program} {w : World} {ops : Array Oper} {o : Oper} {a : Act} {K : Act → World → Prop} {Q : Exit → Act → World → Prop} {E : Prop} (hgd : o.guard = none) (s x : Operand) (t : TypeId)
    (ho : o.op = .call { callee := .builtin .append, args := #[s, x], argTypes := #[t, t] })
    (base : Nat) (e : TypeId) (i : TypeInfo) (ht : P.underlying t = some (.slice e)) (hi : P.info? e = some i) (hz : i.zero = some (.int .u8 0)) (hsize : i.size = 1) (hby : i.bytes = 1)
    (v : Value) (acc : List UInt8) (hs : a.eval s = v) (hown : w.ownsRow base e 1 v acc.length (bc acc)) (nb : List UInt8) (ad : Addr) (m c : Nat) (hm : nb.length = m) (hx : a.eval x = .slice (some ad) m c)
    (hnews : ∀ j u, (bc nb)[j]? = some u → w.cell? (ad.add j) = some u) (hlen : acc.length + m ≤ 70368744177664) (hbase : base ≤ w.heap.size)
    (h : ∀ v' w', w'.ownsRow base e 1 v' (acc ++ nb).length (bc (acc ++ nb)) → Below base w w' → K (a.put o.dst v') w') :
    if Region.wanted o (yielded ops a.tmps) = true then Oper.wp P o a w K Q else E := by
  have hw : Region.wanted o (yielded ops a.tmps) = true := by simp [Region.wanted, hgd]
  rw [if_pos hw]
  refine wp_append_own _ s x t ho base e i (.int .u8 0) 1 1 ht hi hz hsize hby rfl (by decide) v acc.length (bc acc) hs hown ad m c (bc nb) hx (by rw [bc_length]; omega) hnews (bc_one _) (by unfold maxLen; omega) (by omega) hbase ?_
  intro v' w' h1 h2 _
  refine h v' w' ?_ ?_
  · rw [bc_append, List.length_append, hm]; exact h1
  · refine Below.grown (Below.refl _ _) h2 hbase ?_
    intro k hk
    exact (hown.lt k hk).1

/-- 's[i]' of a text. -/
theorem index_byt {P : Program} (t : TypeId) (h : P.underlying t = some .string) (s : ByteArray) (k : Nat) (a : Int) (ha : a = (k : Int)) (hk : k < s.size) (w : World) :
    (Instr.index t (.string s) (.int .i64 a)).run P w = .ok (.int .u8 (byt s k : Int)) w := by
  subst ha
  have hk' : (k : Int) < (s.size : Int) := by omega
  have hb := get_byt s
  simp [go_sem, h, hk', hb]
end Go.Proofs.Ytcahaimefgkmiaa
