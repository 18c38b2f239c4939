/- The program's Touch, Drop and Push. -/
import Derived.Test.YtenmpciimocggaaGreatXQI
namespace Go.Proofs.YtenmpciimocggaaGreat
open Go.RowKit

theorem resQ3 {P : Program} {fn : Func} {p u v : Tmp} {ty : TypeId} (h : fn.results = #[.cell p ty, .tmp u, .tmp v]) (tmps : Array Value) (w : World) (g : Nat) (t : TypeId) (cs : Array Value) (fr : Nat × Nat) (d : TypeDesc)
    (hp : tmps.getD p undef = .pointer (some ⟨g, 0, none⟩)) (hg : w.heap[g]? = some (.cells cs t fr))
    (hu : P.underlying ty = some d) (hd : (match d with | .struct _ | .array _ _ => true | _ => false) = true) (hi : (P.info? ty).map (·.size) = some cs.size) :
    (results fn tmps).run P w = .ok (.tuple #[.agg cs, tmps.getD u undef, tmps.getD v undef]) w := by
  have hp' : tmps[p]?.getD undef = .pointer (some ⟨g, 0, none⟩) := by simpa using hp
  simp [results, h, hp', asAddr, run_loadVar_row w g t ty cs fr d hg hu hd hi]
theorem resQ2 {P : Program} {fn : Func} {p u : Tmp} {ty : TypeId} (h : fn.results = #[.cell p ty, .tmp u]) (tmps : Array Value) (w : World) (g : Nat) (t : TypeId) (cs : Array Value) (fr : Nat × Nat) (d : TypeDesc)
    (hp : tmps.getD p undef = .pointer (some ⟨g, 0, none⟩)) (hg : w.heap[g]? = some (.cells cs t fr))
    (hu : P.underlying ty = some d) (hd : (match d with | .struct _ | .array _ _ => true | _ => false) = true) (hi : (P.info? ty).map (·.size) = some cs.size) :
    (results fn tmps).run P w = .ok (.tuple #[.agg cs, tmps.getD u undef]) w := by
  have hp' : tmps[p]?.getD undef = .pointer (some ⟨g, 0, none⟩) := by simpa using hp
  simp [results, h, hp', asAddr, run_loadVar_row w g t ty cs fr d hg hu hd hi]
theorem MadeQ.no {w w1 : World} {r : Nat} (hB : Below w.heap.size w w1) (hr : w.heap.size ≤ r) (x y : Value) :
    MadeQ w ((w1.setCell ⟨r, 0, none⟩ x).setCell ⟨r, 1, none⟩ y) (.agg #[.int .i64 0, .slice none 0 0]) ([], 0) :=
  ⟨none, 0, rfl, World.ownsRow_nil _ _ _ _, (hB.setCell (p := ⟨r, 0, none⟩) hr _).setCell (p := ⟨r, 1, none⟩) hr _⟩
theorem MadeQ.yes {w w4 w5 : World} {r c : Nat} {b : Option Addr} {L : List ByteArray} {M : Int} (hB : Below w.heap.size w w4) (hr : w.heap.size ≤ r) (hr4 : r < w4.heap.size) (o1 : OwnQ w5 w4.heap.size b c L) (hb : Below w4.heap.size w4 w5) (x y : Value) :
    MadeQ w ((w5.setCell ⟨r, 0, none⟩ x).setCell ⟨r, 1, none⟩ y) (.agg #[.int .i64 M, .slice b L.length c]) (L, M) := by
  refine ⟨b, c, rfl, own_base (own_far (own_far o1 _ _ ?_) _ _ ?_) hB.size, ((hB.trans (hb.mono hB.size)).setCell (p := ⟨r, 0, none⟩) hr _).setCell (p := ⟨r, 1, none⟩) hr _⟩
  all_goals
    intro k hk
    have := (o1.lt k hk).1
    dsimp only
    omega

end Go.Proofs.YtenmpciimocggaaGreat
namespace Go.Proofs.YtenmpciimocggaaGreat
open Go.RowKit

theorem psh_keys {l : List ByteArray} {m : Int} {k : ByteArray} (h : PshQ l m k) : k :: wthQ l k = k :: l := by rw [wthQ_none h.2.2.1]

end Go.Proofs.YtenmpciimocggaaGreat
