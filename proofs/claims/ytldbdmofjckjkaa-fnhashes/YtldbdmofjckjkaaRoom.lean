/- A room in memory: its block, its links; the contracts of the smallest functions. -/
import Derived.Test.YtldbdmofjckjkaaArenaT
import Derived.Deep.WholeRow
namespace Go.Proofs.Ytldbdmofjckjkaa
open Go.RowKit

/-- The first place of a chain. -/
def hdI : List Nat → Int
  | [] => -1
  | k :: _ => (k : Int)
/-- A block of cells that nobody froze. -/
def Blk (w : World) (r : Nat) (t : TypeId) (cs : List Value) : Prop := w.heap[r]? = some (.cells cs.toArray t (0, 0))
theorem Blk.lt {w : World} {r : Nat} {t : TypeId} {cs : List Value} (h : Blk w r t cs) : r < w.heap.size := (Array.getElem?_eq_some_iff.1 h).1
theorem Blk.cell {w : World} {r : Nat} {t : TypeId} {cs : List Value} (h : Blk w r t cs) (j : Nat) : w.cell? ⟨r, j, none⟩ = cs[j]? := by
  rw [cell_of_row w r j _ _ _ h]; simp
theorem Blk.froz {w : World} {r : Nat} {t : TypeId} {cs : List Value} (h : Blk w r t cs) (j : Nat) : w.frozen? ⟨r, j, none⟩ = false := by
  have h' : w.heap[r]? = some (.cells cs.toArray t (0, 0)) := h
  simp [World.frozen?, h']
theorem Blk.set {w : World} {r : Nat} {t : TypeId} {cs : List Value} (h : Blk w r t cs) (j : Nat) (v : Value) : Blk (w.setCell ⟨r, j, none⟩ v) r t (cs.set j v) := by
  have h' : w.heap[r]? = some (.cells cs.toArray t (0, 0)) := h
  unfold Blk
  rw [setCell_eq_setRow w r j _ _ _ v h', setRow_heap w r _ _ _ _ h']
  simp
theorem Blk.below {w w' : World} {r B : Nat} {t : TypeId} {cs : List Value} (h : Blk w r t cs) (hb : Below B w w') (hr : r < B) : Blk w' r t cs := (hb.block r hr).trans h
theorem Blk.far {w : World} {r : Nat} {t : TypeId} {cs : List Value} (h : Blk w r t cs) (a : Addr) (v : Value) (hr : r ≠ a.block) : Blk (w.setCell a v) r t cs := (Below.heap_setCell w a v r hr).trans h
theorem Blk.new (w : World) (t : TypeId) (cs : Array Value) : Blk (w.alloc (.cells cs t)) w.heap.size t cs.toList := by
  unfold Blk
  rw [heap_alloc_last, Array.toArray_toList]
theorem Blk.more {w : World} {r : Nat} {t : TypeId} {cs : List Value} (h : Blk w r t cs) (o : Obj) : Blk (w.alloc o) r t cs := (Below.heap_alloc w o r h.lt).trans h

/-- Links from a pointer on: each has a place; all lie behind block r. -/
def Lnk (w : World) (r : Nat) : Option Addr → List Nat → Prop
  | p, [] => p = none
  | p, k :: V => ∃ b q, p = some ⟨b, 0, none⟩ ∧ r < b ∧ b < w.heap.size ∧ w.cell? ⟨b, 0, none⟩ = some (.int .i64 (k : Int)) ∧ w.cell? ⟨b, 1, none⟩ = some (.pointer q) ∧ Lnk w r q V
theorem Lnk.keep {w w' : World} {r : Nat} (hb : ∀ k, r < k → k < w.heap.size → w'.heap[k]? = w.heap[k]?) (hs : w.heap.size ≤ w'.heap.size) : ∀ {V : List Nat} {p : Option Addr}, Lnk w r p V → Lnk w' r p V
  | [], _, h => h
  | k :: V, p, h => by
    obtain ⟨b, q, hp, h1, h2, h3, h4, h5⟩ := h
    exact ⟨b, q, hp, h1, Nat.lt_of_lt_of_le h2 hs, (World.cell?_of_block (w := w) (hb b h1 h2)).trans h3, (World.cell?_of_block (w := w) (hb b h1 h2)).trans h4, Lnk.keep hb hs h5⟩
theorem Lnk.below {w w' : World} {r : Nat} {V : List Nat} {p : Option Addr} (h : Lnk w r p V) (hb : Below w.heap.size w w') : Lnk w' r p V := h.keep (fun k _ hk => hb.block k hk) hb.size
theorem Lnk.set {w : World} {r : Nat} {V : List Nat} {p : Option Addr} (h : Lnk w r p V) (j : Nat) (v : Value) : Lnk (w.setCell ⟨r, j, none⟩ v) r p V :=
  h.keep (fun k hk _ => Below.heap_setCell w ⟨r, j, none⟩ v k (Nat.ne_of_gt hk)) (by simp [World.setCell])

theorem conv_again {P : Program} (w : World) (src dst e : TypeId) (s : ByteArray) (hs : P.underlying src = some .string) (hd : P.underlying dst = some (.slice e)) (he : P.underlying e = some (.int .u8)) :
    ∃ v w1, (convert src dst (.string s)).run P w = .ok v w1 ∧ (convert dst src v).run P w1 = .ok (.string s) w1 ∧ Below w.heap.size w w1 := by
  refine ⟨_, _, run_bytes_of_string w src dst e s hs hd he, ?_, (Below.refl _ _).drew.alloc (Nat.le_refl _) _⟩
  have hl : s.size = s.data.toList.length := by simp
  rw [hl, run_convert_bytes_back _ dst src e ⟨w.heap.size, 0, none⟩ _ s.data.toList hd he hs]
  intro j hj
  have hj' : j < s.data.size := by simpa using hj
  rw [Addr.add_lit, Nat.zero_add]
  have := World.cell?_alloc_mark w.drew (bytesRow s (grownCap w s.size 0 e)) e ((bytesRow s (grownCap w s.size 0 e)).size, (bytesRow s (grownCap w s.size 0 e)).size + 1) j
  rw [bytesRow_at s _ j hj'] at this
  rw [← hl]
  simpa using this

theorem newT_any (s : ByteArray) (w : World) : Calls Try.prog 53 #[.string s] w fun e w' => e = .returned (.string s) ∧ Below w.heap.size w w' := by
  obtain ⟨v, w1, r1, r2, hb⟩ := conv_again (P := Try.prog) w 9 22 5 s Try.underlying9 Try.underlying22 Try.underlying5
  go_enter Try.func53, Try.ntmps53
  go_wp2
  go_ret
  exact ⟨rfl, hb⟩

/-- A key and a value that a slot may have. -/
def fits (k v : ByteArray) : Bool := decide (1 ≤ k.size) && decide (k.size ≤ 12) && decide (v.size ≤ 20)
theorem fits_iff (k v : ByteArray) : fits k v = true ↔ 1 ≤ k.size ∧ k.size ≤ 12 ∧ v.size ≤ 20 := by simp [fits, and_assoc]

end Go.Proofs.Ytldbdmofjckjkaa
