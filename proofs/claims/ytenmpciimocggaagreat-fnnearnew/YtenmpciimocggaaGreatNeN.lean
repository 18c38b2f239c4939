/- Near entries as data: how many keys each queue may have, how many cells. -/
import Derived.Test.YtenmpciimocggaaGreatXB
import Derived.Test.YtenmpciimocggaaGreatXC
namespace Go.Proofs.YtenmpciimocggaaGreat
open Go.RowKit

/-- Near entries as data. -/
structure Nr where
  sl : List Sl
  fr : Int
  ce : List Ce
  od : List Ce
  mv : Int
  w : List ByteArray
  wm : Int
  t : List ByteArray
  tm : Int
  s : List ByteArray
  sm : Int
  sk : List Int
  ad : Int
  dr : Int
def keysN (N : Nr) : List ByteArray := N.w ++ N.t ++ N.s
def mostW (n : Nat) : Nat := if n / 4 < 1 then 1 else n / 4
def mostS (n : Nat) : Nat := (n - mostW n) / 2
def mostT (n : Nat) : Nat := n - mostW n - mostS n
theorem most_sum {n : Nat} (h : 2 ≤ n) : mostW n + mostT n + mostS n = n ∧ 1 ≤ mostW n ∧ 1 ≤ mostT n := by
  unfold mostT mostS mostW
  split <;> omega
def cellsN (n : Nat) : Nat := if n < 2 then 4 else if n < 4 then 8 else if n < 8 then 16 else if n < 16 then 32 else 64
theorem cells_more {n : Nat} (h : n ≤ 24) : 2 * n + 1 ≤ cellsN n := by
  unfold cellsN
  split
  · omega
  · split
    · omega
    · split
      · omega
      · split <;> omega
end Go.Proofs.YtenmpciimocggaaGreat
