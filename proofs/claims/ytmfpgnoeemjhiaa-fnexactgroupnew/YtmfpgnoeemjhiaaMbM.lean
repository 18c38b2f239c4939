/- Members, messages and what is said, in memory. -/
import Derived.Test.YtmfpgnoeemjhiaaMbP
import Derived.Test.YtmfpgnoeemjhiaaIntV
namespace Go.Proofs.Ytmfpgnoeemjhiaa
open Go.RowKit
set_option linter.unusedVariables false

/-- Rows of numbers as rows of elements of one cell. -/
def zC (x : Int) : List Value := [.int .i64 x]
theorem encZ : EncK zC 1 := ⟨fun _ => rfl, fun x u hu => by simp only [zC, List.mem_cons, List.not_mem_nil, or_false] at hu; rcases hu with rfl; rfl⟩
theorem row_z (l : List Int) : rowG zC l = iz l := by
  induction l with
  | nil => rfl
  | cons a l ih => show zC a ++ rowG zC l = _; rw [ih]; rfl
theorem RdZ.g {w : World} {a : Option Addr} {l : List Int} (h : RdZ w a l) : RdG zC 1 w a l := fun i hi => by
  obtain ⟨b, o, h1, h2, h3⟩ := h i hi
  refine ⟨b, o, h1, h2, fun j hj => ?_⟩
  obtain rfl : j = 0 := by omega
  rw [Nat.mul_one, Nat.add_zero, h3]
  rfl
theorem RdG.z {w : World} {a : Option Addr} {l : List Int} (h : RdG zC 1 w a l) : RdZ w a l := fun i hi => by
  obtain ⟨b, o, h1, h2, h3⟩ := h i hi
  refine ⟨b, o, h1, h2, ?_⟩
  have := h3 0 (by omega)
  rw [Nat.mul_one, Nat.add_zero] at this
  exact this
theorem rowZ_k : RowK Try.prog 48 3 1 := rowK_mk Try.underlying48 Try.infoZ rfl (by decide) (by decide)
/-- Where the three rows of a member lie. -/
structure MA where
  wa : Option Addr
  wc : Nat
  ia : Option Addr
  ic : Nat
  la : Option Addr
  lc : Nat
def mbV (m : Mb) (A : MA) : Value := .agg #[.int .i64 m.id, .int .i64 m.ep, .bool m.fe, .bool m.ba, .bool m.le, .bool m.se, .slice A.wa m.wa.length A.wc, .slice A.ia m.is.length A.ic, .int .i64 m.cn, .int .i64 m.tk.op, .int .i64 m.tk.cl, .int .i64 m.tk.nu, .string m.tk.it.k, .string m.tk.it.v, .int .i64 m.tk.it.n, .slice A.la m.tk.lf.length A.lc]
structure RdMb (w : World) (m : Mb) (A : MA) : Prop where
  wr : RdZ w A.wa m.wa
  ir : RdG imC 3 w A.ia m.is
  lr : RdZ w A.la m.tk.lf
theorem RdMb.later {w w' : World} {m : Mb} {A : MA} (h : RdMb w m A) (hb : Below w.heap.size w w') : RdMb w' m A := ⟨h.wr.later hb, h.ir.later hb, h.lr.later hb⟩
/-- How much a member may hold. -/
structure SzMb (m : Mb) : Prop where
  wl : m.wa.length ≤ 1048576
  il : m.is.length ≤ 1048576
  ll : m.tk.lf.length ≤ 1048576
def noMA : MA := ⟨none, 0, none, 0, none, 0⟩
theorem RdMb.zero (w : World) : RdMb w zeroMb noMA := ⟨fun i hi => by simp [zeroMb] at hi, fun i hi => by simp [zeroMb] at hi, fun i hi => by simp [zeroMb, zeroTk] at hi⟩
/-- A message in a row, and where its items lie. -/
structure Mv where
  m : Ms
  a : Option Addr
  c : Nat
def mvC (x : Mv) : List Value := [.int .i64 x.m.k, .int .i64 x.m.f, .int .i64 x.m.o, .int .i64 x.m.e, .int .i64 x.m.n, .slice x.a x.m.is.length x.c]
theorem encMv : EncK mvC 6 := ⟨fun _ => rfl, fun x u hu => by simp only [mvC, List.mem_cons, List.not_mem_nil, or_false] at hu; rcases hu with rfl | rfl | rfl | rfl | rfl | rfl <;> rfl⟩
theorem Try.infoMv : (Try.prog.info? 72).map (fun i => (i.zero, i.size, i.bytes)) = some (some (.agg #[.int .i64 0, .int .i64 0, .int .i64 0, .int .i64 0, .int .i64 0, .slice none 0 0]), 6, 64) := by kernel_rfl
theorem rowMv : RowK Try.prog 32 72 6 := rowK_mk Try.underlying32 Try.infoMv rfl (by decide) (by decide)
structure RdMs (w : World) (a : Option Addr) (L : List Mv) : Prop where
  r : RdG mvC 6 w a L
  i : ∀ x ∈ L, RdG imC 3 w x.a x.m.is
theorem RdMs.later {w w' : World} {a : Option Addr} {L : List Mv} (h : RdMs w a L) (hb : Below w.heap.size w w') : RdMs w' a L := ⟨h.r.later hb, fun x hx => (h.i x hx).later hb⟩
theorem RdMs.nil (w : World) (a : Option Addr) : RdMs w a [] := ⟨RdG.nil _ _, fun x hx => by simp at hx⟩
/-- What is said, in a row. -/
def sdC (x : Sd) : List Value := [.int .i64 x.cl, .int .i64 x.ep, .int .i64 x.nu, .string x.it.k, .string x.it.v, .int .i64 x.it.n]
theorem encSd : EncK sdC 6 := ⟨fun _ => rfl, fun x u hu => by simp only [sdC, List.mem_cons, List.not_mem_nil, or_false] at hu; rcases hu with rfl | rfl | rfl | rfl | rfl | rfl <;> rfl⟩
theorem Try.infoMb : (Try.prog.info? 54).map (fun i => (i.zero, i.size, i.bytes)) = some (some (mbV zeroMb noMA), 16, 168) := by kernel_rfl
end Go.Proofs.Ytmfpgnoeemjhiaa
