import Derived.Test.YtigpjmmfelndkaaGreatDoorLXP
import Derived.Test.YtigpjmmfelndkaaGreatDoorLXSM
import Derived.Test.YtigpjmmfelndkaaGreatDoorLXTD
namespace Go.Proofs.YtigpjmmfelndkaaGreatDoor
open Go.RowKit
structure NA where
 a : Option Addr
 ac : Nat
 c : Option Addr
 cc : Nat
 o : Option Addr
 oc : Nat
 w : Option Addr
 wc : Nat
 t : Option Addr
 tc : Nat
 s : Option Addr
 sc : Nat
 k : Option Addr
 kc : Nat
abbrev nA (A : NA) (N : Nr) : Array Value := #[.slice A.a N.sl.length A.ac, .int .i64 N.fr, .slice A.c N.ce.length A.cc, .slice A.o N.od.length A.oc, .int .i64 N.mv, .int .i64 N.wm, .slice A.w N.w.length A.wc, .int .i64 N.tm, .slice A.t N.t.length A.tc, .int .i64 N.sm, .slice A.s N.s.length A.sc, .slice A.k N.sk.length A.kc, .int .i64 N.ad, .int .i64 N.dr]
abbrev nZ : Array Value := #[.slice none 0 0, .int .i64 0, .slice none 0 0, .slice none 0 0, .int .i64 0, .int .i64 0, .slice none 0 0, .int .i64 0, .slice none 0 0, .int .i64 0, .slice none 0 0, .slice none 0 0, .int .i64 0, .int .i64 0]
def neC (A : NA) (N : Nr) : List Value := [.slice A.a N.sl.length A.ac, .int .i64 N.fr, .slice A.c N.ce.length A.cc, .slice A.o N.od.length A.oc, .int .i64 N.mv, .int .i64 N.wm, .slice A.w N.w.length A.wc, .int .i64 N.tm, .slice A.t N.t.length A.tc, .int .i64 N.sm, .slice A.s N.s.length A.sc, .slice A.k N.sk.length A.kc, .int .i64 N.ad, .int .i64 N.dr]
def neV (A : NA) (N : Nr) : Value := .agg #[.slice A.a N.sl.length A.ac, .int .i64 N.fr, .slice A.c N.ce.length A.cc, .slice A.o N.od.length A.oc, .int .i64 N.mv, .int .i64 N.wm, .slice A.w N.w.length A.wc, .int .i64 N.tm, .slice A.t N.t.length A.tc, .int .i64 N.sm, .slice A.s N.s.length A.sc, .slice A.k N.sk.length A.kc, .int .i64 N.ad, .int .i64 N.dr]
structure RdN (w : World) (A : NA) (N : Nr) : Prop where
 fa : RdA w A.a N.sl
 fc : RdC w A.c N.ce
 fo : RdC w A.o N.od
 fw : RdQ w A.w N.w
 ft : RdQ w A.t N.t
 fs : RdQ w A.s N.s
 fk : RdZ w A.k N.sk
theorem RdN.later {w w' : World} {A : NA} {N : Nr} (h : RdN w A N) (hb : Below w.heap.size w w') : RdN w' A N := ⟨h.fa.later hb, h.fc.later hb, h.fo.later hb, h.fw.later hb, h.ft.later hb, h.fs.later hb, h.fk.later hb⟩
structure SmN (N : Nr) : Prop where
 fa : N.sl.length <= 1048576
 fc : N.ce.length <= 1048576
 fo : N.od.length <= 1048576
 fw : N.w.length <= 1048576
 ft : N.t.length <= 1048576
 fs : N.s.length <= 1048576
 fk : N.sk.length <= 1048576
def vlN (A : NA) (N : Nr) : List Value := [.slice A.a N.sl.length A.ac, .slice A.c N.ce.length A.cc, .slice A.o N.od.length A.oc, .slice A.w N.w.length A.wc, .slice A.t N.t.length A.tc, .slice A.s N.s.length A.sc, .slice A.k N.sk.length A.kc]
structure OwnN (w : World) (B : Nat) (A : NA) (N : Nr) : Prop where
 fa : w.ownsRow B 99 5 (.slice A.a N.sl.length A.ac) N.sl.length (sls N.sl)
 fc : w.ownsRow B 132 2 (.slice A.c N.ce.length A.cc) N.ce.length (ces N.ce)
 fo : w.ownsRow B 132 2 (.slice A.o N.od.length A.oc) N.od.length (ces N.od)
 fw : OwnQ w B A.w A.wc N.w
 ft : OwnQ w B A.t A.tc N.t
 fs : OwnQ w B A.s A.sc N.s
 fk : OwnK w B A.k A.kc N.sk
 ap : (vlN A N).Pairwise (fun u v => ∀ g, u.ownBlock = some g -> v.ownBlock ≠ some g)
theorem OwnN.rd {w : World} {B : Nat} {A : NA} {N : Nr} (h : OwnN w B A N) : RdN w A N := ⟨qmX h.fa, qcZ h.fc, qcZ h.fo, h.fw.rd, h.ft.rd, h.fs.rd, h.fk.rd⟩
theorem OwnN.later {w w' : World} {B : Nat} {A : NA} {N : Nr} (h : OwnN w B A N) (hb : Below w.heap.size w w') : OwnN w' B A N := ⟨qaE h.fa hb, qaE h.fc hb, qaE h.fo hb, h.fw.later hb, h.ft.later hb, h.fs.later hb, h.fk.later hb, h.ap⟩
theorem OwnN.base {w : World} {B B' : Nat} {A : NA} {N : Nr} (h : OwnN w B A N) (hB : B' <= B) : OwnN w B' A N := ⟨qaB h.fa hB, qaB h.fc hB, qaB h.fo hB, h.fw.base hB, h.ft.base hB, h.fs.base hB, h.fk.base hB, h.ap⟩
theorem OwnN.lt {w : World} {B : Nat} {A : NA} {N : Nr} (h : OwnN w B A N) : ∀ v ∈ vlN A N, ∀ g, v.ownBlock = some g -> B <= g /\ g < w.heap.size := by
 intro v hv g hg
 simp only [vlN, List.mem_cons, List.not_mem_nil, or_false] at hv
 rcases hv with rfl | rfl | rfl | rfl | rfl | rfl | rfl
 ·exact h.fa.lt g hg
 ·exact h.fc.lt g hg
 ·exact h.fo.lt g hg
 ·exact h.fw.lt g hg
 ·exact h.ft.lt g hg
 ·exact h.fs.lt g hg
 ·exact h.fk.lt g hg
theorem OwnN.far {w : World} {B : Nat} {A : NA} {N : Nr} (h : OwnN w B A N) (a : Addr) (u : Value) (hne : a.block < B) : OwnN (w.setCell a u) B A N := by
 have hb : ∀ v ∈ vlN A N, ∀ k, v.ownBlock = some k -> k ≠ a.block := fun v hv k hk e => by have := (h.lt v hv k hk).1; omega
 exact ⟨qaA h.fa _ _ (hb _ (by simp [vlN])), qaA h.fc _ _ (hb _ (by simp [vlN])), qaA h.fo _ _ (hb _ (by simp [vlN])), qaA h.fw _ _ (hb _ (by simp [vlN])), qaA h.ft _ _ (hb _ (by simp [vlN])), qaA h.fs _ _ (hb _ (by simp [vlN])), qaA h.fk _ _ (hb _ (by simp [vlN])), h.ap⟩
def ka (N : Nr) : Nat := 1 + 5 * N.sl.length
def kb (N : Nr) : Nat := ka N + 2 * N.ce.length
def kc (N : Nr) : Nat := kb N + 2 * N.od.length
end Go.Proofs.YtigpjmmfelndkaaGreatDoor
