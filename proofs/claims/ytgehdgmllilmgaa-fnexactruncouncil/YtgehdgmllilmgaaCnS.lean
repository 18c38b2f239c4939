/- Others put behind the notes (or what was chosen) of the variable's council, as a step. -/
import Derived.Test.YtgehdgmllilmgaaYO
namespace Go.Proofs.Ytgehdgmllilmgaa
open Go.RowKit
set_option linter.unusedVariables false

section
variable {base : Nat} {u W : World} {B : Nat} {A : CA} {c : Cn}
/-- What is there behind 'append(c.Notes, ..)', ahead of the store. -/
structure SayN (base : Nat) (u : World) (B : Nat) (A : CA) (c : Cn) (l2 : List Nt) (b' : Option Addr) (c' : Nat) (w' : World) : Prop where
  b : Blk w' B 32 (cnC A c)
  v : VaO base (w'.setCell ⟨B, 2, none⟩ (.slice b' (c.ns.length + l2.length) c')) B { A with na := b', nc := c' } { c with ns := c.ns ++ l2 }
  f : FrB A B u { A with na := b', nc := c' } (w'.setCell ⟨B, 2, none⟩ (.slice b' (c.ns.length + l2.length) c'))
theorem sayN_of (HV : VaO base u B A c) (hD : Below u.heap.size u W) {l2 : List Nt} {b' : Option Addr} {c' : Nat} {w' : World} (ho : w'.ownsRow base 111 6 (.slice b' (c.ns.length + l2.length) c') (c.ns.length + l2.length) (rowG ntC (c.ns ++ l2))) (hg : W.grownBy w' (Value.slice A.na c.ns.length A.nc).ownBlock) (hl : ∀ x, b' = some x → (Value.slice A.na c.ns.length A.nc).ownBlock = some x.block ∨ W.heap.size ≤ x.block) : SayN base u B A c l2 b' c' w' := by
  have HW := HV.kept hD
  have e1 : (c.ns ++ l2).length = c.ns.length + l2.length := List.length_append
  have P := HW.putN (ns := c.ns ++ l2) (a' := b') (c' := c') hg (by rw [e1]; exact ho) hl
  rw [e1] at P
  exact ⟨gblk hg HW.b (fun e => HV.nb (inN e)), P.1, ((FrB.refl _ _ _).below hD).trans P.2⟩
theorem step_sayN {ops : Array Oper} {o : Oper} {a : Act} {K : Act → World → Prop} {Q : Exit → Act → World → Prop} {D : Prop} (HV : VaO base u B A c) (hD : Below u.heap.size u W) (hgd : o.guard = none) (s x : Operand)
    (ho : o.op = .call { callee := .builtin .append, args := #[s, x], argTypes := #[29, 29] }) (hs : a.eval s = .slice A.na c.ns.length A.nc) (ao : Option Addr) (m cx : Nat) (l2 : List Nt) (hx : a.eval x = .slice ao m cx) (hm : l2.length = m) (hA : RdG ntC 6 W ao l2) (hlen : c.ns.length + m ≤ 1048576)
    (h : ∀ b' c' w', SayN base u B A c l2 b' c' w' → K (a.put o.dst (.slice b' (c.ns.length + m) c')) w') :
    if Region.wanted o (yielded ops a.tmps) = true then Oper.wp Try.prog o a W K Q else D :=
  step_appA encN rowN hgd s x ho base _ c.ns.length c.ns hs (HV.kept hD).o.n ao m cx l2 hx hm hA hlen (HV.kept hD).lb (fun b' c' w' h1 h2 h3 => h b' c' w' (sayN_of HV hD (by rw [hm]; exact h1) h2 h3))
theorem wpList_sayN {ops : Array Oper} {rest : List Oper} {o : Oper} {a : Act} {Q : Exit → Act → World → Prop} (HV : VaO base u B A c) (hD : Below u.heap.size u W) (hgd : o.guard = none) (s x : Operand)
    (ho : o.op = .call { callee := .builtin .append, args := #[s, x], argTypes := #[29, 29] }) (hs : a.eval s = .slice A.na c.ns.length A.nc) (ao : Option Addr) (m cx : Nat) (l2 : List Nt) (hx : a.eval x = .slice ao m cx) (hm : l2.length = m) (hA : RdG ntC 6 W ao l2) (hlen : c.ns.length + m ≤ 1048576)
    (h : ∀ b' c' w', SayN base u B A c l2 b' c' w' → wpList Try.prog ops Q rest (a.put o.dst (.slice b' (c.ns.length + m) c')) w') : wpList Try.prog ops Q (o :: rest) a W :=
  wpList_appA encN rowN hgd s x ho base _ c.ns.length c.ns hs (HV.kept hD).o.n ao m cx l2 hx hm hA hlen (HV.kept hD).lb (fun b' c' w' h1 h2 h3 => h b' c' w' (sayN_of HV hD (by rw [hm]; exact h1) h2 h3))
/-- What is there behind 'append(c.Chosen, ..)', ahead of the store. -/
structure SayC (base : Nat) (u : World) (B : Nat) (A : CA) (c : Cn) (l2 : List ByteArray) (b' : Option Addr) (c' : Nat) (w' : World) : Prop where
  b : Blk w' B 32 (cnC A c)
  v : VaO base (w'.setCell ⟨B, 3, none⟩ (.slice b' (c.ch.length + l2.length) c')) B { A with ca := b', cc := c' } { c with ch := c.ch ++ l2 }
  f : FrB A B u { A with ca := b', cc := c' } (w'.setCell ⟨B, 3, none⟩ (.slice b' (c.ch.length + l2.length) c'))
theorem wpList_sayC {ops : Array Oper} {rest : List Oper} {o : Oper} {a : Act} {Q : Exit → Act → World → Prop} (HV : VaO base u B A c) (hD : Below u.heap.size u W) (hgd : o.guard = none) (s x : Operand)
    (ho : o.op = .call { callee := .builtin .append, args := #[s, x], argTypes := #[30, 30] }) (hs : a.eval s = .slice A.ca c.ch.length A.cc) (ao : Option Addr) (m cx : Nat) (l2 : List ByteArray) (hx : a.eval x = .slice ao m cx) (hm : l2.length = m) (hA : RdG txE 1 W ao l2) (hlen : c.ch.length + m ≤ 1048576)
    (h : ∀ b' c' w', SayC base u B A c l2 b' c' w' → wpList Try.prog ops Q rest (a.put o.dst (.slice b' (c.ch.length + m) c')) w') : wpList Try.prog ops Q (o :: rest) a W :=
  wpList_appA encX rowX hgd s x ho base _ c.ch.length c.ch hs (HV.kept hD).o.c ao m cx l2 hx hm hA hlen (HV.kept hD).lb (fun b' c' w' h1 h2 h3 => h b' c' w' (by
    have HW := HV.kept hD
    have e1 : (c.ch ++ l2).length = c.ch.length + l2.length := List.length_append
    have P := HW.putC (ch := c.ch ++ l2) (a' := b') (c' := c') h2 (by rw [e1, hm]; exact h1) h3
    rw [e1] at P
    exact ⟨gblk h2 HW.b (fun e => HV.nb (inC e)), P.1, ((FrB.refl _ _ _).below hD).trans P.2⟩))
end
end Go.Proofs.Ytgehdgmllilmgaa
