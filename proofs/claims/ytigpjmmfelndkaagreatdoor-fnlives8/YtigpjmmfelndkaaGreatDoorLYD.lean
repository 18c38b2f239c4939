import Derived.Test.YtigpjmmfelndkaaGreatDoorLYB
namespace Go.Proofs.YtigpjmmfelndkaaGreatDoor
open Go.RowKit
theorem big5_yes (a : Option Addr) (len cap : Nat) (w : World) (h : ¬ len <= 1048576) : Calls Tryz.prog 5 #[.slice a len cap] w fun e w' => e = .returned (.bool true) /\ w = w' := by
 have q : decide ((1048576 : Int) < (len : Int)) = true := by simp; omega
 go_enter Tryz.func5, Tryz.ntmps5
 go_wp2
 go_ret
 exact ⟨rfl, rfl⟩
theorem zcR (a : Option Addr) (len cap : Nat) (w : World) (h : len <= 1048576) : Calls Tryz.prog 5 #[.slice a len cap] w fun e w' => e = .returned (.bool false) /\ w = w' := by
 have q : decide ((1048576 : Int) < (len : Int)) = false := decide_eq_false (by omega)
 go_enter Tryz.func5, Tryz.ntmps5
 go_wp2
 go_ret
 exact ⟨by first | rfl | (show Ending.returned (.bool (decide ((1048576 : Int) < (len : Int)))) = _; rw [q]), rfl⟩
theorem zaQ (a : Option Addr) (len cap : Nat) (w : World) (h : ¬ len <= 1048576) : Calls Tryz.prog 5 #[.slice a len cap] w fun e w' => e = .returned (.bool true) /\ w = w' := by
 have q : decide ((1048576 : Int) < (len : Int)) = true := decide_eq_true (by omega)
 go_enter Tryz.func5, Tryz.ntmps5
 go_wp2
 go_ret
 exact ⟨by first | rfl | (show Ending.returned (.bool (decide ((1048576 : Int) < (len : Int)))) = _; rw [q]), rfl⟩
theorem qsX {m : Int} (h0 : 0 <= m) (h : m <= 24) : OkQ [] m := by
 refine ⟨h0, h, h0, ?_, List.nodup_nil⟩
 intro s hs
 cases hs
theorem InN.new {n : Nat} (h2 : 2 <= n) (hn : n <= 24) : InN (qsY n) := by
 have hs := qkM h2
 refine ⟨⟨OkA.new n (by omega) hn, OkN.new (by have := qsE n; unfold qwN at this; omega), fun k hk => by simp [qaD, qsY] at hk, fun k x hk he => ?_, fun j hj hu => ?_⟩, by rw [show (qsY n).sl = qiO n n from rfl, qaG]; exact h2, rfl, rfl, ?_, ?_, ?_, ?_, ?_, ?_, ?_, ?_, ?_, ?_⟩
 ·obtain ⟨c, hc, e, _⟩ := he
  rcases hc with hc | hc
  ·have := List.eq_of_mem_replicate hc
   rw [this] at e
   exact absurd (by rw [<- e]; exact by simp [nC]) hk
  ·cases hc
 ·have e : (qsY n).sl[j] = ⟨0, false, ⟨#[]⟩, ⟨#[]⟩, if j + 1 = n then -1 else (j : Int) + 1⟩ := qhE n n j hj
  rw [e] at hu
  cases hu
 ·rw [show (qsY n).sl = qiO n n from rfl, qaG]; exact List.length_replicate
 ·exact qsX (m := (qdD n : Int)) (by omega) (by omega)
 ·exact qsX (m := (qeF n : Int)) (by omega) (by omega)
 ·exact qsX (m := (qdO n : Int)) (by omega) (by omega)
 ·rw [show (qsY n).sl = qiO n n from rfl, qaG]; rfl
 ·rw [show (qsY n).sl = qiO n n from rfl, qaG]; rfl
 ·rw [show (qsY n).sl = qiO n n from rfl, qaG]; rfl
 ·show OkK (List.replicate 48 0) 0
  exact ⟨List.length_replicate, by decide, by decide, fun i hi => by rw [List.getElem_replicate]; decide⟩
 ·show okD 0 = true
  decide
 ·exact List.nodup_nil
end Go.Proofs.YtigpjmmfelndkaaGreatDoor
