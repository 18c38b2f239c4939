/- Drawn councils: a number of voices, of tries, and right events, as the statements draw them. -/
import Derived.Test.YtgehdgmllilmgaaCoD
namespace Go.Proofs.Ytgehdgmllilmgaa
open Go.RowKit
set_option linter.unusedVariables false

set_option maxRecDepth 100000 in
set_option maxHeartbeats 1000000 in
theorem drawCo_any (w : World) (a : Option Addr) (len cap : Nat) (hlen : len ≤ 1048576) (hc : Code w.heap.size w a len) :
    Calls Try.prog 11 #[.slice a len cap] w fun e w' => ∃ (v t : Nat) (es : List Hp) (eb : Option Addr) (ec : Nat), e = .returned (.tuple #[.int .i64 (v : Int), .int .i64 (t : Int), .slice eb es.length ec]) ∧ (1 ≤ v ∧ v ≤ 5) ∧ (1 ≤ t ∧ t ≤ 3) ∧ es.length ≤ 79 ∧ (∀ e ∈ es, okHp t e) ∧ RdG hpC 4 w' eb es ∧ Below w.heap.size w w' := by
  go_enter Try.func11, Try.ntmps11
  go_wp2_with fail
  refine (new_any w a len cap hc).mono ?_
  rintro e w1 ⟨g, rfl, h1, hb1⟩
  have hBg := h1.cur.1
  have h1b := h1.base
  have B1 := hide1 hb1
  go_wp2_with fail
  refine (drawD_any cap hlen h1).mono ?_
  rintro e w2 ⟨v, t, es, eb, ec, rfl, hv, ht, hes, hok, hR, h2, hg2⟩
  have HO := hide1 hok
  have HR := hide1 hR
  have HV := hide1 (And.intro hv ht)
  have B2 := hide1 (hb1.trans (grow_below hg2 hBg h1b))
  have HL := hide1 hes
  clear hok hR hv ht hes hg2 h2 h1 hb1
  obtain ⟨el, hel⟩ : ∃ n, es.length = n := ⟨_, rfl⟩
  have HE := hide1 hel
  rw [hel]
  clear hel
  have FD := hide1 (And.intro (Blk.new w2 71 #[.int .i64 (v : Int), .int .i64 (t : Int), .slice eb el ec]) ((Below.refl w2.heap.size w2).alloc (Nat.le_refl _) (.cells #[.int .i64 (v : Int), .int .i64 (t : Int), .slice eb el ec] 71)))
  go_upto_region 2 with fail
  generalize (w2.alloc (.cells #[.int .i64 (v : Int), .int .i64 (t : Int), .slice eb el ec] 71)) = w3 at FD ⊢
  obtain ⟨G, hG⟩ : ∃ G, G = w2.heap.size := ⟨_, rfl⟩
  have K3 := hide1 FD.out.1
  rw [← hG] at K3 ⊢
  have y0 : w3.cell? ⟨G, 0, none⟩ = some (.int .i64 (v : Int)) := K3.out.cell 0
  have y1 : w3.cell? ⟨G, 1, none⟩ = some (.int .i64 (t : Int)) := K3.out.cell 1
  have y2 : w3.cell? ⟨G, 2, none⟩ = some (.slice eb el ec) := K3.out.cell 2
  clear hG
  go_quiet (fail)
  go_wp2
  go_returns
  have hB : ∀ q, Below w2.heap.size w2 (w3.drewN q) := fun q => below_drewN FD.out.2 q
  exact ⟨v, t, es, eb, ec, by rw [HE.out]; rfl, HV.out.1, HV.out.2, HL.out, HO.out, HR.out.later (hB _), B2.out.trans ((hB _).mono B2.out.size)⟩
end Go.Proofs.Ytgehdgmllilmgaa
