/- Drawn numbers: whatever bytes are drawn from. -/
import Derived.Test.YtejjheoimafeoaaDrawN
import Derived.Test.YtejjheoimafeoaaSk
import Derived.Test.YtejjheoimafeoaaGenB
namespace Go.Proofs.Ytejjheoimafeoaa
open Go.RowKit
set_option linter.unusedVariables false

def num9 : List Int := [0, -1, 1, 9223372036854775807, -9223372036854775808]
theorem num9_at (j : Nat) (h : j < 5) : (#[Value.int .i64 0, .int .i64 (-1), .int .i64 1, .int .i64 9223372036854775807, .int .i64 (-9223372036854775808)] : Array Value)[j]? = some (.int .i64 (num9.getD j 0)) := match j, h with
  | 0, _ => rfl
  | 1, _ => rfl
  | 2, _ => rfl
  | 3, _ => rfl
  | 4, _ => rfl

set_option maxHeartbeats 400000 in
theorem number9_any {B : Nat} {w : World} {a : Option Addr} {len cap g : Nat} (h : Drw B w a len cap g) :
    Calls Try.prog 20 #[.pointer (some ⟨g, 0, none⟩)] w fun e w' => ∃ n : Int, e = .returned (.int .i64 n) ∧ Drw B w' a len cap g ∧ w.grownBy w' (some g) := by
  go_enter Try.func20, Try.ntmps20
  go_wp2_with fail
  refine (once_any h 6 (by omega)).mono ?_
  rintro e w1 ⟨x, rfl, h1, hb1⟩
  cases x
  · go_wp2_with (go_at_call 19; refine (below_any h1 1000000000 (by omega)).mono ?_; rintro e w2 ⟨y, rfl, _, _, h2, hb2⟩)
    go_ret
    exact ⟨_, rfl, h2, hb1.trans hb2⟩
  · go_wp2_with fail
    have hlt := h1.lt
    refine (pickInt_any (h1.later ((Below.refl _ _).alloc (Nat.le_refl _) _)) w1.heap.size 5 5 (by omega) (by omega) (by omega) (fun j => num9.getD j 0) (fun j hj => ?_) (by rw [World.size_alloc]; omega)).mono ?_
    · rw [World.cell?_alloc_at _ _ _ _ rfl]
      exact num9_at j hj
    · rintro e w2 ⟨j, rfl, h2, hb2⟩
      generalize num9.getD j 0 = z
      go_wp2
      go_ret
      exact ⟨_, rfl, h2, hb1.trans ((World.grownBy_alloc w1 _ _).trans hb2)⟩

set_option maxRecDepth 100000 in
set_option maxHeartbeats 2000000 in
theorem drawNumbers_any (w : World) (a : Option Addr) (len cap : Nat) (hc : Code w.heap.size w a len) :
    Calls Try.prog 8 #[.slice a len cap] w fun e w' => ∃ (ws : List Int) (wo : Option Addr) (c : Nat), e = .returned (.slice wo ws.length c) ∧ ws.length ≤ 19 ∧ RdZ w' wo ws ∧ Below w.heap.size w w' := by
  obtain ⟨i0, hi, hz0, hz1, hz2⟩ := info_parts Try.infoZ
  go_enter Try.func8, Try.ntmps8
  go_wp2_with fail
  refine (new_any w a len cap hc).mono ?_
  rintro e w2 ⟨g, rfl, h2, hb2⟩
  have hgl := h2.lt
  have hba := h2.base
  have hBg := h2.cur.1
  have H := hide1 h2
  have B2 := hide1 hb2
  clear h2 hc hb2
  go_wp2
  go_loopw [4, 5] (fun v iv wr => ∃ (i : Nat) (acc : List Int), i ≤ 19 ∧ iv = .int .i64 (i : Int) ∧ Hid (acc.length = i) ∧ acc.length ≤ 19 ∧ wr.ownsRow w2.heap.size 3 1 v acc.length (iz acc) ∧ Hid (Drw w.heap.size wr a len cap g) ∧ Hid (w2.grownBy wr (some g))) (fun _ iv _ => 20 - (intOf iv).toNat)
  case atStart => exact ⟨0, [], by omega, rfl, rfl, by simp, owns_empty w2 _, hide1 (H.out.later ((Below.refl _ _).alloc (Nat.le_refl _) _)), World.grownBy_alloc w2 _ _⟩
  case round =>
    obtain ⟨i, acc, hin, rfl, hl, hle, hown, hD, hgr⟩ := hrel
    have hbs := hgr.out.size
    have HO := hide1 hown
    clear hown
    go_wp2_with fail
    refine (below_any hD.out 20 (by omega)).mono ?_
    rintro e w3 ⟨x, rfl, hx, _, hD1, hb1⟩
    have hx30 : x < 20 := by have := hx (by omega); omega
    have hown1 := hide1 (gown hb1 HO.out (fun k hk e => by have := (HO.out.lt k hk).1; injection e with e; omega))
    have hg1 := hide1 (gtrans hgr.out hb1)
    have D1 := hide1 hD1
    clear hD1 hx hb1 HO hD hgr
    by_cases hlt : i < x
    · have k1 : decide ((i : Int) < (x : Int)) = true := by simp; omega
      have hlt2 : acc.length < 19 := by have := hl.out; omega
      have CK := hide1 (number9_any D1.out)
      go_wp2_with fail
      refine CK.out.mono ?_
      rintro e w4 ⟨z, rfl, hD4, hb4⟩
      have hown4 : w4.ownsRow w2.heap.size 3 1 u4 acc.length (iz acc) := gown hb4 hown1.out (fun k hk e => by have := (hown1.out.lt k hk).1; injection e with e; omega)
      have hg4 := hide1 (gtrans hg1.out hb4)
      have hs4 : w2.heap.size ≤ w4.heap.size := hg4.out.size
      have D4 := hide1 hD4
      clear hD4 hb4 CK
      go_wp2_with (at_builtin; (refine wpList_push1 rfl _ _ 24 rfl w2.heap.size 3 i0 (.int .i64 0) 8 Try.underlying24 hi hz0 hz1 hz2 rfl (by decide) _ acc.length (iz acc) rfl hown4 _ rfl rfl (by omega) hs4 ?_; intro v' w5 hown' hb'))
      go_roundw
      case rel =>
        refine ⟨i + 1, acc ++ [z], by omega, by go_num, ?_, by simp; omega, ?_, hide1 (D4.out.keep hb' (by omega) hgl), ?_⟩
        · show (acc ++ [z]).length = i + 1; rw [List.length_append, hl.out]; rfl
        · rw [iz_append, List.length_append]; exact hown'
        · refine ⟨hb'.os.trans hg4.out.os, hb'.tape.trans hg4.out.tape, hb'.output.trans hg4.out.output, Nat.le_trans hg4.out.size hb'.size, fun k hk hne => ?_⟩
          rw [hb'.block k hk, hg4.out.block k hk hne]
      case measure => simp [intOf]; omega
    · have k1 : decide ((i : Int) < (x : Int)) = false := by simp; omega
      obtain ⟨wo, c, rfl⟩ := own_slice hown1.out
      go_wp2
      go_ret
      exact ⟨acc, wo, c, rfl, hle, rdZ_of_own hown1.out, B2.out.trans (gbelow hg1.out (fun k hk => by injection hk with e; omega) B2.out.size)⟩
end Go.Proofs.Ytejjheoimafeoaa
