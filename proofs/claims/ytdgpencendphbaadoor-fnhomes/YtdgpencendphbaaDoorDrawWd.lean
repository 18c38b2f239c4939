/- Drawn words. -/
import Derived.Test.YtdgpencendphbaaDoorDrawA
import Derived.Test.YtdgpencendphbaaDoorGenB
namespace Go.Proofs.YtdgpencendphbaaDoor
open Go.RowKit

theorem Tryd.infoStrW : (Tryd.prog.info? 9).map (fun i => (i.zero, i.size, i.bytes)) = some (some (.string ⟨#[]⟩), 1, 16) := by kernel_rfl
/-- Words in memory. -/
def Wds (w : World) (wo : Option Addr) (ws : List ByteArray) : Prop := ∀ j (h : j < ws.length), ∃ g, wo = some ⟨g, 0, none⟩ ∧ g < w.heap.size ∧ w.cell? ⟨g, j, none⟩ = some (.string ws[j])
theorem Wds.later {w w' : World} {wo : Option Addr} {ws : List ByteArray} (h : Wds w wo ws) (hb : Below w.heap.size w w') : Wds w' wo ws := by
  intro j hj
  obtain ⟨g, h1, h2, h3⟩ := h j hj
  exact ⟨g, h1, Nat.lt_of_lt_of_le h2 hb.size, (hb.cell (p := ⟨g, j, none⟩) h2).trans h3⟩
theorem wds_own {w : World} {base n ca : Nat} {lo : Option Addr} {ks : List ByteArray} (h : w.ownsRow base 9 1 (.slice lo n ca) n (sc ks)) : Wds w lo ks := by
  intro j hj
  have hn : ks.length = n := by have := h.1; simp only [sc, List.length_map] at this; omega
  rcases h.2 with ⟨hv, h0⟩ | ⟨g, cap, cur, hv, hb, hh, r⟩
  · omega
  · injection hv with h1 h2 h3
    subst h1
    refine ⟨g, rfl, (Array.getElem?_eq_some_iff.1 hh).1, ?_⟩
    rw [h.cellAt j (by omega)]
    unfold sc
    rw [List.getElem?_map, List.getElem?_eq_getElem hj]
    rfl

set_option maxRecDepth 100000 in
set_option maxHeartbeats 2000000 in
theorem drawWords_any (w : World) (a : Option Addr) (len cap : Nat) (hc : Code w.heap.size w a len) :
    Calls Tryd.prog 14 #[.slice a len cap] w fun e w' => ∃ (ws : List ByteArray) (wo : Option Addr) (c : Nat), e = .returned (.slice wo ws.length c) ∧ ws.length ≤ 29 ∧ (∀ z ∈ ws, z.size ≤ 12) ∧ Wds w' wo ws ∧ Below w.heap.size w w' := by
  obtain ⟨i0, hi, hz0, hz1, hz2⟩ := info_parts Tryd.infoStrW
  go_enter Tryd.func14, Tryd.ntmps14
  go_wp2_with fail
  refine (new_any w a len cap hc).mono ?_
  rintro e w2 ⟨g, rfl, h2, hb2⟩
  have hgl := h2.lt
  have hba := h2.base
  have hBg := h2.cur.1
  have H := hide1 h2
  have B2 := hide1 hb2
  clear h2 hc hb2
  go_wp2
  go_loopw [4, 5] (fun v iv wr => ∃ (i : Nat) (acc : List ByteArray), i ≤ 29 ∧ iv = .int .i64 (i : Int) ∧ Hid (acc.length = i) ∧ acc.length ≤ 29 ∧ wr.ownsRow w2.heap.size 9 1 v acc.length (sc acc) ∧ Hid (Drw w.heap.size wr a len cap g) ∧ Hid (w2.grownBy wr (some g)) ∧ Hid (∀ y ∈ acc, y.size ≤ 12)) (fun _ iv _ => 30 - (intOf iv).toNat)
  case atStart => exact ⟨0, [], by omega, rfl, rfl, by simp, owns_empty w2 _, hide1 (H.out.later ((Below.refl _ _).alloc (Nat.le_refl _) _)), World.grownBy_alloc w2 _ _, fun y hy => by cases hy⟩
  case round =>
    obtain ⟨i, acc, hin, rfl, hl, hle, hown, hD, hgr, hall⟩ := hrel
    have hbs := hgr.out.size
    have HO := hide1 hown
    clear hown
    go_wp2_with fail
    refine (below_any hD.out 30 (by omega)).mono ?_
    rintro e w3 ⟨x, rfl, hx, _, hD1, hb1⟩
    have hx30 : x < 30 := by have := hx (by omega); omega
    have hown1 := hide1 (gown hb1 HO.out (fun k hk e => by have := (HO.out.lt k hk).1; injection e with e; omega))
    have hg1 := hide1 (gtrans hgr.out hb1)
    have D1 := hide1 hD1
    clear hD1 hx hb1 HO hD hgr
    by_cases hlt : i < x
    · have k1 : decide ((i : Int) < (x : Int)) = true := by simp; omega
      have hlt2 : acc.length < 29 := by have := hl.out; omega
      have CK := hide1 (key_any D1.out)
      go_wp2_with fail
      refine CK.out.mono ?_
      rintro e w4 ⟨z, rfl, _, hz12, hD4, hb4⟩
      have hown4 : w4.ownsRow w2.heap.size 9 1 u4 acc.length (sc acc) := gown hb4 hown1.out (fun k hk e => by have := (hown1.out.lt k hk).1; injection e with e; omega)
      have hg4 := hide1 (gtrans hg1.out hb4)
      have hs4 : w2.heap.size ≤ w4.heap.size := hg4.out.size
      have D4 := hide1 hD4
      clear hD4 hb4 CK
      go_wp2_with (at_builtin; (refine wpList_push1 rfl _ _ 34 rfl w2.heap.size 9 i0 (.string ⟨#[]⟩) 16 Tryd.underlying34 hi hz0 hz1 hz2 rfl (by decide) _ acc.length (sc acc) rfl hown4 _ rfl rfl (by omega) hs4 ?_; intro v' w5 hown' hb'))
      go_roundw
      case rel =>
        refine ⟨i + 1, acc ++ [z], by omega, by go_num, ?_, by simp; omega, ?_, hide1 (D4.out.keep hb' (by omega) hgl), ?_, ?_⟩
        · show (acc ++ [z]).length = i + 1; rw [List.length_append, hl.out]; rfl
        · rw [sc_append, List.length_append]; exact hown'
        · refine ⟨hb'.os.trans hg4.out.os, hb'.tape.trans hg4.out.tape, hb'.output.trans hg4.out.output, Nat.le_trans hg4.out.size hb'.size, fun k hk hne => ?_⟩
          rw [hb'.block k hk, hg4.out.block k hk hne]
        · intro y hy
          rcases List.mem_append.1 hy with h | h
          · exact hall.out y h
          · simp at h; rw [h]; exact hz12
      case measure => simp [intOf]; omega
    · have k1 : decide ((i : Int) < (x : Int)) = false := by simp; omega
      obtain ⟨wo, c, rfl⟩ := own_slice hown1.out
      go_wp2
      go_ret
      exact ⟨acc, wo, c, rfl, hle, hall.out, wds_own hown1.out, B2.out.trans (gbelow hg1.out (fun k hk => by injection hk with e; omega) B2.out.size)⟩
end Go.Proofs.YtdgpencendphbaaDoor
