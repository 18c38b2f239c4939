/- Twelve drawn numbers below 10000: whatever bytes are drawn from. -/
import Derived.Test.YtdgpencendphbaaDoorDrawN
namespace Go.Proofs.YtdgpencendphbaaDoor
open Go.RowKit

theorem Tryd.infoIntP : (Tryd.prog.info? 3).map (fun i => (i.zero, i.size, i.bytes)) = some (some (.int .i64 0), 1, 8) := by kernel_rfl

/-- The cells of a row of numbers. -/
def icP (l : List Nat) : List Value := l.map fun n : Nat => Value.int .i64 (n : Int)
theorem icP_append (l m : List Nat) : icP (l ++ m) = icP l ++ icP m := by simp [icP]
theorem own_atP {w : World} {base n : Nat} {e : TypeId} {v : Value} {xs : List Value} (h : w.ownsRow base e 1 v n xs) (hn : 0 < n) : ∃ g cap, v = .slice (some ⟨g, 0, none⟩) n cap ∧ base ≤ g ∧ g < w.heap.size := by
  rcases h.2 with ⟨_, h0⟩ | ⟨g, cap, cur, hv, _⟩
  · omega
  · have := h.lt g (by rw [hv]; rfl)
    exact ⟨g, cap, hv, this.1, this.2⟩

set_option maxRecDepth 100000 in
set_option maxHeartbeats 1000000 in
theorem drawPl_any (w : World) (a : Option Addr) (len cap : Nat) (hc : Code w.heap.size w a len) :
    Calls Tryd.prog 18 #[.slice a len cap] w fun e w' => ∃ (xs : List Nat) (p c : Nat), xs.length = 12 ∧ (∀ y ∈ xs, y < 10000) ∧ e = .returned (.slice (some ⟨p, 0, none⟩) 12 c) ∧ w.heap.size ≤ p ∧ p < w'.heap.size ∧ (∀ j (h : j < xs.length), w'.cell? ⟨p, j, none⟩ = some (.int .i64 (xs[j] : Int))) ∧ Below w.heap.size w w' := by
  obtain ⟨i0, hi, hz0, hz1, hz2⟩ := info_parts Tryd.infoIntP
  go_enter Tryd.func18, Tryd.ntmps18
  go_wp2_with fail
  refine (new_any w a len cap hc).mono ?_
  rintro e w1 ⟨g, rfl, h1, hb1⟩
  have hBg := h1.cur.1
  go_wp2_with fail
  refine (byte_any h1).mono ?_
  rintro e w2 ⟨x, rfl, hx, h2, hb2⟩
  have hgl := h2.lt
  have hba := h2.base
  have hb12 := hide1 (hb1.trans (grow_below hb2 hBg h1.base))
  have H := hide1 h2
  clear h1 h2 hb1 hb2 hx hc
  go_wp2
  go_loopw [4, 5] (fun v iv wr => ∃ (i : Nat) (acc : List Nat), i ≤ 12 ∧ iv = .int .i64 (i : Int) ∧ Hid (acc.length = i) ∧ acc.length ≤ 12 ∧ wr.ownsRow w2.heap.size 3 1 v acc.length (icP acc) ∧ Hid (Drw w.heap.size wr a len cap g) ∧ w2.grownBy wr (some g) ∧ Hid (∀ y ∈ acc, y < 10000)) (fun _ iv _ => 12 - (intOf iv).toNat)
  case atStart => exact ⟨0, [], by omega, rfl, rfl, by simp, owns_empty w2 _, hide1 (H.out.later ((Below.refl _ _).alloc (Nat.le_refl _) _)), World.grownBy_alloc w2 _ _, fun y hy => by cases hy⟩
  case round =>
    obtain ⟨i, acc, hin, rfl, hl, hle, hown, hD, hgr, hall⟩ := hrel
    have hbs := hgr.size
    by_cases hlt : i < 12
    · have HO := hide1 hown
      have hlt2 : acc.length < 12 := by have := hl.out; omega
      clear hown
      go_wp2_with fail
      refine (below_any hD.out 10000 (by omega)).mono ?_
      rintro e w3 ⟨x, rfl, hx, _, hD1, hb1⟩
      have hx2 : x < 10000 := by have := hx (by omega); omega
      have hown1 : w3.ownsRow w2.heap.size 3 1 u4 acc.length (icP acc) := HO.out.kept hb1 (by
        cases hv : u4.ownBlock with
        | none => exact .inl rfl
        | some k => right; intro e; have := (HO.out.lt k hv).1; simp at e; omega)
      have hb1s : w2.heap.size ≤ w3.heap.size := Nat.le_trans hbs hb1.size
      have D1 := hide1 hD1
      clear hD1 hx
      go_wp2_with (at_builtin; (refine wpList_push1 rfl _ _ 24 rfl w2.heap.size 3 i0 (.int .i64 0) 8 Tryd.underlying24 hi hz0 hz1 hz2 rfl (by decide) _ acc.length (icP acc) rfl hown1 _ rfl rfl (by omega) hb1s ?_; intro v' w4 hown' hb'))
      go_roundw
      case rel =>
        refine ⟨i + 1, acc ++ [x], by omega, by go_num, ?_, by simp; omega, ?_, hide1 (D1.out.keep hb' hba hgl), ?_, ?_⟩
        · show (acc ++ [x]).length = i + 1; rw [List.length_append, hl.out]; rfl
        · rw [icP_append, List.length_append]; exact hown'
        · refine ⟨hb'.os.trans (hb1.os.trans hgr.os), hb'.tape.trans (hb1.tape.trans hgr.tape), hb'.output.trans (hb1.output.trans hgr.output), Nat.le_trans hb1s hb'.size, fun k hk hne => ?_⟩
          rw [hb'.block k hk, hb1.block k (by omega) hne, hgr.block k hk hne]
        · intro y hy
          rcases List.mem_append.1 hy with h | h
          · exact hall.out y h
          · simp at h; omega
      case measure => simp [intOf]; omega
    · have hl2 : acc.length = 12 := by have := hl.out; omega
      obtain ⟨p, c, rfl, hp1, hp2⟩ := own_atP hown (by omega)
      have ec : ∀ j (h : j < acc.length), wr.cell? ⟨p, j, none⟩ = some (.int .i64 (acc[j] : Int)) := by
        intro j hj
        rw [hown.cellAt j (by omega)]
        simp [icP, hj]
      have EC := hide1 ec
      have HL := hide1 hl2
      rw [hl2]
      clear ec
      go_wp2
      go_ret
      exact ⟨acc, p, c, HL.out, hall.out, rfl, Nat.le_trans hb12.out.size hp1, hp2, EC.out, hb12.out.trans (grow_below hgr hBg hba)⟩
end Go.Proofs.YtdgpencendphbaaDoor
