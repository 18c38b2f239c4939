/- A message more is told: the program's tell. -/
import Derived.Test.YtpjgplohlchpoaaGreatDoorAdG
namespace Go.Proofs.YtpjgplohlchpoaaGreatDoor
open Go.RowKit
set_option linter.unusedVariables false

theorem zdG {u w7 : World} {cs : Array Value} {t : TypeId} (hb : Below (u.alloc (.cells cs t)).heap.size (u.alloc (.cells cs t)) w7) : Blk w7 u.heap.size t cs.toList :=
  Blk.below (Blk.new u t cs) hb (by rw [World.size_alloc]; omega)
theorem zdGD {u w7 : World} {cs : Array Value} {t : TypeId} (hb : Below (u.alloc (.cells cs t)).drew.heap.size (u.alloc (.cells cs t)).drew w7) : Blk w7 u.heap.size t cs.toList :=
  Blk.below (w := (u.alloc (.cells cs t)).drew) (Blk.new u t cs) hb (show u.heap.size < (u.alloc (.cells cs t)).heap.size by rw [World.size_alloc]; omega)
theorem zdGE {u w7 : World} {cs : Array Value} {t : TypeId} (hb : Below (u.drew.alloc (.cells cs t)).heap.size (u.drew.alloc (.cells cs t)) w7) : Blk w7 u.heap.size t cs.toList :=
  Blk.below (Blk.new u.drew t cs) hb (show u.drew.heap.size < _ by rw [World.size_alloc]; omega)
set_option maxRecDepth 100000 in
set_option maxHeartbeats 8000000 in
theorem tell_any {S X : Nat} {q : Int} {v : Value} {m : Mb} {A : MA} {b : Option Addr} {c : Nat} {D : List Mv} (k to' nu : Int) (a : Option Addr) (l : List Im) (lc : Nat) (w : World) (h : SeA S w X q v m A b c D) (hD : D.length ≤ 1000) (hl : l.length ≤ 1048576) (hA : RdG imC 3 w a l) :
    Calls Tryz.prog 61 #[.pointer (some ⟨X, 0, none⟩), .int .i64 k, .int .i64 to', .int .i64 nu, .slice a l.length lc] w fun e w' => e = .returned (.tuple #[]) ∧ (∃ (b' : Option Addr) (c' : Nat) (y : Mv), y.m = ⟨k, m.id, to', m.ep, nu, l⟩ ∧ SeA S w' X q v m A b' c' (D ++ [y]) ∧ (∀ g, InD b' c' (D ++ [y]) g → InD b c D g ∨ w.heap.size ≤ g)) ∧ FrX (fun g => g < w.heap.size ∧ g ≠ X ∧ ¬ InD b c D g) w w' := by
  have H := hide1 h
  have x3 : w.cell? ⟨X, 3, none⟩ = some (.int .i64 m.id) := h.bx.cell 3 rfl
  have x4 : w.cell? ⟨X, 4, none⟩ = some (.int .i64 m.ep) := h.bx.cell 4 rfl
  have CN := hide1 (fun u (hb : Below w.heap.size w u) => newItems_any a l lc u hl (hA.later hb))
  have lX : X < w.heap.size := h.bx.lt
  have ZS := hide1 (fun w' (D : Below w.heap.size w w') => (show w'.cell? ⟨X, 3, none⟩ = some (.int .i64 m.id) ∧ w'.cell? ⟨X, 4, none⟩ = some (.int .i64 m.ep) from ⟨(D.cell (p := ⟨X, 3, none⟩) lX).trans x3, (D.cell (p := ⟨X, 4, none⟩) lX).trans x4⟩))
  clear h hA
  go_enter Tryz.func61, Tryz.ntmps61
  go_upto_region 0 with fail
  go_cut [10] (fun gv wx => ∃ (G : Nat) (bl : Option Addr), gv = .pointer (some ⟨G, 0, none⟩) ∧ Hid (Blk wx G 61 (mvC ⟨⟨k, m.id, to', m.ep, nu, l⟩, bl, l.length⟩)) ∧ Hid (wx.ownsRow w.heap.size 34 3 (.slice bl l.length l.length) l.length (rowG imC l)) ∧ Hid ((Value.slice bl l.length l.length).ownBlock ≠ some G) ∧ Hid (w.heap.size ≤ G) ∧ Hid (Below w.heap.size w wx))
  case first =>
    go_region_held3 (fun w' => w'.cell? ⟨X, 3, none⟩ = some (.int .i64 m.id) ∧ w'.cell? ⟨X, 4, none⟩ = some (.int .i64 m.ep)) (first | exact ZS.out _ D2.out | go_keep) ((go_at_call 65; refine (CN.out _ (by go_grown)).mono ?_; rintro e w2 ⟨rfl, ho, hb⟩; have D2 : Hid (Below w.heap.size w w2) := (show Below w.heap.size w _ by go_grown).trans (hb.mono (by go_size)); (first | (have ZB : Hid (Blk w2 w.heap.size 61 [.int .i64 0, .int .i64 0, .int .i64 0, .int .i64 0, .int .i64 0, .slice none 0 0]) := hide1 (by first | exact zdG hb | exact zdGD hb | exact zdGE hb); have z0 := ZB.out.cell 0; have z1 := ZB.out.cell 1; have z2 := ZB.out.cell 2; have z3 := ZB.out.cell 3; have z4 := ZB.out.cell 4; have z5 := ZB.out.cell 5; simp only [List.getElem?_cons_zero, List.getElem?_cons_succ] at z0 z1 z2 z3 z4 z5; have zf := ZB.out.froz; have lz := ZB.out.lt) | skip); have HO := hide1 ho; have HB := hide1 hb; have y3 : w2.cell? ⟨X, 3, none⟩ = some (.int .i64 m.id) := (ZS.out _ D2.out).1; have y4 : w2.cell? ⟨X, 4, none⟩ = some (.int .i64 m.ep) := (ZS.out _ D2.out).2; have nX : w.heap.size ≠ X := (by omega); have s2 : w.heap.size ≤ w2.heap.size := D2.out.size; have nX2 : w2.heap.size ≠ X := (by omega); have nX3 : X < w2.heap.size := (by omega); clear ho hb))
    all_goals go_wp2_with fail
    all_goals go_meet
    · have BA := (Below.refl w2.heap.size w2).alloc (Nat.le_refl _) (.cells #[.int .i64 k, .int .i64 m.id, .int .i64 to', .int .i64 m.ep, .int .i64 nu, .slice (some ⟨w.heap.size, 0, none⟩) l.length l.length] 61)
      have OI : w2.ownsRow w.heap.size 34 3 (.slice (some ⟨w.heap.size, 0, none⟩) l.length l.length) l.length (rowG imC l) := HO.out
      exact ⟨w2.heap.size, some ⟨w.heap.size, 0, none⟩, rfl, hide1 (Blk.new w2 61 #[.int .i64 k, .int .i64 m.id, .int .i64 to', .int .i64 m.ep, .int .i64 nu, .slice (some ⟨w.heap.size, 0, none⟩) l.length l.length]), hide1 (own_kept OI BA), hide1 (fun e => by have e2 : w.heap.size = w2.heap.size := (by simpa [Value.ownBlock] using e); have : w.heap.size < w2.heap.size := (OI.lt w.heap.size rfl).2; omega), hide1 s2, hide1 (D2.out.trans (BA.mono s2))⟩
    · have OI : w2.ownsRow w.heap.size 34 3 (.slice (some ⟨w.heap.size + 1, 0, none⟩) l.length l.length) l.length (rowG imC l) := by
        have h0 := HO.out
        rw [show (w.alloc (Obj.cells #[.int .i64 0, .int .i64 0, .int .i64 0, .int .i64 0, .int .i64 0, .slice none 0 0] 61)).drew.heap.size = w.heap.size + 1 from World.size_alloc _ _] at h0
        exact own_base h0 (by omega)
      have GG : w2.grownBy ((((((w2.setCell ⟨w.heap.size, 0, none⟩ (.int .i64 k)).setCell ⟨w.heap.size, 1, none⟩ (.int .i64 m.id)).setCell ⟨w.heap.size, 2, none⟩ (.int .i64 to')).setCell ⟨w.heap.size, 3, none⟩ (.int .i64 m.ep)).setCell ⟨w.heap.size, 4, none⟩ (.int .i64 nu)).setCell ⟨w.heap.size, 5, none⟩ (.slice (some ⟨w.heap.size + 1, 0, none⟩) l.length l.length)) (some w.heap.size) := gset (gset (gset (gset (gset (gset (World.grownBy.refl w2 (some w.heap.size)) 0 _) 1 _) 2 _) 3 _) 4 _) 5 _
      exact ⟨w.heap.size, some ⟨w.heap.size + 1, 0, none⟩, rfl, hide1 (Blk.set (Blk.set (Blk.set (Blk.set (Blk.set (Blk.set ZB.out 0 _) 1 _) 2 _) 3 _) 4 _) 5 _), hide1 (gown GG OI (fun g h1 h2 => by have e1 : w.heap.size + 1 = g := (by simpa [Value.ownBlock] using h1); have e2 : w.heap.size = g := (by simpa using h2); omega)), hide1 (fun e => by simp [Value.ownBlock] at e), hide1 (Nat.le_refl _), hide1 (D2.out.trans (gbelow GG (fun g h1 => Nat.le_of_eq (by simpa using h1)) s2))⟩
  case rest =>
    obtain ⟨G, bl, rfl, KG, OB, NB, LG, BX⟩ := hcut
    have HS := hide1 (H.out.later BX.out)
    have sw : w.heap.size ≤ wc.heap.size := BX.out.size
    have lXc : X < wc.heap.size := by omega
    clear x3 x4 CN ZS
    go_upto_region 1 with fail
    have g1 : wc.cell? ⟨X, 19, none⟩ = some (.slice b D.length c) := HS.out.bx.cell 19 rfl
    have gf : wc.frozen? ⟨X, 19, none⟩ = false := HS.out.bx.froz 19
    have x0 : wc.cell? ⟨G, 0, none⟩ = some (.int .i64 k) := KG.out.cell 0
    have x1 : wc.cell? ⟨G, 1, none⟩ = some (.int .i64 m.id) := KG.out.cell 1
    have x2 : wc.cell? ⟨G, 2, none⟩ = some (.int .i64 to') := KG.out.cell 2
    have x3 : wc.cell? ⟨G, 3, none⟩ = some (.int .i64 m.ep) := KG.out.cell 3
    have x4 : wc.cell? ⟨G, 4, none⟩ = some (.int .i64 nu) := KG.out.cell 4
    have x5 : wc.cell? ⟨G, 5, none⟩ = some (.slice bl l.length l.length) := KG.out.cell 5
    have T5 := hide1 (show Below wc.heap.size wc (wc.alloc (.cells #[.int .i64 k, .int .i64 m.id, .int .i64 to', .int .i64 m.ep, .int .i64 nu, .slice bl l.length l.length] 61)).drew from (((Below.refl _ _).alloc (Nat.le_refl _) _).drew))
    have T1 := hide1 (own_kept HS.out.tw.o T5.out)
    have T2 := hide1 (rd_one (y := (⟨⟨k, m.id, to', m.ep, nu, l⟩, bl, l.length⟩ : Mv)) encMv (show Blk (wc.alloc (.cells #[.int .i64 k, .int .i64 m.id, .int .i64 to', .int .i64 m.ep, .int .i64 nu, .slice bl l.length l.length] 61)).drew wc.heap.size 61 (mvC (⟨⟨k, m.id, to', m.ep, nu, l⟩, bl, l.length⟩ : Mv)) from Blk.new wc 61 #[.int .i64 k, .int .i64 m.id, .int .i64 to', .int .i64 m.ep, .int .i64 nu, .slice bl l.length l.length]))
    have T3 : D.length + 1 ≤ 4194304 := by omega
    have T4 := hide1 (Nat.le_trans HS.out.size T5.out.size)
    have HD := hide1 (HS.out.later T5.out)
    have HY := hide1 (own_base (own_kept OB.out T5.out) (show S ≤ w.heap.size from H.out.size))
    have HYN := hide1 (show ∀ g, (Value.slice bl l.length l.length).ownBlock = some g → g ≠ X ∧ ¬ InM m A g ∧ ¬ InD b c D g from fun g hg => ⟨fun e => by have := (OB.out.lt g hg).1; have := H.out.bx.lt; omega, fun e => by have := (OB.out.lt g hg).1; have := (H.out.mo.ltM e).2; omega, fun e => by have := (OB.out.lt g hg).1; have := (H.out.tw.lt e).2; omega⟩)
    have NT : (Value.slice b D.length c).ownBlock ≠ some X := fun e => H.out.dx (.inl e)
    go_region_law ((refine step_appA encMv rowMv rfl (.tmp 31) (.tmp 33) rfl S (.slice b D.length c) D.length D ?_ T1.out (some ⟨wc.heap.size, 0, none⟩) 1 1 [(⟨⟨k, m.id, to', m.ep, nu, l⟩, bl, l.length⟩ : Mv)] ?_ rfl T2.out T3 T4.out ?_; (rfl); (rfl); intro b5 c5 w5 ho5 hg5 hl5; have HO5 := hide1 ho5; have HG5 := hide1 hg5; have HL5 := hide1 hl5; have GB := hide1 (HD.out.bx.gr hg5 NT); clear g1 gf ho5 hg5 hl5; have g1 : w5.cell? ⟨X, 19, none⟩ = some (.slice b D.length c) := (GB.out.cell 19 rfl); have gf : w5.frozen? ⟨X, 19, none⟩ = false := GB.out.froz 19))
    all_goals
      go_wp2
      go_end0
      obtain ⟨p1, p2, p3⟩ := HD.out.push HY.out HYN.out HO5.out HG5.out HL5.out (gset (World.grownBy.refl w5 (some X)) 19 (.slice b5 (D.length + 1) c5)) (GB.out.setc 19 (.slice b5 (D.length + 1) c5))
      exact ⟨rfl, ⟨b5, c5, (⟨⟨k, m.id, to', m.ep, nu, l⟩, bl, l.length⟩ : Mv), rfl, p1, fun g hg => by
        rcases p3 g hg with h1 | h1 | h1
        · exact .inl h1
        · exact .inr (Nat.le_trans (Nat.le_trans sw T5.out.size) h1)
        · exact .inr (OB.out.lt g h1).1⟩, (FrX.of BX.out (fun k hk => hk.1)).trans ((FrX.of T5.out (fun k hk => Nat.lt_of_lt_of_le hk.1 sw)).trans (p2.less (fun k hk => ⟨Nat.lt_of_lt_of_le hk.1 (Nat.le_trans sw T5.out.size), hk.2.1, hk.2.2⟩)))⟩
end Go.Proofs.YtpjgplohlchpoaaGreatDoor
