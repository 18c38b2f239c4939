/- Drawn items. -/
import Derived.Test.YtbkhhkknhbddeaaDrawA
import Derived.Test.YtbkhhkknhbddeaaImT
namespace Go.Proofs.Ytbkhhkknhbddeaa
open Go.RowKit
set_option linter.unusedVariables false

theorem codeI {B B' : Nat} {w : World} {a : Option Addr} {len : Nat} (h : Code B w a len) (hB : B ≤ B') : Code B' w a len :=
  ⟨h.le, fun j hj => by obtain ⟨b, o, v, h1, h2, h3, h4⟩ := h.cells j hj; exact ⟨b, o, v, h1, by omega, h3, h4⟩⟩
theorem resI2 {P : Program} {fn : Func} {p u : Tmp} {ty : TypeId} (h : fn.results = #[.tmp u, .cell p ty]) (tmps : Array Value) (w : World) (g : Nat) (t : TypeId) (cs : Array Value) (fr : Nat × Nat) (d : TypeDesc)
    (hp : tmps.getD p undef = .pointer (some ⟨g, 0, none⟩)) (hg : w.heap[g]? = some (.cells cs t fr))
    (hu : P.underlying ty = some d) (hd : (match d with | .struct _ | .array _ _ => true | _ => false) = true) (hi : (P.info? ty).map (·.size) = some cs.size) :
    (results fn tmps).run P w = .ok (.tuple #[tmps.getD u undef, .agg cs]) w := by
  have hp' : tmps[p]?.getD undef = .pointer (some ⟨g, 0, none⟩) := by simpa using hp
  simp [results, h, hp', asAddr, run_loadVar_row w g t ty cs fr d hg hu hd hi]
set_option maxRecDepth 100000 in
set_option maxHeartbeats 1000000 in
theorem itemD_any {B : Nat} {w : World} {a : Option Addr} {len cap g : Nat} (h : Drw B w a len cap g) :
    Calls Try.prog 38 #[.pointer (some ⟨g, 0, none⟩)] w fun r w' => ∃ x : Im, r = .returned (.agg #[.string x.k, .string x.v, .int .i64 x.n]) ∧ okIm x ∧ Drw B w' a len cap g ∧ w.grownBy w' (some g) := by
  have hglt := h.lt
  have F0 := hide1 (And.intro (Blk.new w 26 #[.string ⟨#[]⟩, .string ⟨#[]⟩, .int .i64 0]) ((Below.refl w.heap.size w).alloc (Nat.le_refl _) (.cells #[.string ⟨#[]⟩, .string ⟨#[]⟩, .int .i64 0] 26)))
  have D0 := hide1 (h.later F0.out.2)
  clear h
  go_enter Try.func38, Try.ntmps38
  go_wp2_with fail
  generalize (w.alloc (.cells #[.string ⟨#[]⟩, .string ⟨#[]⟩, .int .i64 0] 26)) = u at F0 D0 ⊢
  obtain ⟨RB, hRB⟩ : ∃ G, G = w.heap.size := ⟨_, rfl⟩
  have KR := hide1 F0.out.1
  rw [← hRB] at KR ⊢
  have hRg : RB ≠ g := by omega
  have hRw : w.heap.size ≤ RB := by omega
  refine (key_any D0.out).mono ?_
  rintro e w1 ⟨ky, rfl, hk1, hk2, d1, g1⟩
  have D1 := hide1 d1
  have G1 := hide1 (show w.grownBy w1 (some g) from gtrans (gnew F0.out.2) g1)
  have K1 := hide1 (gblk g1 KR.out (by intro e; injection e; omega))
  have HK := hide1 (And.intro hk1 hk2)
  clear d1 g1 D0 KR F0 hk1 hk2 hRB
  go_wp2_with fail
  refine (val_any D1.out).mono ?_
  rintro e w2 ⟨vy, rfl, hv1, d2, g2⟩
  have D2 := hide1 d2
  have G2 := hide1 (gtrans G1.out g2)
  have K2 := hide1 (gblk g2 K1.out (by intro e; injection e; omega))
  have HV := hide1 hv1
  clear d2 g2 D1 G1 K1 hv1
  go_wp2_with fail
  refine (below_any D2.out 30 (by omega)).mono ?_
  rintro e w3 ⟨z, rfl, hz, _, d3, g3⟩
  have hz2 : z < 30 := by have := hz (by omega); omega
  have D3 := hide1 d3
  have G3 := hide1 (gtrans G2.out g3)
  have K3 := hide1 (gblk g3 K2.out (by intro e; injection e; omega))
  clear d3 g3 D2 G2 K2 hz
  have r0 : w3.cell? ⟨RB, 0, none⟩ = some (.string ⟨#[]⟩) := K3.out.cell 0
  have r1 : w3.cell? ⟨RB, 1, none⟩ = some (.string ⟨#[]⟩) := K3.out.cell 1
  have r2 : w3.cell? ⟨RB, 2, none⟩ = some (.int .i64 0) := K3.out.cell 2
  have rf : ∀ j, w3.frozen? ⟨RB, j, none⟩ = false := fun j => K3.out.froz j
  have lRw : RB < w3.heap.size := K3.out.lt
  go_wp2
  refine bodyPost_ret (results_cell_row Try.results38 _ _ RB 26 #[.string ky, .string vy, .int .i64 (1001 + (z : Int))] (0, 0) _ rfl (Blk.set (Blk.set (Blk.set K3.out 0 _) 1 _) 2 _) Try.underlying26 rfl (by kernel_rfl)) rfl ?_
  have hg9 : ∀ (p q r : Value), w3.grownBy (((w3.setCell ⟨RB, 0, none⟩ p).setCell ⟨RB, 1, none⟩ q).setCell ⟨RB, 2, none⟩ r) (some RB) := fun p q r => gset (gset (gset (World.grownBy.refl _ _) 0 p) 1 q) 2 r
  have hb9 : ∀ (p q r : Value), Below w.heap.size w3 (((w3.setCell ⟨RB, 0, none⟩ p).setCell ⟨RB, 1, none⟩ q).setCell ⟨RB, 2, none⟩ r) := fun p q r => gbelow (hg9 p q r) (fun k hk => by injection hk with hk; omega) (by omega)
  refine ⟨⟨ky, vy, 1001 + (z : Int)⟩, rfl, ⟨HK.out, HV.out, by show (1 : Int) ≤ 1001 + (z : Int); omega, by show 1001 + (z : Int) ≤ 1000000000; omega⟩, D3.out.keep (hb9 _ _ _) (by have := D3.out.cur.1; omega) (by omega), ?_⟩
  have g1 := G3.out
  exact ⟨(hb9 _ _ _).os.trans g1.os, (hb9 _ _ _).tape.trans g1.tape, (hb9 _ _ _).output.trans g1.output, Nat.le_trans g1.size (hb9 _ _ _).size, fun k hk hne => ((hb9 _ _ _).block k (by omega)).trans (g1.block k hk hne)⟩
theorem RdG.moveI {α : Type} {enc : α → List Value} {k : Nat} {w w' : World} {a : Option Addr} {l : List α} {r : Option Nat} (h : RdG enc k w a l) (hb : w.grownBy w' r) (hn : ∀ b o, a = some ⟨b, o, none⟩ → 0 < l.length → r ≠ some b) : RdG enc k w' a l := by
  intro i hi
  obtain ⟨b, o, ha, hg, hc⟩ := h i hi
  refine ⟨b, o, ha, Nat.lt_of_lt_of_le hg hb.size, fun j hj => ?_⟩
  rw [← hc j hj]
  exact World.cell?_of_block (hb.block b hg (fun e => hn b o ha (by omega) e.symm))
theorem putI_len (l : List Im) (x : Im) : (putI l x).length ≤ l.length + 1 := by
  unfold putI
  split
  · omega
  · split
    · exact ins_len
    · omega
/-- A row that lies from here on. -/
def From (m : Nat) (a : Option Addr) (n : Nat) : Prop := ∀ q o, a = some ⟨q, o, none⟩ → 0 < n → m ≤ q
set_option maxRecDepth 100000 in
set_option maxHeartbeats 1000000 in
theorem itemsD_any {B : Nat} {w : World} {a : Option Addr} {len cap g : Nat} (h : Drw B w a len cap g) :
    Calls Try.prog 37 #[.pointer (some ⟨g, 0, none⟩)] w fun r w' => ∃ (l : List Im) (b : Option Addr) (c : Nat), r = .returned (.slice b l.length c) ∧ okIms l ∧ l.length ≤ 5 ∧ RdG imC 3 w' b l ∧ From w.heap.size b l.length ∧ Drw B w' a len cap g ∧ w.grownBy w' (some g) := by
  have hglt := h.lt
  have hcur := h.cur.1
  have FL := hide1 ((Below.refl w.heap.size w).alloc (Nat.le_refl _) (.cells #[] 26))
  have D0 := hide1 (h.later FL.out)
  clear h
  go_enter Try.func37, Try.ntmps37
  go_upto_region 2 with fail
  generalize (w.alloc (.cells #[] 26)) = u at FL D0 ⊢
  have lwu : w.heap.size ≤ u.heap.size := FL.out.size
  go_wp2
  go_loopw [4, 3] (fun iv ov wr => ∃ i : Nat, i ≤ 5 ∧ iv = .int .i64 (i : Int) ∧ ∃ (l : List Im) (b : Option Addr) (c : Nat), ov = .slice b l.length c ∧ Hid (okIms l) ∧ l.length ≤ i ∧ Hid (RdG imC 3 wr b l) ∧ Hid (From w.heap.size b l.length) ∧ Hid (Drw B wr a len cap g) ∧ Hid (w.grownBy wr (some g))) (fun iv _ _ => 6 - (intOf iv).toNat)
  case atStart => exact ⟨0, by omega, rfl, [], _, _, rfl, hide1 ⟨by simp, by unfold ascI; simp, by simp⟩, Nat.le_refl _, hide1 (RdG.nil _ _), hide1 (fun q o e h => by simp at h), D0, hide1 (gnew FL.out)⟩
  case round =>
    obtain ⟨i, hi, rfl, l, b, c, rfl, HO, hli, HR, HF, DD, GG⟩ := hrel
    go_wp2_with fail
    refine (below_any DD.out 6 (by omega)).mono ?_
    rintro e w1 ⟨z, rfl, hz, _, d1, g1⟩
    have hz2 : z < 6 := by have := hz (by omega); omega
    have D1 := hide1 d1
    have G1 := hide1 (gtrans GG.out g1)
    have R1 := hide1 (HR.out.moveI g1 (fun q o e hn x => by injection x with x; have := HF.out q o e hn; omega))
    clear d1 g1 DD GG HR hz
    by_cases hlt : i < z
    · have k1 : (i : Int) < (z : Int) := by omega
      go_wp2_with fail
      refine (itemD_any D1.out).mono ?_
      rintro e w2 ⟨x, rfl, hx, d2, g2⟩
      have D2 := hide1 d2
      have G2 := hide1 (gtrans G1.out g2)
      have R2 := hide1 (R1.out.moveI g2 (fun q o e hn x => by injection x with x; have := HF.out q o e hn; omega))
      have PR := hide1 (put_right HO.out hx (by omega))
      have CP := hide1 (specPutItem_any b l c x w2 (by omega) R2.out)
      have PL := hide1 (putI_len l x)
      clear d2 g2 D1 G1 R1 hx
      generalize putI l x = l' at *
      go_wp2_with fail
      refine CP.out.mono ?_
      rintro e w3 ⟨⟨b3, c3, rfl, hr3, hn3⟩, hb3⟩
      have R3 := hide1 hr3
      have N3 := hide1 (show From w.heap.size b3 l'.length from fun q o e h => Nat.le_trans G2.out.size (hn3 q o e h))
      have D3 := hide1 (D2.out.later hb3)
      have G3 := hide1 (gtrans G2.out (gnew hb3))
      clear hr3 hn3 hb3 CP
      go_wp2
      go_roundw
      case rel => exact ⟨i + 1, by omega, by go_num, l', b3, c3, rfl, hide1 PR.out.1, by have := PL.out; omega, R3, N3, D3, G3⟩
      case measure => simp [intOf]; omega
    · have k1 : ¬ ((i : Int) < (z : Int)) := by omega
      go_wp2
      go_ret
      exact ⟨l, b, c, rfl, HO.out, by omega, R1.out, HF.out, D1.out, G1.out⟩
set_option maxRecDepth 100000 in
set_option maxHeartbeats 1000000 in
theorem drawIts_any (w : World) (a : Option Addr) (len cap : Nat) (hc : Code w.heap.size w a len) :
    Calls Try.prog 10 #[.slice a len cap] w fun r w' => (∃ (l : List Im) (x : Im) (b : Option Addr) (c : Nat), r = .returned (.tuple #[.slice b l.length c, .agg #[.string x.k, .string x.v, .int .i64 x.n]]) ∧ okIms l ∧ l.length ≤ 5 ∧ okIm x ∧ RdG imC 3 w' b l) ∧ Below w.heap.size w w' := by
  have F0 := hide1 (And.intro (Blk.new w 26 #[.string ⟨#[]⟩, .string ⟨#[]⟩, .int .i64 0]) ((Below.refl w.heap.size w).alloc (Nat.le_refl _) (.cells #[.string ⟨#[]⟩, .string ⟨#[]⟩, .int .i64 0] 26)))
  have C0 := hide1 (fun w' (hb : Below w.heap.size w w') => new_any w' a len cap (codeI (hc.below hb (Nat.le_refl _)) hb.size))
  clear hc
  go_enter Try.func10, Try.ntmps10
  go_wp2_with fail
  generalize (w.alloc (.cells #[.string ⟨#[]⟩, .string ⟨#[]⟩, .int .i64 0] 26)) = u at F0 ⊢
  refine (C0.out u F0.out.2).mono ?_
  rintro e w1 ⟨g, rfl, h1, hb1⟩
  obtain ⟨RB, hRB⟩ : ∃ G, G = w.heap.size := ⟨_, rfl⟩
  have KR := hide1 (F0.out.1.below hb1 F0.out.1.lt)
  rw [← hRB] at KR ⊢
  have hgu : u.heap.size ≤ g := h1.cur.1
  have lRu : RB < u.heap.size := by rw [hRB]; exact F0.out.1.lt
  have hRg : RB ≠ g := by omega
  have hRw : w.heap.size ≤ RB := by omega
  have h1b := h1.base
  have B1 := hide1 (F0.out.2.trans (hb1.mono F0.out.2.size))
  have D1 := hide1 h1
  have lg1 : g < w1.heap.size := h1.lt
  clear h1 hb1 F0 C0 hRB
  go_wp2_with fail
  refine (itemsD_any D1.out).mono ?_
  rintro e w2 ⟨l, b, c, rfl, ho, hl5, hr2, hf2, d2, g2⟩
  have D2 := hide1 d2
  have G2 := hide1 g2
  have R2 := hide1 hr2
  have F2 := hide1 hf2
  have HO := hide1 (And.intro ho hl5)
  have K2 := hide1 (gblk g2 KR.out (by intro e; injection e; omega))
  clear d2 g2 hr2 hf2 ho hl5 D1 KR
  obtain ⟨n, hn⟩ : ∃ n, l.length = n := ⟨_, rfl⟩
  have HN := hide1 hn
  rw [hn]
  clear hn
  go_wp2_with fail
  refine (itemD_any D2.out).mono ?_
  rintro e w3 ⟨x, rfl, hx, d3, g3⟩
  have HX := hide1 hx
  have G3 := hide1 (gtrans G2.out g3)
  have R3 := hide1 (R2.out.moveI g3 (fun q o e hn x => by injection x with x; have := F2.out q o e hn; omega))
  have K3 := hide1 (gblk g3 K2.out (by intro e; injection e; omega))
  clear hx d3 g3 D2 G2 R2 K2
  have r0 : w3.cell? ⟨RB, 0, none⟩ = some (.string ⟨#[]⟩) := K3.out.cell 0
  have r1 : w3.cell? ⟨RB, 1, none⟩ = some (.string ⟨#[]⟩) := K3.out.cell 1
  have r2 : w3.cell? ⟨RB, 2, none⟩ = some (.int .i64 0) := K3.out.cell 2
  have rf : ∀ j, w3.frozen? ⟨RB, j, none⟩ = false := fun j => K3.out.froz j
  go_wp2
  refine bodyPost_ret (resI2 Try.results10 _ _ RB 26 #[.string x.k, .string x.v, .int .i64 x.n] (0, 0) _ rfl (Blk.set (Blk.set (Blk.set K3.out 0 _) 1 _) 2 _) Try.underlying26 rfl (by kernel_rfl)) rfl ?_
  have hg9 : ∀ (p q r : Value), w3.grownBy (((w3.setCell ⟨RB, 0, none⟩ p).setCell ⟨RB, 1, none⟩ q).setCell ⟨RB, 2, none⟩ r) (some RB) := fun p q r => gset (gset (gset (World.grownBy.refl _ _) 0 p) 1 q) 2 r
  have B3 : Below w.heap.size w w3 := B1.out.trans (gbelow G3.out (fun q hq => by injection hq with hq; omega) (by omega))
  refine ⟨⟨l, x, b, c, by rw [HN.out]; rfl, HO.out.1, HO.out.2, HX.out, R3.out.moveI (hg9 _ _ _) (fun q o e hn x => by injection x with x; have := F2.out q o e hn; omega)⟩, ((B3.setCell (p := ⟨RB, 0, none⟩) hRw _).setCell (p := ⟨RB, 1, none⟩) hRw _).setCell (p := ⟨RB, 2, none⟩) hRw _⟩
end Go.Proofs.Ytbkhhkknhbddeaa
