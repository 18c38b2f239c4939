/- The model's l14Copy. -/
import Derived.Test.YtpjgplohlchpoaaGreatDoorUAH
import Derived.Test.YtpjgplohlchpoaaGreatDoorUAL
import Derived.Test.YtpjgplohlchpoaaGreatDoorUAG
import Derived.Test.YtpjgplohlchpoaaGreatDoorUAN
import Derived.Laws.CopyOwn
namespace Go.Proofs.YtpjgplohlchpoaaGreatDoor
open Go.RowKit
set_option linter.unusedVariables false

theorem RdG.farC {α : Type} {enc : α → List Value} {k : Nat} {w : World} {a : Option Addr} {l : List α} (h : RdG enc k w a l) {g : Nat} (j : Nat) (u : Value) (hn : ∀ b o, a = some ⟨b, o, none⟩ → 0 < l.length → b ≠ g) : RdG enc k (w.setCell ⟨g, j, none⟩ u) a l := by
  intro i hi
  obtain ⟨b, o, ha, hg, hc⟩ := h i hi
  refine ⟨b, o, ha, by simpa using hg, fun q hq => ?_⟩
  rw [← hc q hq]
  exact World.cell?_of_block (Below.heap_setCell _ _ _ _ (hn b o ha (by omega)))
theorem RdG.farR {α : Type} {enc : α → List Value} {k : Nat} {w : World} {a : Option Addr} {l : List α} (h : RdG enc k w a l) {g : Nat} (cs : Array Value) (hn : ∀ b o, a = some ⟨b, o, none⟩ → 0 < l.length → b ≠ g) : RdG enc k (w.setRow g cs) a l := by
  intro i hi
  obtain ⟨b, o, ha, hg, hc⟩ := h i hi
  refine ⟨b, o, ha, by simpa using hg, fun q hq => ?_⟩
  rw [← hc q hq]
  exact World.cell?_of_block (setRow_other _ _ _ _ (hn b o ha (by omega)))
/-- A copy of a member under way: its box, its result. -/
structure CpM (w W : World) (G R : Nat) (cs : Array Value) : Prop where
  bx : BlkA W G 38 cs
  rs : BlkA W R 38 zMb
  bl : Below w.heap.size w W
  gw : w.heap.size ≤ G
  rw' : w.heap.size ≤ R
  ne : G ≠ R
theorem CpM.later {w W W' : World} {G R : Nat} {cs : Array Value} (h : CpM w W G R cs) (hb : Below W.heap.size W W') : CpM w W' G R cs := ⟨h.bx.below hb h.bx.lt, h.rs.below hb h.rs.lt, h.bl.trans (hb.mono h.bl.size), h.gw, h.rw', h.ne⟩
theorem CpM.set {w W : World} {G R : Nat} {cs : Array Value} (h : CpM w W G R cs) (j : Nat) (u : Value) : CpM w (W.setCell ⟨G, j, none⟩ u) G R (cs.toList.set j u).toArray := ⟨h.bx.setc j u, h.rs.far j u h.ne, h.bl.setCell (p := ⟨G, j, none⟩) h.gw u, h.gw, h.rw', h.ne⟩
set_option maxRecDepth 100000 in
set_option maxHeartbeats 4000000 in
theorem specCopyM_any (m : Mb) (A : MA) (w : World) (hl : SzMb m) (hA : RdMb w m A) :
    Calls Tryz.prog 26 #[mbV m A] w fun e w' => ∃ B : MA, e = .returned (mbV m B) ∧ RdMb w' m B ∧ LoMb w.heap.size m B ∧ Below w.heap.size w w' := by
  obtain ⟨hl1, hl2, hl3⟩ := hl
  have HA := hide1 hA
  clear hA
  have F := hide1 (show CpM w ((w.alloc (.cells (mbA m A) 38)).alloc (.cells zMb 38)) w.heap.size (w.heap.size + 1) (mbA m A) from by
    have b1 := (Below.refl w.heap.size w).alloc (Nat.le_refl _) (.cells (mbA m A) 38)
    have b2 := (Below.refl (w.alloc (.cells (mbA m A) 38)).heap.size (w.alloc (.cells (mbA m A) 38))).alloc (Nat.le_refl _) (.cells zMb 38)
    have k1 := BlkA.new w 38 (mbA m A)
    have k2 := BlkA.new (w.alloc (.cells (mbA m A) 38)) 38 zMb
    rw [World.size_alloc] at k2
    exact ⟨k1.below b2 k1.lt, k2, b1.trans (b2.mono b1.size), Nat.le_refl _, Nat.le_succ _, by omega⟩)
  rw [mbV_A]
  go_enter Tryz.func26, Tryz.ntmps26
  go_upto_region 1 with fail
  -- THE WALK
  unfold zMb at F
  generalize ((w.alloc (.cells (mbA m A) 38)).alloc (.cells #[.int .i64 0, .int .i64 0, .bool false, .bool false, .bool false, .bool false, .slice none 0 0, .slice none 0 0, .int .i64 0, .int .i64 0, .int .i64 0, .int .i64 0, .string ⟨#[]⟩, .string ⟨#[]⟩, .int .i64 0, .slice none 0 0] 38)) = U0 at F ⊢
  obtain ⟨G, hG⟩ : ∃ G, G = w.heap.size := ⟨_, rfl⟩
  obtain ⟨R, hR⟩ : ∃ G, G = w.heap.size + 1 := ⟨_, rfl⟩
  rw [← hR, ← hG] at F ⊢
  have K0 := F
  clear F hG hR
  have EL := hide1 ((Below.refl U0.heap.size U0).alloc (Nat.le_refl _) (.cells #[] 3))
  have lG : G < U0.heap.size := K0.out.bx.lt
  have lR : R < U0.heap.size := K0.out.rs.lt
  have y0 : U0.cell? ⟨G, 6, none⟩ = some (.slice A.wa m.wa.length A.wc) := K0.out.bx.cell 6 rfl
  go_upto_region 2 with (at_builtin; (refine wpList_cpE encZ rowZ_k rfl (.tmp 3) (.tmp 5) rfl U0.heap.size rfl A.wa m.wa.length A.wc m.wa rfl rfl ((((HA.out.later K0.out.bl)).wr.later EL.out).g) (by omega) ?_; intro b0 c0 w0 hr hb hn hc; have E1 : Hid (Below U0.heap.size U0 w0) := EL.out.trans (hb.mono EL.out.size); have Q0 := hide1 hr; have N0 : Hid (∀ b o, b0 = some ⟨b, o, none⟩ → 0 < m.wa.length → b ≠ G) := fun b o e h1 => (by have h2 := hn b o e h1; have h3 := EL.out.size; omega); have V0 : Hid (LoA w.heap.size b0 m.wa.length) := fun b o e h1 => (by have h2 := hn b o e h1; have h3 := EL.out.size; have h4 := K0.out.bl.size; omega); have M0 : Hid (∀ b o, b0 = some ⟨b, o, none⟩ → 0 < m.wa.length → b ≠ R) := fun b o e h1 => (by have h2 := hn b o e h1; have h3 := EL.out.size; omega); have L0 := hide1 (K0.out.later E1.out); have yy : w0.cell? ⟨G, 6, none⟩ = some (.slice A.wa m.wa.length A.wc) := L0.out.bx.cell 6 rfl; have yf : w0.frozen? ⟨G, 6, none⟩ = false := L0.out.bx.froz 6; clear hr hb hn hc))
  have P0 := hide1 (RdG.farC Q0.out (g := G) 6 (.slice b0 m.wa.length c0) N0.out)
  have K1 := hide1 (show CpM w (w0.setCell ⟨G, 6, none⟩ (.slice b0 m.wa.length c0)) G R (mbA m ⟨b0, c0, A.ia, A.ic, A.la, A.lc⟩) from L0.out.set 6 _)
  generalize (w0.setCell ⟨G, 6, none⟩ (.slice b0 m.wa.length c0)) = U1 at K1 P0 ⊢
  clear yy yf y0 lG lR EL E1 L0 Q0 K0
  have EL := hide1 ((Below.refl U1.heap.size U1).alloc (Nat.le_refl _) (.cells #[] 34))
  have lG : G < U1.heap.size := K1.out.bx.lt
  have lR : R < U1.heap.size := K1.out.rs.lt
  have y0 : U1.cell? ⟨G, 7, none⟩ = some (.slice A.ia m.is.length A.ic) := K1.out.bx.cell 7 rfl
  go_upto_region 3 with (at_builtin; (refine wpList_cpE encIm rowIm rfl (.tmp 8) (.tmp 10) rfl U1.heap.size rfl A.ia m.is.length A.ic m.is rfl rfl ((((HA.out.later K1.out.bl)).ir).later EL.out) (by omega) ?_; intro b1 c1 w1 hr hb hn hc; have E1 : Hid (Below U1.heap.size U1 w1) := EL.out.trans (hb.mono EL.out.size); have Q1 := hide1 hr; have N1 : Hid (∀ b o, b1 = some ⟨b, o, none⟩ → 0 < m.is.length → b ≠ G) := fun b o e h1 => (by have h2 := hn b o e h1; have h3 := EL.out.size; omega); have V1 : Hid (LoA w.heap.size b1 m.is.length) := fun b o e h1 => (by have h2 := hn b o e h1; have h3 := EL.out.size; have h4 := K1.out.bl.size; omega); have M1 : Hid (∀ b o, b1 = some ⟨b, o, none⟩ → 0 < m.is.length → b ≠ R) := fun b o e h1 => (by have h2 := hn b o e h1; have h3 := EL.out.size; omega); have L1 := hide1 (K1.out.later E1.out); have yy : w1.cell? ⟨G, 7, none⟩ = some (.slice A.ia m.is.length A.ic) := L1.out.bx.cell 7 rfl; have yf : w1.frozen? ⟨G, 7, none⟩ = false := L1.out.bx.froz 7; clear hr hb hn hc))
  have P0 := hide1 (RdG.farC (P0.out.later E1.out) (g := G) 7 (.slice b1 m.is.length c1) N0.out)
  have P1 := hide1 (RdG.farC Q1.out (g := G) 7 (.slice b1 m.is.length c1) N1.out)
  have K2 := hide1 (show CpM w (w1.setCell ⟨G, 7, none⟩ (.slice b1 m.is.length c1)) G R (mbA m ⟨b0, c0, b1, c1, A.la, A.lc⟩) from L1.out.set 7 _)
  generalize (w1.setCell ⟨G, 7, none⟩ (.slice b1 m.is.length c1)) = U2 at K2 P0 P1 ⊢
  clear yy yf y0 lG lR EL E1 L1 Q1 K1
  have EL := hide1 ((Below.refl U2.heap.size U2).alloc (Nat.le_refl _) (.cells #[] 3))
  have lG : G < U2.heap.size := K2.out.bx.lt
  have lR : R < U2.heap.size := K2.out.rs.lt
  have y0 : U2.cell? ⟨G, 15, none⟩ = some (.slice A.la m.tk.lf.length A.lc) := K2.out.bx.cell 15 rfl
  go_upto_region 4 with (at_builtin; (refine wpList_cpE encZ rowZ_k rfl (.tmp 13) (.tmp 16) rfl U2.heap.size rfl A.la m.tk.lf.length A.lc m.tk.lf rfl rfl ((((HA.out.later K2.out.bl)).lr.later EL.out).g) (by omega) ?_; intro b2 c2 w2 hr hb hn hc; have E1 : Hid (Below U2.heap.size U2 w2) := EL.out.trans (hb.mono EL.out.size); have Q2 := hide1 hr; have N2 : Hid (∀ b o, b2 = some ⟨b, o, none⟩ → 0 < m.tk.lf.length → b ≠ G) := fun b o e h1 => (by have h2 := hn b o e h1; have h3 := EL.out.size; omega); have V2 : Hid (LoA w.heap.size b2 m.tk.lf.length) := fun b o e h1 => (by have h2 := hn b o e h1; have h3 := EL.out.size; have h4 := K2.out.bl.size; omega); have M2 : Hid (∀ b o, b2 = some ⟨b, o, none⟩ → 0 < m.tk.lf.length → b ≠ R) := fun b o e h1 => (by have h2 := hn b o e h1; have h3 := EL.out.size; omega); have L2 := hide1 (K2.out.later E1.out); have yy : w2.cell? ⟨G, 15, none⟩ = some (.slice A.la m.tk.lf.length A.lc) := L2.out.bx.cell 15 rfl; have yf : w2.frozen? ⟨G, 15, none⟩ = false := L2.out.bx.froz 15; clear hr hb hn hc))
  have P0 := hide1 (RdG.farC (P0.out.later E1.out) (g := G) 15 (.slice b2 m.tk.lf.length c2) N0.out)
  have P1 := hide1 (RdG.farC (P1.out.later E1.out) (g := G) 15 (.slice b2 m.tk.lf.length c2) N1.out)
  have P2 := hide1 (RdG.farC Q2.out (g := G) 15 (.slice b2 m.tk.lf.length c2) N2.out)
  have K3 := hide1 (show CpM w (w2.setCell ⟨G, 15, none⟩ (.slice b2 m.tk.lf.length c2)) G R (mbA m ⟨b0, c0, b1, c1, b2, c2⟩) from L2.out.set 15 _)
  generalize (w2.setCell ⟨G, 15, none⟩ (.slice b2 m.tk.lf.length c2)) = U3 at K3 P0 P1 P2 ⊢
  clear yy yf y0 lG lR EL E1 L2 Q2 K2
  have BS := hide1 (below_setRow K3.out.bl K3.out.rw' (mbA m ⟨b0, c0, b1, c1, b2, c2⟩))
  have HR := hide1 (setRow_heap U3 R zMb (mbA m ⟨b0, c0, b1, c1, b2, c2⟩) 38 (0, 0) K3.out.rs)
  have S0 := hide1 (RdG.farR P0.out (g := R) (mbA m ⟨b0, c0, b1, c1, b2, c2⟩) M0.out)
  have S1 := hide1 (RdG.farR P1.out (g := R) (mbA m ⟨b0, c0, b1, c1, b2, c2⟩) M1.out)
  have S2 := hide1 (RdG.farR P2.out (g := R) (mbA m ⟨b0, c0, b1, c1, b2, c2⟩) M2.out)
  have PP := hide1 (show RdMb (U3.setRow R (mbA m ⟨b0, c0, b1, c1, b2, c2⟩)) m ⟨b0, c0, b1, c1, b2, c2⟩ from ⟨S0.out.z, S1.out, S2.out.z⟩)
  go_wp2_with (first | (refine wpList_load_row rfl 38 _ rfl G rfl 38 (mbA m ⟨b0, c0, b1, c1, b2, c2⟩) (0, 0) _ K3.out.bx Tryz.underlying38 rfl sizeMb ?_) | (refine wpList_store_row rfl 38 _ _ rfl R (mbA m ⟨b0, c0, b1, c1, b2, c2⟩) rfl rfl 38 zMb K3.out.rs sizeMb rfl (oneMb m ⟨b0, c0, b1, c1, b2, c2⟩) ?_))
  refine bodyPost_ret (results_cell_row Tryz.results26 _ _ R 38 (mbA m ⟨b0, c0, b1, c1, b2, c2⟩) (0, 0) _ rfl HR.out Tryz.underlying38 rfl sizeMb) rfl ?_
  exact ⟨⟨b0, c0, b1, c1, b2, c2⟩, rfl, PP.out, ⟨V0.out, V1.out, V2.out⟩, BS.out⟩
end Go.Proofs.YtpjgplohlchpoaaGreatDoor
namespace Go.Proofs.YtpjgplohlchpoaaGreatDoor
open Go.RowKit
set_option linter.unusedVariables false

theorem wp_cpE {P : Program} {α : Type} {enc : α → List Value} {k : Nat} {t e : TypeId} {o : Oper} {a : Act} {w : World} {K : Act → World → Prop} {Q : Exit → Act → World → Prop} (E : EncK enc k) (R : RowK P t e k) (s x : Operand)
    (ho : o.op = .call { callee := .builtin .append, args := #[s, x], argTypes := #[t, t] }) (g : Nat) (hs : a.eval s = .slice (some ⟨g, 0, none⟩) 0 0) (ao : Option Addr) (m c : Nat) (l : List α) (hx : a.eval x = .slice ao m c) (hm : l.length = m) (hA : RdG enc k w ao l) (hlen : m ≤ 1048576)
    (h : ∀ b' c' w', RdG enc k w' b' l → Below w.heap.size w w' → (∀ b o, b' = some ⟨b, o, none⟩ → 0 < m → w.heap.size ≤ b) → m ≤ c' → K (a.put o.dst (.slice b' m c')) w') : o.wp P a w K Q := by
  obtain ⟨b', c', w', hrun, h1, h2, h3, h4⟩ := cpE_run E R w o.type g ao m c l hm hA hlen
  unfold Oper.wp
  simp only [execOp, ho, resolve, invoke, builtin, Sem.run_bind, Sem.run_pure, Result.andThen_ok, List.map_toArray, List.map_cons, List.map_nil, hs, hx, hrun]
  exact h b' c' w' h1 h2 h3 h4
def msV (x : Ms) (a : Option Addr) (c : Nat) : Value := .agg #[.int .i64 x.k, .int .i64 x.f, .int .i64 x.o, .int .i64 x.e, .int .i64 x.n, .slice a x.is.length c]
/-- One message in a row of its own. -/
theorem rd_oneM {w : World} {q : Nat} {y : Mv} (h : Blk w q 61 (mvC y)) (hi : RdG imC 3 w y.a y.m.is) : RdMs w (some ⟨q, 0, none⟩) [y] := ⟨rd_one encMv h, fun x hx => by rw [List.mem_singleton.1 hx]; exact hi⟩
/-- What the region of l14Bare reads and leaves. -/
theorem build_bare (m : Mb) (e : Int) (b : Option Addr) (c : Nat) : mbA (bareM m e) ⟨none, 0, b, c, none, 0⟩ = #[.int .i64 m.id, .int .i64 e, .bool false, .bool false, .bool false, .bool false, .slice none 0 0, .slice b m.is.length c, .int .i64 0, .int .i64 0, .int .i64 0, .int .i64 0, .string ⟨#[]⟩, .string ⟨#[]⟩, .int .i64 0, .slice none 0 0] := rfl
end Go.Proofs.YtpjgplohlchpoaaGreatDoor
