/- Rows of messages whose items are rows of their own: marked, and looked at for the marks. -/
import Derived.Test.YtpjgplohlchpoaaGreatDoorAdG
import Derived.Test.YtpjgplohlchpoaaGreatDoorUAJ
import Derived.Deep.RegionHeld3
import Derived.Test.YtpjgplohlchpoaaGreatDoorUAI
import Derived.Deep.DeepCutAuto
namespace Go.Proofs.YtpjgplohlchpoaaGreatDoor
open Go.RowKit
set_option linter.unusedVariables false

def mkM (q : Nat) (x : Mv) : Mv := ⟨⟨(q : Int), (q : Int) + 1, (q : Int) + 1 + 1, (q : Int) + 1 + 1 + 1, (q : Int) + 1 + 1 + 1 + 1, patG mIm 3 (q + 5) x.m.is.length⟩, x.a, x.c⟩
def mkMs : Nat → List Mv → List Mv
  | _, [] => []
  | q, x :: r => mkM q x :: mkMs (q + 5 + 3 * x.m.is.length) r
def mkK : Nat → List Mv → Nat
  | q, [] => q
  | q, x :: r => mkK (q + 5 + 3 * x.m.is.length) r
theorem mkMs_len : ∀ (D : List Mv) (q : Nat), (mkMs q D).length = D.length
  | [], _ => rfl
  | x :: r, q => by rw [mkMs, List.length_cons, List.length_cons, mkMs_len r]
theorem mkMs_app : ∀ (D : List Mv) (q : Nat) (x : Mv), mkMs q (D ++ [x]) = mkMs q D ++ [mkM (mkK q D) x]
  | [], _, _ => rfl
  | y :: r, q, x => by rw [List.cons_append, mkMs, mkMs_app r]; rfl
theorem mkK_app : ∀ (D : List Mv) (q : Nat) (x : Mv), mkK q (D ++ [x]) = mkK q D + 5 + 3 * x.m.is.length
  | [], _, _ => rfl
  | y :: r, q, x => by rw [List.cons_append, mkK, mkK_app r]; rfl
theorem mkK_ge : ∀ (D : List Mv) (q : Nat), q ≤ mkK q D
  | [], _ => Nat.le_refl _
  | y :: r, q => by rw [mkK]; have := mkK_ge r (q + 5 + 3 * y.m.is.length); omega
theorem mkK_cat : ∀ (D E : List Mv) (q : Nat), mkK q (D ++ E) = mkK (mkK q D) E
  | [], _, _ => rfl
  | y :: r, E, q => by rw [List.cons_append, mkK, mkK_cat r]; rfl
theorem mkK_take (D : List Mv) (q i : Nat) : mkK q (D.take i) ≤ mkK q D := by
  have h := mkK_cat (D.take i) (D.drop i) q
  rw [List.take_append_drop] at h
  rw [h]
  exact mkK_ge _ _
/-- Where a message's items lie. -/
def slM (x : Mv) : Value := .slice x.a x.m.is.length x.c
theorem mkM_sl (q : Nat) (x : Mv) : slM (mkM q x) = slM x := by unfold slM mkM; dsimp only; rw [patG_length]
theorem mkMs_sl : ∀ (D : List Mv) (q : Nat), (mkMs q D).map slM = D.map slM
  | [], _ => rfl
  | x :: r, q => by rw [mkMs, List.map_cons, List.map_cons, mkM_sl, mkMs_sl r]
theorem sl_at {D E : List Mv} (h : D.map slM = E.map slM) {i : Nat} (h1 : i < D.length) (h2 : i < E.length) : slM D[i] = slM E[i] := by
  have e : (D.map slM)[i]? = (E.map slM)[i]? := by rw [h]
  rw [List.getElem?_map, List.getElem?_map, List.getElem?_eq_getElem h1, List.getElem?_eq_getElem h2] at e
  simpa using e
theorem inD_sl {b : Option Addr} {c : Nat} {D E : List Mv} (h : D.map slM = E.map slM) {g : Nat} (hg : InD b c D g) : InD b c E g := by
  have hl : D.length = E.length := by have := congrArg List.length h; simpa using this
  rcases hg with h1 | ⟨x, hx, h1⟩
  · exact .inl (by rw [← hl]; exact h1)
  · have h2 : slM x ∈ E.map slM := by rw [← h]; exact List.mem_map.2 ⟨x, hx, rfl⟩
    obtain ⟨y, hy, e⟩ := List.mem_map.1 h2
    exact .inr ⟨y, hy, by show (slM y).ownBlock = _; rw [e]; exact h1⟩
theorem apart_sl {D E : List Mv} (h : D.map slM = E.map slM) (hd : E.Pairwise (fun x y => ∀ g, (Value.slice x.a x.m.is.length x.c).ownBlock = some g → (Value.slice y.a y.m.is.length y.c).ownBlock ≠ some g)) : D.Pairwise (fun x y => ∀ g, (Value.slice x.a x.m.is.length x.c).ownBlock = some g → (Value.slice y.a y.m.is.length y.c).ownBlock ≠ some g) := by
  have hl : D.length = E.length := by have := congrArg List.length h; simpa using this
  rw [List.pairwise_iff_getElem] at hd ⊢
  intro i j hi hj hij g h1 h2
  have e1 := sl_at h hi (by omega)
  have e2 := sl_at h hj (by omega)
  unfold slM at e1 e2
  rw [e1] at h1
  rw [e2] at h2
  exact hd i j (by omega) (by omega) hij g h1 h2
theorem n_sl {D E : List Mv} {b : Option Addr} {c : Nat} (h : D.map slM = E.map slM) (hn : ∀ x ∈ E, ∀ g, (Value.slice b E.length c).ownBlock = some g → (Value.slice x.a x.m.is.length x.c).ownBlock ≠ some g) : ∀ x ∈ D, ∀ g, (Value.slice b D.length c).ownBlock = some g → (Value.slice x.a x.m.is.length x.c).ownBlock ≠ some g := by
  have hl : D.length = E.length := by have := congrArg List.length h; simpa using this
  intro x hx g h1 h2
  have h3 : slM x ∈ E.map slM := by rw [← h]; exact List.mem_map.2 ⟨x, hx, rfl⟩
  obtain ⟨y, hy, e⟩ := List.mem_map.1 h3
  exact hn y hy g (by rw [← hl]; exact h1) (by have h4 : (slM x).ownBlock = some g := h2; rw [← e] at h4; exact h4)
theorem set_same {l : List Value} {j : Nat} {v : Value} (h : l[j]? = some v) : l.set j v = l := by
  apply List.ext_getElem?
  intro n
  rw [List.getElem?_set]
  split
  · rename_i e
    subst e
    split
    · rw [h]
    · rename_i hh; rw [List.getElem?_eq_none (by omega)]
  · rfl
theorem row5 (L : List Mv) (i : Nat) (h : i < L.length) (y : Mv) (hs : slM y = slM L[i]) :
    ((((((rowG mvC L).set (i * 6) (.int .i64 y.m.k)).set (i * 6 + 1) (.int .i64 y.m.f)).set (i * 6 + 2) (.int .i64 y.m.o)).set (i * 6 + 3) (.int .i64 y.m.e)).set (i * 6 + 4) (.int .i64 y.m.n)) = rowG mvC (L.set i y) := by
  rw [rowG_set mvC 6 encMv.len L i y h]
  show _ = ((((((rowG mvC L).set (i * 6) (.int .i64 y.m.k)).set (i * 6 + 1) (.int .i64 y.m.f)).set (i * 6 + 1 + 1) (.int .i64 y.m.o)).set (i * 6 + 1 + 1 + 1) (.int .i64 y.m.e)).set (i * 6 + 1 + 1 + 1 + 1) (.int .i64 y.m.n)).set (i * 6 + 1 + 1 + 1 + 1 + 1) (slM y)
  symm
  apply set_same
  have e := rowG_at mvC 6 encMv.len L i 5 h (by omega)
  rw [List.getElem?_set_ne (by omega), List.getElem?_set_ne (by omega), List.getElem?_set_ne (by omega), List.getElem?_set_ne (by omega), List.getElem?_set_ne (by omega), show i * 6 + 1 + 1 + 1 + 1 + 1 = i * 6 + 5 by omega, e, hs]
  rfl
set_option maxRecDepth 100000 in
set_option maxHeartbeats 4000000 in
theorem markMsgS_any (b : Option Addr) (c : Nat) (D : List Mv) (k B : Nat) (w : World) (hl : D.length ≤ 1048576) (hk0 : 0 < k) (hk : mkK k D ≤ 16777216) (hi : ∀ x ∈ D, x.m.is.length ≤ 1048576) (hB : B ≤ w.heap.size) (hO : OwnMs w B b c D) :
    Calls Tryz.prog 15 #[.slice b D.length c, .int .i64 (k : Int)] w fun e w' => e = .returned (.int .i64 (mkK k D : Int)) ∧ OwnMs w' B b c (mkMs k D) ∧ FrX (fun g => g < w.heap.size ∧ ¬ InD b c D g) w w' := by
  have HO := hide1 hO
  have HI := hide1 hi
  have HK := hide1 (mkK_take D k)
  clear hO hi
  obtain ⟨n, hn⟩ : ∃ n, n = D.length := ⟨_, rfl⟩
  have HN := hide1 hn
  rw [← hn] at hl ⊢
  clear hn
  go_enter Tryz.func15, Tryz.ntmps15
  go_wp2
  go_loopw [1, 5] (fun kv iv wr => ∃ (i kk : Nat) (E : List Mv), i ≤ n ∧ iv = .int .i64 (i : Int) ∧ kv = .int .i64 (kk : Int) ∧ 0 < kk ∧ kk ≤ 16777216 ∧ Hid (kk = mkK k (D.take i)) ∧ Hid (E = mkMs k (D.take i) ++ D.drop i) ∧ Hid (E.length = n) ∧ Hid (OwnMs wr B b c E) ∧ Hid (FrX (fun g => g < w.heap.size ∧ ¬ InD b c D g) w wr)) (fun _ iv _ => n - (intOf iv).toNat)
  case atStart => exact ⟨0, k, D, by omega, rfl, rfl, hk0, by have := HK.out 0; rw [List.take_zero] at this; exact Nat.le_trans this hk, hide1 rfl, hide1 rfl, hide1 HN.out.symm, HO, hide1 (FrX.refl _ _)⟩
  case round =>
    obtain ⟨i, kk, E, hin, rfl, rfl, hkp, hkm, HKK, HE, HEL, OW, FR⟩ := hrel
    by_cases hlt : i < n
    · have k1 : (i : Int) < (n : Int) := by omega
      have iD : i < D.length := by have := HN.out; omega
      have iE : i < E.length := by rw [HEL.out]; exact hlt
      have EI : E[i] = D[i] := by
        have h1 : (mkMs k (D.take i)).length = i := by rw [mkMs_len, List.length_take]; omega
        have h2 : E[i]? = D[i]? := by
          rw [HE.out, List.getElem?_append_right (by omega), h1, Nat.sub_self, List.getElem?_drop, Nat.add_zero]
        rw [List.getElem?_eq_getElem iE, List.getElem?_eq_getElem iD] at h2
        simpa using h2
      have HSL := hide1 (show E.map slM = D.map slM from by rw [HE.out, List.map_append, mkMs_sl, ← List.map_append, List.take_append_drop])
      obtain ⟨g, rfl, hbg⟩ : ∃ g, b = some ⟨g, 0, none⟩ ∧ B ≤ g := by
        rcases OW.out.o.2 with ⟨hv, h0⟩ | ⟨g, cap, cur, hv, hbg, hgg, _⟩
        · exfalso
          have h1 := rowG_length mvC 6 encMv.len E
          rw [h0] at h1
          simp at h1
          omega
        · exact ⟨g, by injection hv, hbg⟩
      have OWo := hide1 (show wr.ownsRow B 61 6 (.slice (some ⟨g, 0, none⟩) n c) n (rowG mvC E) from by have h := OW.out.o; rw [HEL.out] at h; exact h)
      have hxl : (rowG mvC E).length = n * 6 := by rw [rowG_length mvC 6 encMv.len, HEL.out]
      obtain ⟨y, hy⟩ : ∃ y, y = mkM kk D[i] := ⟨_, rfl⟩
      obtain ⟨u0, x0⟩ := own_some OWo.out (i * 6) (by omega)
      have f0 := OWo.out.frozenAt (i * 6)
      have OW0 := hide1 (World.ownsRow.stored OWo.out (i * 6) (.int .i64 ((kk : Int)))).1
      have BW0 := hide1 (gset (World.grownBy.refl wr (some g)) (i * 6) (.int .i64 ((kk : Int))))
      obtain ⟨u1, x1⟩ := own_some OW0.out (i * 6 + 1) (by omega)
      have f1 := OW0.out.frozenAt (i * 6 + 1)
      have OW1 := hide1 (World.ownsRow.stored OW0.out (i * 6 + 1) (.int .i64 ((kk : Int) + 1))).1
      have BW1 := hide1 (gset BW0.out (i * 6 + 1) (.int .i64 ((kk : Int) + 1)))
      obtain ⟨u2, x2⟩ := own_some OW1.out (i * 6 + 2) (by omega)
      have f2 := OW1.out.frozenAt (i * 6 + 2)
      have OW2 := hide1 (World.ownsRow.stored OW1.out (i * 6 + 2) (.int .i64 ((kk : Int) + 1 + 1))).1
      have BW2 := hide1 (gset BW1.out (i * 6 + 2) (.int .i64 ((kk : Int) + 1 + 1)))
      obtain ⟨u3, x3⟩ := own_some OW2.out (i * 6 + 3) (by omega)
      have f3 := OW2.out.frozenAt (i * 6 + 3)
      have OW3 := hide1 (World.ownsRow.stored OW2.out (i * 6 + 3) (.int .i64 ((kk : Int) + 1 + 1 + 1))).1
      have BW3 := hide1 (gset BW2.out (i * 6 + 3) (.int .i64 ((kk : Int) + 1 + 1 + 1)))
      obtain ⟨u4, x4⟩ := own_some OW3.out (i * 6 + 4) (by omega)
      have f4 := OW3.out.frozenAt (i * 6 + 4)
      have OW4 := hide1 (World.ownsRow.stored OW3.out (i * 6 + 4) (.int .i64 ((kk : Int) + 1 + 1 + 1 + 1))).1
      have BW4 := hide1 (gset BW3.out (i * 6 + 4) (.int .i64 ((kk : Int) + 1 + 1 + 1 + 1)))
      have ysl : slM y = slM E[i] := by rw [hy, mkM_sl, EI]
      have R5 := row5 E i iE y ysl
      have e5 : (((((((rowG mvC E).set (i * 6) (.int .i64 ((kk : Int)))).set (i * 6 + 1) (.int .i64 ((kk : Int) + 1))).set (i * 6 + 2) (.int .i64 ((kk : Int) + 1 + 1))).set (i * 6 + 3) (.int .i64 ((kk : Int) + 1 + 1 + 1))).set (i * 6 + 4) (.int .i64 ((kk : Int) + 1 + 1 + 1 + 1)))) = rowG mvC (E.set i y) := by rw [← R5, hy]; rfl
      have OW5 := OW4.out
      rw [e5] at OW5
      have RD5 := rdG_of_own encMv.len OW5 (by rw [List.length_set, HEL.out])
      obtain ⟨_, _, e7, _, hc7⟩ := RD5 i (by rw [List.length_set]; exact iE)
      have h75 := hc7 5 (by omega)
      injection e7 with e7
      injection e7 with e71 e72
      subst e71 e72
      rw [List.getElem_set_self] at h75
      have ib := OW.out.r E[i] (List.getElem_mem iE)
      have ine := OW.out.n E[i] (List.getElem_mem iE)
      rw [EI] at ib ine
      have isz := HI.out D[i] (List.getElem_mem iD)
      have iby := hide1 (gown BW4.out ib (fun q h1 h2 => ine q (by rw [← h2]; rfl) h1))
      have KN := hide1 (show mkK k (D.take (i + 1)) = kk + 5 + 3 * D[i].m.is.length from by rw [List.take_succ_eq_append_getElem iD, mkK_app, HKK.out])
      have KL := hide1 (show kk + 5 + 3 * D[i].m.is.length ≤ 16777216 from by rw [← KN.out]; exact Nat.le_trans (HK.out _) hk)
      have TK := hide1 (List.take_succ_eq_append_getElem iD)
      have DR := hide1 (List.drop_eq_getElem_cons iD)
      have HY := hide1 hy
      have EIh := hide1 EI
      have XM := hide1 (List.getElem_mem iD)
      have x5 : _ = some (Value.slice D[i].a D[i].m.is.length D[i].c) := h75.trans (by show some (slM y) = _; rw [hy, mkM_sl]; rfl)
      rw [show 0 + i * 6 + 5 = i * 6 + 5 by omega] at x5
      have O5 := hide1 OW5
      have INE := hide1 ine
      clear hy R5 e5 OW5 RD5 hc7 h75 ib ine EI OW0 OW1 OW2 OW3 OW4 BW0 BW1 BW2 BW3 OWo hxl ysl
      generalize D[i] = x at *
      have CI := hide1 (fun (z : Int) (hz : z = ((kk + 5 : Nat) : Int)) => (show Calls Tryz.prog 39 #[.slice x.a x.m.is.length x.c, .int .i64 z] _ _ from by subst hz; exact markItemS_any (.slice x.a x.m.is.length x.c) x.m.is.length (kk + 5) (rowG imC x.m.is) B _ isz (by have := KL.out; omega) (by omega) iby.out))
      go_wp2_with fail
      refine (CI.out _ (by omega)).mono ?_
      rintro e w6 ⟨rfl, ho6, hg6⟩
      have O6 := hide1 ho6
      have G6 := hide1 hg6
      rw [show (((kk + 5 : Nat) : Int) + 3 * (x.m.is.length : Int)) = ((kk + 5 + 3 * x.m.is.length : Nat) : Int) by omega]
      clear ho6 hg6 CI x0 x1 x2 x3 x4 x5 f0 f1 f2 f3 f4
      go_wp2
      go_roundw
      case rel =>
        have hp : (mkMs k (D.take i)).length = i := by rw [mkMs_len, List.length_take]; omega
        have ysl : slM y = slM E[i] := by rw [HY.out, mkM_sl, EIh.out]
        have HS2 : (E.set i y).map slM = E.map slM := by
          rw [List.map_set, ysl]
          apply List.ext_getElem?
          intro q
          rw [List.getElem?_set]
          split
          · rename_i e; subst e
            split
            · rw [List.getElem?_map, List.getElem?_eq_getElem iE]; rfl
            · rename_i h; rw [List.length_map] at h; exact absurd iE h
          · rfl
        have BG := BW4.out
        have sz := BG.size
        refine ⟨i + 1, kk + 5 + 3 * x.m.is.length, E.set i y, by omega, by go_num, rfl, by omega, KL.out, hide1 KN.out.symm, hide1 ?_, hide1 (by rw [List.length_set]; exact HEL.out), hide1 ⟨?_, fun z hz => ?_, apart_sl HS2 OW.out.d, n_sl HS2 OW.out.n⟩, hide1 (FR.out.trans ((FrX.grown BG (fun q hq => ⟨Nat.lt_of_lt_of_le hq.1 FR.out.size, fun e => hq.2 (.inl (by injection e with e; rw [← e]; rfl))⟩)).trans (FrX.grown G6.out (fun q hq => ⟨Nat.lt_of_lt_of_le hq.1 (Nat.le_trans FR.out.size sz), fun e => hq.2 (.inr ⟨x, XM.out, e⟩)⟩))))⟩
        · rw [show E.set i y = (mkMs k (D.take i) ++ D.drop i).set i y by rw [← HE.out], DR.out, List.set_append_right _ _ (by omega), hp, Nat.sub_self, List.set_cons_zero, TK.out, mkMs_app, ← HKK.out, ← HY.out, List.append_assoc]
          rfl
        · rw [List.length_set, HEL.out]
          exact gown G6.out O5.out (fun q hq e => INE.out q (by rw [HEL.out]; exact hq) e)
        · obtain ⟨a, ha, rfl⟩ := List.getElem_of_mem hz
          rw [List.length_set] at ha
          rw [List.getElem_set]
          split
          · rw [HY.out]
            unfold mkM
            dsimp only
            rw [patG_length]
            exact O6.out
          · rename_i hia
            refine gown G6.out (gown BG (OW.out.r E[a] (List.getElem_mem ha)) (fun q h1 h2 => OW.out.n E[a] (List.getElem_mem ha) q (by rw [← h2]; rfl) h1)) (fun q h1 h2 => ?_)
            have hd := List.pairwise_iff_getElem.1 OW.out.d
            rcases Nat.lt_or_gt_of_ne hia with h | h
            · exact hd i a iE ha h q (by rw [EIh.out]; exact h2) h1
            · exact hd a i ha iE h q h1 (by rw [EIh.out]; exact h2)
      case measure => simp [intOf] <;> omega
    · obtain rfl : i = n := by omega
      go_wp2
      go_ret
      have h1 : D.take i = D := by rw [HN.out, List.take_length]
      refine ⟨by rw [HKK.out, h1]; rfl, ?_, FR.out⟩
      have h2 := HE.out
      rw [h1, HN.out, List.drop_length, List.append_nil] at h2
      rw [← h2]
      exact OW.out
theorem mkMs_at : ∀ (D : List Mv) (q i : Nat) (h : i < D.length) (h2 : i < (mkMs q D).length), (mkMs q D)[i] = mkM (mkK q (D.take i)) D[i]
  | [], _, _, h, _ => absurd h (by simp)
  | x :: r, q, 0, _, _ => rfl
  | x :: r, q, i + 1, h, h2 => mkMs_at r (q + 5 + 3 * x.m.is.length) i (by simpa using h) (by simpa [mkMs] using h2)
set_option maxRecDepth 100000 in
set_option maxHeartbeats 4000000 in
theorem heldMsgS_any (b : Option Addr) (c : Nat) (D : List Mv) (k : Nat) (w : World) (hl : D.length ≤ 1048576) (hk0 : 0 < k) (hk : mkK k D ≤ 16777216) (hi : ∀ x ∈ D, x.m.is.length ≤ 1048576) (hA : RdMs w b (mkMs k D)) :
    Calls Tryz.prog 17 #[.slice b D.length c, .int .i64 (k : Int)] w fun e w' => e = .returned (.int .i64 (mkK k D : Int)) ∧ Below w.heap.size w w' := by
  have HA := hide1 hA
  have HI := hide1 hi
  have HK := hide1 (mkK_take D k)
  clear hA hi
  obtain ⟨n, hn⟩ : ∃ n, n = D.length := ⟨_, rfl⟩
  have HN := hide1 hn
  rw [← hn] at hl ⊢
  clear hn
  go_enter Tryz.func17, Tryz.ntmps17
  go_wp2
  go_loopw [1, 5] (fun kv iv wr => ∃ i kk : Nat, i ≤ n ∧ iv = .int .i64 (i : Int) ∧ kv = .int .i64 (kk : Int) ∧ Hid (kk = mkK k (D.take i)) ∧ 0 < kk ∧ kk ≤ 16777216 ∧ Hid (Below w.heap.size w wr)) (fun _ iv _ => n - (intOf iv).toNat)
  case atStart => exact ⟨0, k, by omega, rfl, rfl, hide1 rfl, hk0, by have := HK.out 0; rw [List.take_zero] at this; exact Nat.le_trans this hk, hide1 (Below.refl _ _)⟩
  case round =>
    obtain ⟨i, kk, hin, rfl, rfl, hkk, hkp, hkm, BB⟩ := hrel
    by_cases hlt : i < n
    · have k1 : (i : Int) < (n : Int) := by omega
      have iD : i < D.length := by have := HN.out; omega
      have iM : i < (mkMs k D).length := by rw [mkMs_len]; exact iD
      obtain ⟨g, q, rfl, hg, h1⟩ := HA.out.r i iM
      have at_ := mkMs_at D k i iD iM
      rw [at_, ← hkk.out] at h1
      have hit := HA.out.i _ (List.getElem_mem iM)
      rw [at_, ← hkk.out] at hit
      have isz := HI.out D[i] (List.getElem_mem iD)
      have KN := hide1 (show mkK k (D.take (i + 1)) = kk + 5 + 3 * D[i].m.is.length from by rw [List.take_succ_eq_append_getElem iD, mkK_app, hkk.out])
      have KL := hide1 (show kk + 5 + 3 * D[i].m.is.length ≤ 16777216 from by rw [← KN.out]; exact Nat.le_trans (HK.out _) hk)
      clear at_
      generalize D[i] = x at *
      have hgr : g < wr.heap.size := Nat.lt_of_lt_of_le hg BB.out.size
      have M0 := hide1 (show w.cell? ⟨g, q + i * 6, none⟩ = some (.int .i64 ((kk : Int))) from h1 0 (by omega))
      have e0 : ((kk : Int) != (kk : Int)) = false := by simp
      have M1 := hide1 (show w.cell? ⟨g, q + i * 6 + 1, none⟩ = some (.int .i64 ((kk : Int) + 1)) from h1 1 (by omega))
      have e1 : ((kk : Int) + 1 != (kk : Int) + 1) = false := by simp
      have M2 := hide1 (show w.cell? ⟨g, q + i * 6 + 2, none⟩ = some (.int .i64 ((kk : Int) + 1 + 1)) from h1 2 (by omega))
      have e2 : ((kk : Int) + 1 + 1 != (kk : Int) + 1 + 1) = false := by simp
      have M3 := hide1 (show w.cell? ⟨g, q + i * 6 + 3, none⟩ = some (.int .i64 ((kk : Int) + 1 + 1 + 1)) from h1 3 (by omega))
      have e3 : ((kk : Int) + 1 + 1 + 1 != (kk : Int) + 1 + 1 + 1) = false := by simp
      have M4 := hide1 (show w.cell? ⟨g, q + i * 6 + 4, none⟩ = some (.int .i64 ((kk : Int) + 1 + 1 + 1 + 1)) from h1 4 (by omega))
      have e4 : ((kk : Int) + 1 + 1 + 1 + 1 != (kk : Int) + 1 + 1 + 1 + 1) = false := by simp
      have M5 := hide1 (show w.cell? ⟨g, q + i * 6 + 5, none⟩ = some (.slice x.a x.m.is.length x.c) from by have h := h1 5 (by omega); exact h.trans (by show some (slM (mkM kk x)) = _; rw [mkM_sl]; rfl))
      have x5 : wr.cell? ⟨g, q + i * 6 + 5, none⟩ = some (.slice x.a x.m.is.length x.c) := (BB.out.cell (p := ⟨g, q + i * 6 + 5, none⟩) hg).trans M5.out
      have x0 : wr.cell? ⟨g, q + i * 6, none⟩ = some (.int .i64 ((kk : Int))) := (BB.out.cell (p := ⟨g, q + i * 6, none⟩) hg).trans M0.out
      have x1 : wr.cell? ⟨g, q + i * 6 + 1, none⟩ = some (.int .i64 ((kk : Int) + 1)) := (BB.out.cell (p := ⟨g, q + i * 6 + 1, none⟩) hg).trans M1.out
      have x2 : wr.cell? ⟨g, q + i * 6 + 2, none⟩ = some (.int .i64 ((kk : Int) + 1 + 1)) := (BB.out.cell (p := ⟨g, q + i * 6 + 2, none⟩) hg).trans M2.out
      have x3 : wr.cell? ⟨g, q + i * 6 + 3, none⟩ = some (.int .i64 ((kk : Int) + 1 + 1 + 1)) := (BB.out.cell (p := ⟨g, q + i * 6 + 3, none⟩) hg).trans M3.out
      have x4 : wr.cell? ⟨g, q + i * 6 + 4, none⟩ = some (.int .i64 ((kk : Int) + 1 + 1 + 1 + 1)) := (BB.out.cell (p := ⟨g, q + i * 6 + 4, none⟩) hg).trans M4.out
      have CI := hide1 (fun (z : Int) (hz : z = ((kk + 5 : Nat) : Int)) => (show Calls Tryz.prog 42 #[.slice x.a x.m.is.length x.c, .int .i64 z] wr _ from by subst hz; exact heldItemS_any x.a x.m.is.length x.c (kk + 5) wr isz (by have := KL.out; omega) (by omega) (RdG.later hit BB.out)))
      have BH := hide1 BB.out
      clear h1 hit M0 M1 M2 M3 M4 M5
      go_wp2_with fail
      refine (CI.out _ (by omega)).mono ?_
      rintro e w6 ⟨rfl, hb6⟩
      rw [show (((kk + 5 : Nat) : Int) + 3 * (x.m.is.length : Int)) = ((kk + 5 + 3 * x.m.is.length : Nat) : Int) by omega]
      have B6 := hide1 (BB.out.trans (hb6.mono BB.out.size))
      have kn : ¬ (((kk + 5 + 3 * x.m.is.length : Nat) : Int) < 0) := by omega
      clear hb6 CI x0 x1 x2 x3 x4 x5
      go_wp2
      go_roundw
      case rel => exact ⟨i + 1, kk + 5 + 3 * x.m.is.length, by omega, by go_num, rfl, hide1 KN.out.symm, by omega, KL.out, B6⟩
      case measure => simp [intOf] <;> omega
    · obtain rfl : i = n := by omega
      go_wp2
      go_ret
      have h1 : D.take i = D := by rw [HN.out, List.take_length]
      exact ⟨by rw [hkk.out, h1]; rfl, BB.out⟩
end Go.Proofs.YtpjgplohlchpoaaGreatDoor
namespace Go.Proofs.YtpjgplohlchpoaaGreatDoor
open Go.ChangeShapes Go.WideShapes Go.ChangeAt Go.RowKit Go.Deep Go.Joins
set_option linter.unusedVariables false

set_option maxRecDepth 100000 in
set_option maxHeartbeats 1000000 in
theorem eqMsg_same (k f o e n : Int) (l : List Im) (a b : Option Addr) (ca cb : Nat) (w : World) (hl : l.length ≤ 1048576) (hA : RdG imC 3 w a l) (hB : RdG imC 3 w b l) :
    Calls Tryz.prog 37 #[.agg #[.int .i64 k, .int .i64 f, .int .i64 o, .int .i64 e, .int .i64 n, .slice a l.length ca], .agg #[.int .i64 k, .int .i64 f, .int .i64 o, .int .i64 e, .int .i64 n, .slice b l.length cb]] w fun r w' => r = .returned (.bool true) ∧ Below w.heap.size w w' := by
  have F0 := hide1 (blkN2 w #[.int .i64 k, .int .i64 f, .int .i64 o, .int .i64 e, .int .i64 n, .slice a l.length ca] #[.int .i64 k, .int .i64 f, .int .i64 o, .int .i64 e, .int .i64 n, .slice b l.length cb] 61 61)
  have CN := hide1 (fun w' (h : Below w.heap.size w w') => eqItemS_same a b l ca cb w' hl (hA.later h) (hB.later h))
  clear hA hB
  have q0 : (k != k) = false := by simp
  have q1 : (f != f) = false := by simp
  have q2 : (o != o) = false := by simp
  have q3 : (e != e) = false := by simp
  have q4 : (n != n) = false := by simp
  go_enter Tryz.func37, Tryz.ntmps37
  go_wp2_with fail
  generalize ((w.alloc (.cells #[.int .i64 k, .int .i64 f, .int .i64 o, .int .i64 e, .int .i64 n, .slice a l.length ca] 61)).alloc (.cells #[.int .i64 k, .int .i64 f, .int .i64 o, .int .i64 e, .int .i64 n, .slice b l.length cb] 61)) = u at F0 ⊢
  refine (CN.out u F0.out.2.2).mono ?_
  rintro r w1 ⟨rfl, hb1⟩
  go_wp2
  go_ret
  exact ⟨rfl, F0.out.2.2.trans (hb1.mono F0.out.2.2.size)⟩
end Go.Proofs.YtpjgplohlchpoaaGreatDoor
