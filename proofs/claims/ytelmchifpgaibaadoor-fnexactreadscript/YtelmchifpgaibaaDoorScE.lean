/- The model's l17Event: the event of a line. -/
import Derived.Test.YtelmchifpgaibaaDoorSAM
import Derived.Deep.RegionHeld3
namespace Go.Proofs.YtelmchifpgaibaaDoor
open Go.RowKit
set_option linter.unusedVariables false

theorem isWView {x : ByteArray} (h : x = wView) : x.toList = [118, 105, 101, 119] ∧ (x.toList == [118, 105, 101, 119]) = true := by subst h; rw [ByteArray.toList_eq]; exact ⟨rfl, rfl⟩
theorem noWView {x : ByteArray} (h : ¬ x = wView) : ¬ x.toList = [118, 105, 101, 119] ∧ (x.toList == [118, 105, 101, 119]) = false := by
  have e : ¬ x.toList = [118, 105, 101, 119] := fun e => h (textEq (by rw [e]; rw [ByteArray.toList_eq]; rfl))
  exact ⟨e, by simpa using e⟩
theorem isWPut {x : ByteArray} (h : x = wPut) : x.toList = [112, 117, 116] ∧ (x.toList == [112, 117, 116]) = true := by subst h; rw [ByteArray.toList_eq]; exact ⟨rfl, rfl⟩
theorem noWPut {x : ByteArray} (h : ¬ x = wPut) : ¬ x.toList = [112, 117, 116] ∧ (x.toList == [112, 117, 116]) = false := by
  have e : ¬ x.toList = [112, 117, 116] := fun e => h (textEq (by rw [e]; rw [ByteArray.toList_eq]; rfl))
  exact ⟨e, by simpa using e⟩
theorem isWGet {x : ByteArray} (h : x = wGet) : x.toList = [103, 101, 116] ∧ (x.toList == [103, 101, 116]) = true := by subst h; rw [ByteArray.toList_eq]; exact ⟨rfl, rfl⟩
theorem noWGet {x : ByteArray} (h : ¬ x = wGet) : ¬ x.toList = [103, 101, 116] ∧ (x.toList == [103, 101, 116]) = false := by
  have e : ¬ x.toList = [103, 101, 116] := fun e => h (textEq (by rw [e]; rw [ByteArray.toList_eq]; rfl))
  exact ⟨e, by simpa using e⟩
theorem isWDeliver {x : ByteArray} (h : x = wDeliver) : x.toList = [100, 101, 108, 105, 118, 101, 114] ∧ (x.toList == [100, 101, 108, 105, 118, 101, 114]) = true := by subst h; rw [ByteArray.toList_eq]; exact ⟨rfl, rfl⟩
theorem noWDeliver {x : ByteArray} (h : ¬ x = wDeliver) : ¬ x.toList = [100, 101, 108, 105, 118, 101, 114] ∧ (x.toList == [100, 101, 108, 105, 118, 101, 114]) = false := by
  have e : ¬ x.toList = [100, 101, 108, 105, 118, 101, 114] := fun e => h (textEq (by rw [e]; rw [ByteArray.toList_eq]; rfl))
  exact ⟨e, by simpa using e⟩
theorem isWDrop {x : ByteArray} (h : x = wDrop) : x.toList = [100, 114, 111, 112] ∧ (x.toList == [100, 114, 111, 112]) = true := by subst h; rw [ByteArray.toList_eq]; exact ⟨rfl, rfl⟩
theorem noWDrop {x : ByteArray} (h : ¬ x = wDrop) : ¬ x.toList = [100, 114, 111, 112] ∧ (x.toList == [100, 114, 111, 112]) = false := by
  have e : ¬ x.toList = [100, 114, 111, 112] := fun e => h (textEq (by rw [e]; rw [ByteArray.toList_eq]; rfl))
  exact ⟨e, by simpa using e⟩
theorem isWCopy {x : ByteArray} (h : x = wCopy) : x.toList = [99, 111, 112, 121] ∧ (x.toList == [99, 111, 112, 121]) = true := by subst h; rw [ByteArray.toList_eq]; exact ⟨rfl, rfl⟩
theorem noWCopy {x : ByteArray} (h : ¬ x = wCopy) : ¬ x.toList = [99, 111, 112, 121] ∧ (x.toList == [99, 111, 112, 121]) = false := by
  have e : ¬ x.toList = [99, 111, 112, 121] := fun e => h (textEq (by rw [e]; rw [ByteArray.toList_eq]; rfl))
  exact ⟨e, by simpa using e⟩
theorem isWAdopt {x : ByteArray} (h : x = wAdopt) : x.toList = [97, 100, 111, 112, 116] ∧ (x.toList == [97, 100, 111, 112, 116]) = true := by subst h; rw [ByteArray.toList_eq]; exact ⟨rfl, rfl⟩
theorem noWAdopt {x : ByteArray} (h : ¬ x = wAdopt) : ¬ x.toList = [97, 100, 111, 112, 116] ∧ (x.toList == [97, 100, 111, 112, 116]) = false := by
  have e : ¬ x.toList = [97, 100, 111, 112, 116] := fun e => h (textEq (by rw [e]; rw [ByteArray.toList_eq]; rfl))
  exact ⟨e, by simpa using e⟩
theorem isWFall {x : ByteArray} (h : x = wFall) : x.toList = [102, 97, 108, 108] ∧ (x.toList == [102, 97, 108, 108]) = true := by subst h; rw [ByteArray.toList_eq]; exact ⟨rfl, rfl⟩
theorem noWFall {x : ByteArray} (h : ¬ x = wFall) : ¬ x.toList = [102, 97, 108, 108] ∧ (x.toList == [102, 97, 108, 108]) = false := by
  have e : ¬ x.toList = [102, 97, 108, 108] := fun e => h (textEq (by rw [e]; rw [ByteArray.toList_eq]; rfl))
  exact ⟨e, by simpa using e⟩
def evWords : List ByteArray := [wDeliver, wDrop, wCopy, wAdopt, wFall]
theorem evOf_put {p : List ByteArray} (h4 : p.length = 4) (hx : p[0] = wPut) : evOf p = if rdB p[1] = true then some ⟨1, numOf p[1], 0, 1, p[2], p[3]⟩ else none := by
  rcases p with _ | ⟨w, _ | ⟨n, _ | ⟨k, _ | ⟨v, _ | ⟨z, r⟩⟩⟩⟩⟩ <;> simp at h4
  have hw : w = wPut := hx
  simp [evOf, hw]
theorem evOf_get {p : List ByteArray} (h3 : p.length = 3) (hx : p[0] = wGet) : evOf p = if rdB p[1] = true then some ⟨1, numOf p[1], 0, 2, p[2], ⟨#[]⟩⟩ else none := by
  rcases p with _ | ⟨w, _ | ⟨n, _ | ⟨k, _ | ⟨z, r⟩⟩⟩⟩ <;> simp at h3
  have hw : w = wGet := hx
  simp [evOf, hw]
def kindEv (i : Nat) (x : Int) : Ev := if i ≤ 2 then ⟨(i : Int) + 2, 1, x, 0, ⟨#[]⟩, ⟨#[]⟩⟩ else ⟨(i : Int) + 2, x, 0, 0, ⟨#[]⟩, ⟨#[]⟩⟩
theorem evOf_word {p : List ByteArray} (h2 : p.length = 2) {i : Nat} (hi : i < evWords.length) (hx : evWords[i] = p[0]) : evOf p = if rdB p[1] = true then some (kindEv i (numOf p[1])) else none := by
  rcases p with _ | ⟨w, _ | ⟨n, _ | ⟨k, r⟩⟩⟩ <;> simp at h2
  have hi2 : i < 5 := hi
  obtain rfl | rfl | rfl | rfl | rfl : i = 0 ∨ i = 1 ∨ i = 2 ∨ i = 3 ∨ i = 4 := by omega
  all_goals
    have hw : w = _ := hx.symm
    subst hw
    rfl
theorem evOf_none {p : List ByteArray} (h0 : 0 < p.length) (h1 : ¬ (p[0] = wPut ∧ p.length = 4)) (h2 : ¬ (p[0] = wGet ∧ p.length = 3)) (h3 : ∀ j (h : j < evWords.length), ¬ (evWords[j] = p[0] ∧ p.length = 2)) : evOf p = none := by
  rcases p with _ | ⟨w, _ | ⟨n, _ | ⟨k, _ | ⟨v, _ | ⟨z, r⟩⟩⟩⟩⟩
  · exact absurd h0 (by decide)
  · rfl
  · have a0 : ¬ w = wDeliver := fun e => h3 0 (by decide) ⟨e.symm, rfl⟩
    have a1 : ¬ w = wDrop := fun e => h3 1 (by decide) ⟨e.symm, rfl⟩
    have a2 : ¬ w = wCopy := fun e => h3 2 (by decide) ⟨e.symm, rfl⟩
    have a3 : ¬ w = wAdopt := fun e => h3 3 (by decide) ⟨e.symm, rfl⟩
    have a4 : ¬ w = wFall := fun e => h3 4 (by decide) ⟨e.symm, rfl⟩
    simp [evOf, a0, a1, a2, a3, a4]
  · have a : ¬ w = wGet := fun e => h2 ⟨e, rfl⟩
    simp [evOf, a]
  · have a : ¬ w = wPut := fun e => h1 ⟨e, rfl⟩
    simp [evOf, a]
  · rfl
theorem resE2 {P : Program} {fn : Func} {p u : Tmp} {ty : TypeId} (h : fn.results = #[.cell p ty, .tmp u]) (tmps : Array Value) (w : World) (g : Nat) (t : TypeId) (cs : Array Value) (fr : Nat × Nat) (d : TypeDesc)
    (hp : tmps.getD p undef = .pointer (some ⟨g, 0, none⟩)) (hg : w.heap[g]? = some (.cells cs t fr))
    (hu : P.underlying ty = some d) (hd : (match d with | .struct _ | .array _ _ => true | _ => false) = true) (hi : (P.info? ty).map (·.size) = some cs.size) :
    (results fn tmps).run P w = .ok (.tuple #[.agg cs, tmps.getD u undef]) w := by
  have hp' : tmps[p]?.getD undef = .pointer (some ⟨g, 0, none⟩) := by simpa using hp
  simp [results, h, hp', asAddr, run_loadVar_row w g t ty cs fr d hg hu hd hi]
theorem sizeEv : (Tryd.prog.info? 40).map (·.size) = some 6 := by kernel_rfl
theorem rd0 {w : World} {g o : Nat} {l : List ByteArray} (h : RdQ w (some ⟨g, o, none⟩) l) (i : Nat) (hi : i < l.length) : w.cell? ⟨g, o + i, none⟩ = some (.string l[i]) := by
  obtain ⟨b, o', e, _, hc⟩ := h i hi
  injection e with e
  injection e with e1 e2
  subst e1 e2
  exact hc

set_option maxRecDepth 100000 in
set_option maxHeartbeats 4000000 in
theorem specEvent_any (a : Option Addr) (p : List ByteArray) (ca : Nat) (w : World) (hl : 1 ≤ p.length) (hl2 : p.length ≤ 10) (hs : ∀ x ∈ p, x.size ≤ 4000) (hA : RdQ w a p) :
    Calls Tryd.prog 16 #[.slice a p.length ca] w fun e w' => (∃ x : Ev, e = .returned (.tuple #[.agg #[.int .i64 x.k, .int .i64 x.n, .int .i64 x.pl, .int .i64 x.op, .string x.key, .string x.val], .bool (evOf p).isSome]) ∧ ∀ y, evOf p = some y → x = y) ∧ Below w.heap.size w w' := by
  obtain ⟨g, o, rfl, hg, _⟩ := hA 0 (by omega)
  have HA := hide1 hA
  have CR := hide1 (fun (i : Nat) (h : i < p.length) w' => specReadDec_any p[i] w' (by have := hs _ (List.getElem_mem h); omega))
  have NONE := hide1 (evOf_none (p := p) hl)
  clear hA hs
  obtain ⟨n, hn⟩ : ∃ n, n = p.length := ⟨_, rfl⟩
  rw [← hn]
  have HN := hide1 hn
  have k2 : (0 : Int) < (n : Int) := by omega
  have k3 : 0 < n := by omega
  clear hn
  have F0 := hide1 (And.intro (Blk.new w 40 #[.int .i64 0, .int .i64 0, .int .i64 0, .int .i64 0, .string ⟨#[]⟩, .string ⟨#[]⟩]) ((Below.refl w.heap.size w).alloc (Nat.le_refl _) (.cells #[.int .i64 0, .int .i64 0, .int .i64 0, .int .i64 0, .string ⟨#[]⟩, .string ⟨#[]⟩] 40)))
  go_enter Tryd.func16, Tryd.ntmps16
  go_upto_region 1 with fail
  generalize (w.alloc (.cells #[.int .i64 0, .int .i64 0, .int .i64 0, .int .i64 0, .string ⟨#[]⟩, .string ⟨#[]⟩] 40)) = u at F0 ⊢
  obtain ⟨X, hX⟩ : ∃ G, G = w.heap.size := ⟨_, rfl⟩
  have KX := hide1 F0.out.1
  rw [← hX] at KX ⊢
  have E0 := hide1 F0.out.2
  rw [← hX] at E0
  have hgX : g < X := by rw [hX]; exact hg
  have RD := hide1 (HA.out.below E0.out (fun b f e _ => by injection e with e; injection e with e; omega))
  have HXW := hide1 hX
  clear F0 hX HA hg
  have x0 : u.cell? ⟨g, o, none⟩ = some (.string p[0]) := rd0 RD.out 0 (by omega)
  have hgu : g < u.heap.size := (have h1 := E0.out.size; have h2 := HXW.out; by omega)
  have hXu : X < u.heap.size := KX.out.lt
  have ngX : ¬ g = X := by omega
  have nXg : ¬ X = g := by omega
  by_cases c1 : p[0] = wPut ∧ p.length = 4
  · obtain ⟨c1, c4⟩ := c1
    obtain rfl : n = 4 := HN.out.trans c4
    clear HN k2 k3
    have RES := hide1 (evOf_put c4 c1)
    obtain ⟨q1, q1b⟩ := isWPut c1
    have x1 : u.cell? ⟨g, o + 1, none⟩ = some (.string p[1]) := rd0 RD.out 1 (by omega)
    have x2 : u.cell? ⟨g, o + 2, none⟩ = some (.string p[2]) := rd0 RD.out 2 (by omega)
    have x3 : u.cell? ⟨g, o + 3, none⟩ = some (.string p[3]) := rd0 RD.out 3 (by omega)
    have C := hide1 (CR.out 1 (by omega))
    clear CR NONE c1
    cases hx2 : rdB p[1] with
    | true =>
      have HY := hide1 (show rdDec p[1] = .tuple #[.int .i64 (numOf p[1]), .bool true] by unfold rdDec; rw [hx2]; rfl)
      rw [HY.out] at C
      rw [if_pos hx2] at RES
      clear HY hx2
      generalize numOf p[1] = z at *
      go_wp2_with fail
      refine (C.out _).mono ?_
      rintro e w5 ⟨rfl, hb5⟩
      have y2 := (hb5.cell (p := ⟨g, o + 2, none⟩) hgu).trans x2
      have y3 := (hb5.cell (p := ⟨g, o + 3, none⟩) hgu).trans x3
      have K5 := hide1 (KX.out.below hb5 hXu)
      have E5 := hide1 (E0.out.trans (hb5.mono (Nat.le_of_lt hXu)))
      have z0 : w5.cell? ⟨X, 0, none⟩ = some (.int .i64 0) := K5.out.cell 0
      have f0 : w5.frozen? ⟨X, 0, none⟩ = false := K5.out.froz 0
      have z1 : w5.cell? ⟨X, 1, none⟩ = some (.int .i64 0) := K5.out.cell 1
      have f1 : w5.frozen? ⟨X, 1, none⟩ = false := K5.out.froz 1
      have z2 : w5.cell? ⟨X, 2, none⟩ = some (.int .i64 0) := K5.out.cell 2
      have f2 : w5.frozen? ⟨X, 2, none⟩ = false := K5.out.froz 2
      have z3 : w5.cell? ⟨X, 3, none⟩ = some (.int .i64 0) := K5.out.cell 3
      have f3 : w5.frozen? ⟨X, 3, none⟩ = false := K5.out.froz 3
      have z4 : w5.cell? ⟨X, 4, none⟩ = some (.string ⟨#[]⟩) := K5.out.cell 4
      have f4 : w5.frozen? ⟨X, 4, none⟩ = false := K5.out.froz 4
      have z5 : w5.cell? ⟨X, 5, none⟩ = some (.string ⟨#[]⟩) := K5.out.cell 5
      have f5 : w5.frozen? ⟨X, 5, none⟩ = false := K5.out.froz 5
      clear x0 x1 x2 x3
      go_wp2_with fail
      go_region_held3 (fun w' => w'.cell? ⟨g, o + 2, none⟩ = some (.string p[2]) ∧ w'.cell? ⟨g, o + 3, none⟩ = some (.string p[3])) (go_keep) (fail)
      go_wp2
      have SF := hide1 (show Blk ((((((w5.setCell ⟨X, 0, none⟩ (.int .i64 1)).setCell ⟨X, 1, none⟩ (.int .i64 z)).setCell ⟨X, 2, none⟩ (.int .i64 0)).setCell ⟨X, 3, none⟩ (.int .i64 1)).setCell ⟨X, 4, none⟩ (.string p[2])).setCell ⟨X, 5, none⟩ (.string p[3])) X 40 [.int .i64 1, .int .i64 z, .int .i64 0, .int .i64 1, .string p[2], .string p[3]] ∧ Below X w ((((((w5.setCell ⟨X, 0, none⟩ (.int .i64 1)).setCell ⟨X, 1, none⟩ (.int .i64 z)).setCell ⟨X, 2, none⟩ (.int .i64 0)).setCell ⟨X, 3, none⟩ (.int .i64 1)).setCell ⟨X, 4, none⟩ (.string p[2])).setCell ⟨X, 5, none⟩ (.string p[3])) from ⟨((((((K5.out.set 0 _).set 1 _).set 2 _).set 3 _).set 4 _).set 5 _), ((((((E5.out.setCell (p := ⟨X, 0, none⟩) (Nat.le_refl _) _).setCell (p := ⟨X, 1, none⟩) (Nat.le_refl _) _).setCell (p := ⟨X, 2, none⟩) (Nat.le_refl _) _).setCell (p := ⟨X, 3, none⟩) (Nat.le_refl _) _).setCell (p := ⟨X, 4, none⟩) (Nat.le_refl _) _).setCell (p := ⟨X, 5, none⟩) (Nat.le_refl _) _)⟩)
      generalize ((((((w5.setCell ⟨X, 0, none⟩ (.int .i64 1)).setCell ⟨X, 1, none⟩ (.int .i64 z)).setCell ⟨X, 2, none⟩ (.int .i64 0)).setCell ⟨X, 3, none⟩ (.int .i64 1)).setCell ⟨X, 4, none⟩ (.string p[2])).setCell ⟨X, 5, none⟩ (.string p[3])) = W at SF ⊢
      refine bodyPost_ret (resE2 Tryd.results16 _ _ X 40 #[.int .i64 1, .int .i64 z, .int .i64 0, .int .i64 1, .string p[2], .string p[3]] (0, 0) _ rfl SF.out.1 Tryd.underlying40 rfl sizeEv) rfl ?_
      exact ⟨⟨⟨1, z, 0, 1, p[2], p[3]⟩, by rw [RES.out]; rfl, fun y h => by rw [RES.out] at h; injection h⟩, by have h := SF.out.2; rw [HXW.out] at h; first | exact h | exact h.drew⟩
    | false =>
      have HY := hide1 (show rdDec p[1] = .tuple #[.int .i64 0, .bool false] by unfold rdDec; rw [hx2]; rfl)
      rw [HY.out] at C
      rw [if_neg (by rw [hx2]; simp)] at RES
      clear HY hx2
      go_wp2_with fail
      refine (C.out _).mono ?_
      rintro e w5 ⟨rfl, hb5⟩
      have y2 := (hb5.cell (p := ⟨g, o + 2, none⟩) hgu).trans x2
      have y3 := (hb5.cell (p := ⟨g, o + 3, none⟩) hgu).trans x3
      have K5 := hide1 (KX.out.below hb5 hXu)
      have E5 := hide1 (E0.out.trans (hb5.mono (Nat.le_of_lt hXu)))
      have z0 : w5.cell? ⟨X, 0, none⟩ = some (.int .i64 0) := K5.out.cell 0
      have f0 : w5.frozen? ⟨X, 0, none⟩ = false := K5.out.froz 0
      have z1 : w5.cell? ⟨X, 1, none⟩ = some (.int .i64 0) := K5.out.cell 1
      have f1 : w5.frozen? ⟨X, 1, none⟩ = false := K5.out.froz 1
      have z2 : w5.cell? ⟨X, 2, none⟩ = some (.int .i64 0) := K5.out.cell 2
      have f2 : w5.frozen? ⟨X, 2, none⟩ = false := K5.out.froz 2
      have z3 : w5.cell? ⟨X, 3, none⟩ = some (.int .i64 0) := K5.out.cell 3
      have f3 : w5.frozen? ⟨X, 3, none⟩ = false := K5.out.froz 3
      have z4 : w5.cell? ⟨X, 4, none⟩ = some (.string ⟨#[]⟩) := K5.out.cell 4
      have f4 : w5.frozen? ⟨X, 4, none⟩ = false := K5.out.froz 4
      have z5 : w5.cell? ⟨X, 5, none⟩ = some (.string ⟨#[]⟩) := K5.out.cell 5
      have f5 : w5.frozen? ⟨X, 5, none⟩ = false := K5.out.froz 5
      clear x0 x1 x2 x3
      go_wp2_with fail
      go_region_held3 (fun w' => w'.cell? ⟨g, o + 2, none⟩ = some (.string p[2]) ∧ w'.cell? ⟨g, o + 3, none⟩ = some (.string p[3])) (go_keep) (fail)
      go_wp2
      have SF := hide1 (show Blk ((((((w5.setCell ⟨X, 0, none⟩ (.int .i64 1)).setCell ⟨X, 1, none⟩ (.int .i64 0)).setCell ⟨X, 2, none⟩ (.int .i64 0)).setCell ⟨X, 3, none⟩ (.int .i64 1)).setCell ⟨X, 4, none⟩ (.string p[2])).setCell ⟨X, 5, none⟩ (.string p[3])) X 40 [.int .i64 1, .int .i64 0, .int .i64 0, .int .i64 1, .string p[2], .string p[3]] ∧ Below X w ((((((w5.setCell ⟨X, 0, none⟩ (.int .i64 1)).setCell ⟨X, 1, none⟩ (.int .i64 0)).setCell ⟨X, 2, none⟩ (.int .i64 0)).setCell ⟨X, 3, none⟩ (.int .i64 1)).setCell ⟨X, 4, none⟩ (.string p[2])).setCell ⟨X, 5, none⟩ (.string p[3])) from ⟨((((((K5.out.set 0 _).set 1 _).set 2 _).set 3 _).set 4 _).set 5 _), ((((((E5.out.setCell (p := ⟨X, 0, none⟩) (Nat.le_refl _) _).setCell (p := ⟨X, 1, none⟩) (Nat.le_refl _) _).setCell (p := ⟨X, 2, none⟩) (Nat.le_refl _) _).setCell (p := ⟨X, 3, none⟩) (Nat.le_refl _) _).setCell (p := ⟨X, 4, none⟩) (Nat.le_refl _) _).setCell (p := ⟨X, 5, none⟩) (Nat.le_refl _) _)⟩)
      generalize ((((((w5.setCell ⟨X, 0, none⟩ (.int .i64 1)).setCell ⟨X, 1, none⟩ (.int .i64 0)).setCell ⟨X, 2, none⟩ (.int .i64 0)).setCell ⟨X, 3, none⟩ (.int .i64 1)).setCell ⟨X, 4, none⟩ (.string p[2])).setCell ⟨X, 5, none⟩ (.string p[3])) = W at SF ⊢
      refine bodyPost_ret (resE2 Tryd.results16 _ _ X 40 #[.int .i64 1, .int .i64 0, .int .i64 0, .int .i64 1, .string p[2], .string p[3]] (0, 0) _ rfl SF.out.1 Tryd.underlying40 rfl sizeEv) rfl ?_
      exact ⟨⟨⟨1, 0, 0, 1, p[2], p[3]⟩, by rw [RES.out]; rfl, fun y h => by rw [RES.out] at h; cases h⟩, by have h := SF.out.2; rw [HXW.out] at h; first | exact h | exact h.drew⟩
  · by_cases c2 : p[0] = wGet ∧ p.length = 3
    · have NP := hide1 c1
      obtain ⟨c2, c3⟩ := c2
      obtain rfl : n = 3 := HN.out.trans c3
      clear HN k2 k3
      have RES := hide1 (evOf_get c3 c2)
      have c1' : ¬ p[0] = wPut := fun e => absurd (c2.symm.trans e) (by decide)
      obtain ⟨r1, r1b⟩ := noWPut c1'
      clear c1 c1' NP
      obtain ⟨q1, q1b⟩ := isWGet c2
      have x1 : u.cell? ⟨g, o + 1, none⟩ = some (.string p[1]) := rd0 RD.out 1 (by omega)
      have x2 : u.cell? ⟨g, o + 2, none⟩ = some (.string p[2]) := rd0 RD.out 2 (by omega)
      have C := hide1 (CR.out 1 (by omega))
      clear CR NONE c2
      cases hx2 : rdB p[1] with
      | true =>
        have HY := hide1 (show rdDec p[1] = .tuple #[.int .i64 (numOf p[1]), .bool true] by unfold rdDec; rw [hx2]; rfl)
        rw [HY.out] at C
        rw [if_pos hx2] at RES
        clear HY hx2
        generalize numOf p[1] = z at *
        go_wp2_with fail
        refine (C.out _).mono ?_
        rintro e w5 ⟨rfl, hb5⟩
        have y2 := (hb5.cell (p := ⟨g, o + 2, none⟩) hgu).trans x2
        have K5 := hide1 (KX.out.below hb5 hXu)
        have E5 := hide1 (E0.out.trans (hb5.mono (Nat.le_of_lt hXu)))
        have z0 : w5.cell? ⟨X, 0, none⟩ = some (.int .i64 0) := K5.out.cell 0
        have f0 : w5.frozen? ⟨X, 0, none⟩ = false := K5.out.froz 0
        have z1 : w5.cell? ⟨X, 1, none⟩ = some (.int .i64 0) := K5.out.cell 1
        have f1 : w5.frozen? ⟨X, 1, none⟩ = false := K5.out.froz 1
        have z2 : w5.cell? ⟨X, 2, none⟩ = some (.int .i64 0) := K5.out.cell 2
        have f2 : w5.frozen? ⟨X, 2, none⟩ = false := K5.out.froz 2
        have z3 : w5.cell? ⟨X, 3, none⟩ = some (.int .i64 0) := K5.out.cell 3
        have f3 : w5.frozen? ⟨X, 3, none⟩ = false := K5.out.froz 3
        have z4 : w5.cell? ⟨X, 4, none⟩ = some (.string ⟨#[]⟩) := K5.out.cell 4
        have f4 : w5.frozen? ⟨X, 4, none⟩ = false := K5.out.froz 4
        have z5 : w5.cell? ⟨X, 5, none⟩ = some (.string ⟨#[]⟩) := K5.out.cell 5
        have f5 : w5.frozen? ⟨X, 5, none⟩ = false := K5.out.froz 5
        clear x0 x1 x2
        go_wp2
        have SF := hide1 (show Blk ((((((w5.setCell ⟨X, 0, none⟩ (.int .i64 1)).setCell ⟨X, 1, none⟩ (.int .i64 z)).setCell ⟨X, 2, none⟩ (.int .i64 0)).setCell ⟨X, 3, none⟩ (.int .i64 2)).setCell ⟨X, 4, none⟩ (.string p[2])).setCell ⟨X, 5, none⟩ (.string ⟨#[]⟩)) X 40 [.int .i64 1, .int .i64 z, .int .i64 0, .int .i64 2, .string p[2], .string ⟨#[]⟩] ∧ Below X w ((((((w5.setCell ⟨X, 0, none⟩ (.int .i64 1)).setCell ⟨X, 1, none⟩ (.int .i64 z)).setCell ⟨X, 2, none⟩ (.int .i64 0)).setCell ⟨X, 3, none⟩ (.int .i64 2)).setCell ⟨X, 4, none⟩ (.string p[2])).setCell ⟨X, 5, none⟩ (.string ⟨#[]⟩)) from ⟨((((((K5.out.set 0 _).set 1 _).set 2 _).set 3 _).set 4 _).set 5 _), ((((((E5.out.setCell (p := ⟨X, 0, none⟩) (Nat.le_refl _) _).setCell (p := ⟨X, 1, none⟩) (Nat.le_refl _) _).setCell (p := ⟨X, 2, none⟩) (Nat.le_refl _) _).setCell (p := ⟨X, 3, none⟩) (Nat.le_refl _) _).setCell (p := ⟨X, 4, none⟩) (Nat.le_refl _) _).setCell (p := ⟨X, 5, none⟩) (Nat.le_refl _) _)⟩)
        generalize ((((((w5.setCell ⟨X, 0, none⟩ (.int .i64 1)).setCell ⟨X, 1, none⟩ (.int .i64 z)).setCell ⟨X, 2, none⟩ (.int .i64 0)).setCell ⟨X, 3, none⟩ (.int .i64 2)).setCell ⟨X, 4, none⟩ (.string p[2])).setCell ⟨X, 5, none⟩ (.string ⟨#[]⟩)) = W at SF ⊢
        refine bodyPost_ret (resE2 Tryd.results16 _ _ X 40 #[.int .i64 1, .int .i64 z, .int .i64 0, .int .i64 2, .string p[2], .string ⟨#[]⟩] (0, 0) _ rfl SF.out.1 Tryd.underlying40 rfl sizeEv) rfl ?_
        exact ⟨⟨⟨1, z, 0, 2, p[2], ⟨#[]⟩⟩, by rw [RES.out]; rfl, fun y h => by rw [RES.out] at h; injection h⟩, by have h := SF.out.2; rw [HXW.out] at h; first | exact h | exact h.drew⟩
      | false =>
        have HY := hide1 (show rdDec p[1] = .tuple #[.int .i64 0, .bool false] by unfold rdDec; rw [hx2]; rfl)
        rw [HY.out] at C
        rw [if_neg (by rw [hx2]; simp)] at RES
        clear HY hx2
        go_wp2_with fail
        refine (C.out _).mono ?_
        rintro e w5 ⟨rfl, hb5⟩
        have y2 := (hb5.cell (p := ⟨g, o + 2, none⟩) hgu).trans x2
        have K5 := hide1 (KX.out.below hb5 hXu)
        have E5 := hide1 (E0.out.trans (hb5.mono (Nat.le_of_lt hXu)))
        have z0 : w5.cell? ⟨X, 0, none⟩ = some (.int .i64 0) := K5.out.cell 0
        have f0 : w5.frozen? ⟨X, 0, none⟩ = false := K5.out.froz 0
        have z1 : w5.cell? ⟨X, 1, none⟩ = some (.int .i64 0) := K5.out.cell 1
        have f1 : w5.frozen? ⟨X, 1, none⟩ = false := K5.out.froz 1
        have z2 : w5.cell? ⟨X, 2, none⟩ = some (.int .i64 0) := K5.out.cell 2
        have f2 : w5.frozen? ⟨X, 2, none⟩ = false := K5.out.froz 2
        have z3 : w5.cell? ⟨X, 3, none⟩ = some (.int .i64 0) := K5.out.cell 3
        have f3 : w5.frozen? ⟨X, 3, none⟩ = false := K5.out.froz 3
        have z4 : w5.cell? ⟨X, 4, none⟩ = some (.string ⟨#[]⟩) := K5.out.cell 4
        have f4 : w5.frozen? ⟨X, 4, none⟩ = false := K5.out.froz 4
        have z5 : w5.cell? ⟨X, 5, none⟩ = some (.string ⟨#[]⟩) := K5.out.cell 5
        have f5 : w5.frozen? ⟨X, 5, none⟩ = false := K5.out.froz 5
        clear x0 x1 x2
        go_wp2
        have SF := hide1 (show Blk ((((((w5.setCell ⟨X, 0, none⟩ (.int .i64 1)).setCell ⟨X, 1, none⟩ (.int .i64 0)).setCell ⟨X, 2, none⟩ (.int .i64 0)).setCell ⟨X, 3, none⟩ (.int .i64 2)).setCell ⟨X, 4, none⟩ (.string p[2])).setCell ⟨X, 5, none⟩ (.string ⟨#[]⟩)) X 40 [.int .i64 1, .int .i64 0, .int .i64 0, .int .i64 2, .string p[2], .string ⟨#[]⟩] ∧ Below X w ((((((w5.setCell ⟨X, 0, none⟩ (.int .i64 1)).setCell ⟨X, 1, none⟩ (.int .i64 0)).setCell ⟨X, 2, none⟩ (.int .i64 0)).setCell ⟨X, 3, none⟩ (.int .i64 2)).setCell ⟨X, 4, none⟩ (.string p[2])).setCell ⟨X, 5, none⟩ (.string ⟨#[]⟩)) from ⟨((((((K5.out.set 0 _).set 1 _).set 2 _).set 3 _).set 4 _).set 5 _), ((((((E5.out.setCell (p := ⟨X, 0, none⟩) (Nat.le_refl _) _).setCell (p := ⟨X, 1, none⟩) (Nat.le_refl _) _).setCell (p := ⟨X, 2, none⟩) (Nat.le_refl _) _).setCell (p := ⟨X, 3, none⟩) (Nat.le_refl _) _).setCell (p := ⟨X, 4, none⟩) (Nat.le_refl _) _).setCell (p := ⟨X, 5, none⟩) (Nat.le_refl _) _)⟩)
        generalize ((((((w5.setCell ⟨X, 0, none⟩ (.int .i64 1)).setCell ⟨X, 1, none⟩ (.int .i64 0)).setCell ⟨X, 2, none⟩ (.int .i64 0)).setCell ⟨X, 3, none⟩ (.int .i64 2)).setCell ⟨X, 4, none⟩ (.string p[2])).setCell ⟨X, 5, none⟩ (.string ⟨#[]⟩)) = W at SF ⊢
        refine bodyPost_ret (resE2 Tryd.results16 _ _ X 40 #[.int .i64 1, .int .i64 0, .int .i64 0, .int .i64 2, .string p[2], .string ⟨#[]⟩] (0, 0) _ rfl SF.out.1 Tryd.underlying40 rfl sizeEv) rfl ?_
        exact ⟨⟨⟨1, 0, 0, 2, p[2], ⟨#[]⟩⟩, by rw [RES.out]; rfl, fun y h => by rw [RES.out] at h; cases h⟩, by have h := SF.out.2; rw [HXW.out] at h; first | exact h | exact h.drew⟩
    · by_cases e1 : p[0] = wPut
      · have q4 : ((n : Int) == 4) = false := by have := HN.out; have h : ¬ p.length = 4 := fun h => c1 ⟨e1, h⟩; simp; omega
        have NW := hide1 (show ∀ i (h : i < evWords.length), ¬ evWords[i] = p[0] from fun i h => by
            rw [e1]
            have h5 : i < 5 := h
            have h6 : i = 0 ∨ i = 1 ∨ i = 2 ∨ i = 3 ∨ i = 4 := by omega
            rcases h6 with rfl | rfl | rfl | rfl | rfl
            · show ¬ wDeliver = _; decide
            · show ¬ wDrop = _; decide
            · show ¬ wCopy = _; decide
            · show ¬ wAdopt = _; decide
            · show ¬ wFall = _; decide)
        obtain ⟨q1, q1b⟩ := isWPut e1
        obtain ⟨q3, q3b⟩ := noWGet (show ¬ p[0] = wGet from fun e => absurd (e1.symm.trans e) (by decide))
        clear e1
        have RW0 := hide1 (show RdQ (u.alloc (.cells #[.string wDeliver, .string wDrop, .string wCopy, .string wAdopt, .string wFall] 9)) (some ⟨u.heap.size, 0, none⟩) evWords from fun i hi => ⟨u.heap.size, 0, rfl, by rw [World.size_alloc]; omega, by rw [(Blk.new u 9 #[.string wDeliver, .string wDrop, .string wCopy, .string wAdopt, .string wFall]).cell (0 + i), Nat.zero_add]; obtain rfl | rfl | rfl | rfl | rfl : i = 0 ∨ i = 1 ∨ i = 2 ∨ i = 3 ∨ i = 4 := (by have : i < 5 := hi; omega) <;> rfl⟩)
        have BV := hide1 ((Below.refl u.heap.size u).alloc (Nat.le_refl _) (.cells #[.string wDeliver, .string wDrop, .string wCopy, .string wAdopt, .string wFall] 9))
        unfold wDeliver wDrop wCopy wAdopt wFall at RW0 BV
        go_upto_region 8 with fail
        generalize (u.alloc (.cells #[.string ⟨#[100, 101, 108, 105, 118, 101, 114]⟩, .string ⟨#[100, 114, 111, 112]⟩, .string ⟨#[99, 111, 112, 121]⟩, .string ⟨#[97, 100, 111, 112, 116]⟩, .string ⟨#[102, 97, 108, 108]⟩] 9)) = V at RW0 BV ⊢
        obtain ⟨aw, haw⟩ : ∃ aw, aw = (some ⟨u.heap.size, 0, none⟩ : Option Addr) := ⟨_, rfl⟩
        rw [← haw] at RW0 ⊢
        clear haw
        clear x0 q1 q1b q3 q3b
        try clear q4
        obtain ⟨bw, ow, rfl, hbw, _⟩ := RW0.out 0 (by decide)
        have EV := hide1 (E0.out.trans (BV.out.mono (Nat.le_of_lt hXu)))
        have KV := hide1 (KX.out.below BV.out hXu)
        have RV := hide1 (RD.out.below BV.out (fun b f e _ => by injection e with e; injection e with e; omega))
        have sV : u.heap.size ≤ V.heap.size := BV.out.size
        go_wp2
        go_loopw [9] (fun iv wr => ∃ i : Nat, i ≤ 5 ∧ iv = .int .i64 (i : Int) ∧ Hid (∀ j (h : j < evWords.length), j < i → ¬ (evWords[j] = p[0] ∧ p.length = 2)) ∧ Hid (Below V.heap.size V wr)) (fun iv _ => 5 - (intOf iv).toNat)
        case atStart => exact ⟨0, by omega, rfl, hide1 (fun j h hj => absurd hj (by omega)), hide1 (Below.refl _ _)⟩
        case round =>
          obtain ⟨i, hi, rfl, HJ, BB⟩ := hrel
          by_cases hlt : i < 5
          · have k1 : (i : Int) < 5 := by omega
            have k0 : (0 : Int) ≤ (i : Int) := by omega
            have hlt2 : i < evWords.length := hlt
            have x0 : wr.cell? ⟨g, o, none⟩ = some (.string p[0]) := (BB.out.cell (p := ⟨g, o, none⟩) (show g < V.heap.size by omega)).trans (rd0 RV.out 0 (by omega))
            have y0 : wr.cell? ⟨bw, ow + i, none⟩ = some (.string evWords[i]) := (BB.out.cell (p := ⟨bw, ow + i, none⟩) hbw).trans (rd0 RW0.out i hlt2)
            have ce := NW.out i hlt2
            obtain ⟨s1, s1b⟩ := text_ne ce
            have s2 : ¬ evWords[i].toList = p[0].toList := fun e => ce (textEq e)
            have NO := hide1 (show ¬ (evWords[i] = p[0] ∧ p.length = 2) from fun h => ce h.1)
            have NX := hide1 (show ∀ j (h : j < evWords.length), j < i + 1 → ¬ (evWords[j] = p[0] ∧ p.length = 2) from fun j h hj => by
              by_cases e : j = i
              · subst e; exact NO.out
              · exact HJ.out j h (by omega))
            clear NO CR NONE ce
            generalize evWords[i] = word at *
            go_upto_region 11 with fail
            have x0g : ∀ n : Gr wr, n.w.cell? ⟨g, o, none⟩ = some (.string p[0]) := fun n => n.cell x0
            have y0g : ∀ n : Gr wr, n.w.cell? ⟨bw, ow + i, none⟩ = some (.string word) := fun n => n.cell y0
            clear x0 y0
            refine wp_region_grown (by kernel_rfl) (by kernel_rfl) ?_
            (repeat (first | go_big_quiet_skip | (go_big_quiet_want; go_big_quiet_op; go_big_quiet_on)))
            refine wpQuiet_nil ?_
            rintro w2 ⟨m2, rfl⟩
            go_wp2
            go_roundw
            case rel => exact ⟨i + 1, by omega, by go_num, NX, hide1 (BB.out.trans (m2.b.mono BB.out.size))⟩
            case measure => simp [intOf]; omega
          · obtain rfl : i = 5 := by omega
            have k1 : ¬ ((5 : Int) < 5) := by omega
            have RES := hide1 (NONE.out (fun h => c1 h) (fun h => c2 h) (fun j h => HJ.out j h h))
            clear NONE CR
            have K5 := hide1 (KV.out.below BB.out (by omega))
            have E5 := hide1 (EV.out.trans (BB.out.mono (by omega)))
            have z0 : wr.cell? ⟨X, 0, none⟩ = some (.int .i64 0) := K5.out.cell 0
            have f0 : wr.frozen? ⟨X, 0, none⟩ = false := K5.out.froz 0
            have z1 : wr.cell? ⟨X, 1, none⟩ = some (.int .i64 0) := K5.out.cell 1
            have f1 : wr.frozen? ⟨X, 1, none⟩ = false := K5.out.froz 1
            have z2 : wr.cell? ⟨X, 2, none⟩ = some (.int .i64 0) := K5.out.cell 2
            have f2 : wr.frozen? ⟨X, 2, none⟩ = false := K5.out.froz 2
            have z3 : wr.cell? ⟨X, 3, none⟩ = some (.int .i64 0) := K5.out.cell 3
            have f3 : wr.frozen? ⟨X, 3, none⟩ = false := K5.out.froz 3
            have z4 : wr.cell? ⟨X, 4, none⟩ = some (.string ⟨#[]⟩) := K5.out.cell 4
            have f4 : wr.frozen? ⟨X, 4, none⟩ = false := K5.out.froz 4
            have z5 : wr.cell? ⟨X, 5, none⟩ = some (.string ⟨#[]⟩) := K5.out.cell 5
            have f5 : wr.frozen? ⟨X, 5, none⟩ = false := K5.out.froz 5
            go_wp2
            have SF := hide1 (show Blk ((((((wr.setCell ⟨X, 0, none⟩ (.int .i64 0)).setCell ⟨X, 1, none⟩ (.int .i64 0)).setCell ⟨X, 2, none⟩ (.int .i64 0)).setCell ⟨X, 3, none⟩ (.int .i64 0)).setCell ⟨X, 4, none⟩ (.string ⟨#[]⟩)).setCell ⟨X, 5, none⟩ (.string ⟨#[]⟩)) X 40 [.int .i64 0, .int .i64 0, .int .i64 0, .int .i64 0, .string ⟨#[]⟩, .string ⟨#[]⟩] ∧ Below X w ((((((wr.setCell ⟨X, 0, none⟩ (.int .i64 0)).setCell ⟨X, 1, none⟩ (.int .i64 0)).setCell ⟨X, 2, none⟩ (.int .i64 0)).setCell ⟨X, 3, none⟩ (.int .i64 0)).setCell ⟨X, 4, none⟩ (.string ⟨#[]⟩)).setCell ⟨X, 5, none⟩ (.string ⟨#[]⟩)) from ⟨((((((K5.out.set 0 _).set 1 _).set 2 _).set 3 _).set 4 _).set 5 _), ((((((E5.out.setCell (p := ⟨X, 0, none⟩) (Nat.le_refl _) _).setCell (p := ⟨X, 1, none⟩) (Nat.le_refl _) _).setCell (p := ⟨X, 2, none⟩) (Nat.le_refl _) _).setCell (p := ⟨X, 3, none⟩) (Nat.le_refl _) _).setCell (p := ⟨X, 4, none⟩) (Nat.le_refl _) _).setCell (p := ⟨X, 5, none⟩) (Nat.le_refl _) _)⟩)
            generalize ((((((wr.setCell ⟨X, 0, none⟩ (.int .i64 0)).setCell ⟨X, 1, none⟩ (.int .i64 0)).setCell ⟨X, 2, none⟩ (.int .i64 0)).setCell ⟨X, 3, none⟩ (.int .i64 0)).setCell ⟨X, 4, none⟩ (.string ⟨#[]⟩)).setCell ⟨X, 5, none⟩ (.string ⟨#[]⟩)) = W at SF ⊢
            refine bodyPost_ret (resE2 Tryd.results16 _ _ X 40 #[.int .i64 0, .int .i64 0, .int .i64 0, .int .i64 0, .string ⟨#[]⟩, .string ⟨#[]⟩] (0, 0) _ rfl SF.out.1 Tryd.underlying40 rfl sizeEv) rfl ?_
            exact ⟨⟨⟨0, 0, 0, 0, ⟨#[]⟩, ⟨#[]⟩⟩, by rw [RES.out]; rfl, fun y h => by rw [RES.out] at h; cases h⟩, by have h := SF.out.2; rw [HXW.out] at h; first | exact h | exact h.drew⟩
      · by_cases e2 : p[0] = wGet
        · have q4 : ((n : Int) == 3) = false := by have := HN.out; have h : ¬ p.length = 3 := fun h => c2 ⟨e2, h⟩; simp; omega
          have NW := hide1 (show ∀ i (h : i < evWords.length), ¬ evWords[i] = p[0] from fun i h => by
            rw [e2]
            have h5 : i < 5 := h
            have h6 : i = 0 ∨ i = 1 ∨ i = 2 ∨ i = 3 ∨ i = 4 := by omega
            rcases h6 with rfl | rfl | rfl | rfl | rfl
            · show ¬ wDeliver = _; decide
            · show ¬ wDrop = _; decide
            · show ¬ wCopy = _; decide
            · show ¬ wAdopt = _; decide
            · show ¬ wFall = _; decide)
          obtain ⟨q1, q1b⟩ := noWPut e1
          obtain ⟨q3, q3b⟩ := isWGet e2
          clear e1 e2
          have RW0 := hide1 (show RdQ (u.alloc (.cells #[.string wDeliver, .string wDrop, .string wCopy, .string wAdopt, .string wFall] 9)) (some ⟨u.heap.size, 0, none⟩) evWords from fun i hi => ⟨u.heap.size, 0, rfl, by rw [World.size_alloc]; omega, by rw [(Blk.new u 9 #[.string wDeliver, .string wDrop, .string wCopy, .string wAdopt, .string wFall]).cell (0 + i), Nat.zero_add]; obtain rfl | rfl | rfl | rfl | rfl : i = 0 ∨ i = 1 ∨ i = 2 ∨ i = 3 ∨ i = 4 := (by have : i < 5 := hi; omega) <;> rfl⟩)
          have BV := hide1 ((Below.refl u.heap.size u).alloc (Nat.le_refl _) (.cells #[.string wDeliver, .string wDrop, .string wCopy, .string wAdopt, .string wFall] 9))
          unfold wDeliver wDrop wCopy wAdopt wFall at RW0 BV
          go_upto_region 8 with fail
          generalize (u.alloc (.cells #[.string ⟨#[100, 101, 108, 105, 118, 101, 114]⟩, .string ⟨#[100, 114, 111, 112]⟩, .string ⟨#[99, 111, 112, 121]⟩, .string ⟨#[97, 100, 111, 112, 116]⟩, .string ⟨#[102, 97, 108, 108]⟩] 9)) = V at RW0 BV ⊢
          obtain ⟨aw, haw⟩ : ∃ aw, aw = (some ⟨u.heap.size, 0, none⟩ : Option Addr) := ⟨_, rfl⟩
          rw [← haw] at RW0 ⊢
          clear haw
          clear x0 q1 q1b q3 q3b
          try clear q4
          obtain ⟨bw, ow, rfl, hbw, _⟩ := RW0.out 0 (by decide)
          have EV := hide1 (E0.out.trans (BV.out.mono (Nat.le_of_lt hXu)))
          have KV := hide1 (KX.out.below BV.out hXu)
          have RV := hide1 (RD.out.below BV.out (fun b f e _ => by injection e with e; injection e with e; omega))
          have sV : u.heap.size ≤ V.heap.size := BV.out.size
          go_wp2
          go_loopw [9] (fun iv wr => ∃ i : Nat, i ≤ 5 ∧ iv = .int .i64 (i : Int) ∧ Hid (∀ j (h : j < evWords.length), j < i → ¬ (evWords[j] = p[0] ∧ p.length = 2)) ∧ Hid (Below V.heap.size V wr)) (fun iv _ => 5 - (intOf iv).toNat)
          case atStart => exact ⟨0, by omega, rfl, hide1 (fun j h hj => absurd hj (by omega)), hide1 (Below.refl _ _)⟩
          case round =>
            obtain ⟨i, hi, rfl, HJ, BB⟩ := hrel
            by_cases hlt : i < 5
            · have k1 : (i : Int) < 5 := by omega
              have k0 : (0 : Int) ≤ (i : Int) := by omega
              have hlt2 : i < evWords.length := hlt
              have x0 : wr.cell? ⟨g, o, none⟩ = some (.string p[0]) := (BB.out.cell (p := ⟨g, o, none⟩) (show g < V.heap.size by omega)).trans (rd0 RV.out 0 (by omega))
              have y0 : wr.cell? ⟨bw, ow + i, none⟩ = some (.string evWords[i]) := (BB.out.cell (p := ⟨bw, ow + i, none⟩) hbw).trans (rd0 RW0.out i hlt2)
              have ce := NW.out i hlt2
              obtain ⟨s1, s1b⟩ := text_ne ce
              have s2 : ¬ evWords[i].toList = p[0].toList := fun e => ce (textEq e)
              have NO := hide1 (show ¬ (evWords[i] = p[0] ∧ p.length = 2) from fun h => ce h.1)
              have NX := hide1 (show ∀ j (h : j < evWords.length), j < i + 1 → ¬ (evWords[j] = p[0] ∧ p.length = 2) from fun j h hj => by
                by_cases e : j = i
                · subst e; exact NO.out
                · exact HJ.out j h (by omega))
              clear NO CR NONE ce
              generalize evWords[i] = word at *
              go_upto_region 11 with fail
              have x0g : ∀ n : Gr wr, n.w.cell? ⟨g, o, none⟩ = some (.string p[0]) := fun n => n.cell x0
              have y0g : ∀ n : Gr wr, n.w.cell? ⟨bw, ow + i, none⟩ = some (.string word) := fun n => n.cell y0
              clear x0 y0
              refine wp_region_grown (by kernel_rfl) (by kernel_rfl) ?_
              (repeat (first | go_big_quiet_skip | (go_big_quiet_want; go_big_quiet_op; go_big_quiet_on)))
              refine wpQuiet_nil ?_
              rintro w2 ⟨m2, rfl⟩
              go_wp2
              go_roundw
              case rel => exact ⟨i + 1, by omega, by go_num, NX, hide1 (BB.out.trans (m2.b.mono BB.out.size))⟩
              case measure => simp [intOf]; omega
            · obtain rfl : i = 5 := by omega
              have k1 : ¬ ((5 : Int) < 5) := by omega
              have RES := hide1 (NONE.out (fun h => c1 h) (fun h => c2 h) (fun j h => HJ.out j h h))
              clear NONE CR
              have K5 := hide1 (KV.out.below BB.out (by omega))
              have E5 := hide1 (EV.out.trans (BB.out.mono (by omega)))
              have z0 : wr.cell? ⟨X, 0, none⟩ = some (.int .i64 0) := K5.out.cell 0
              have f0 : wr.frozen? ⟨X, 0, none⟩ = false := K5.out.froz 0
              have z1 : wr.cell? ⟨X, 1, none⟩ = some (.int .i64 0) := K5.out.cell 1
              have f1 : wr.frozen? ⟨X, 1, none⟩ = false := K5.out.froz 1
              have z2 : wr.cell? ⟨X, 2, none⟩ = some (.int .i64 0) := K5.out.cell 2
              have f2 : wr.frozen? ⟨X, 2, none⟩ = false := K5.out.froz 2
              have z3 : wr.cell? ⟨X, 3, none⟩ = some (.int .i64 0) := K5.out.cell 3
              have f3 : wr.frozen? ⟨X, 3, none⟩ = false := K5.out.froz 3
              have z4 : wr.cell? ⟨X, 4, none⟩ = some (.string ⟨#[]⟩) := K5.out.cell 4
              have f4 : wr.frozen? ⟨X, 4, none⟩ = false := K5.out.froz 4
              have z5 : wr.cell? ⟨X, 5, none⟩ = some (.string ⟨#[]⟩) := K5.out.cell 5
              have f5 : wr.frozen? ⟨X, 5, none⟩ = false := K5.out.froz 5
              go_wp2
              have SF := hide1 (show Blk ((((((wr.setCell ⟨X, 0, none⟩ (.int .i64 0)).setCell ⟨X, 1, none⟩ (.int .i64 0)).setCell ⟨X, 2, none⟩ (.int .i64 0)).setCell ⟨X, 3, none⟩ (.int .i64 0)).setCell ⟨X, 4, none⟩ (.string ⟨#[]⟩)).setCell ⟨X, 5, none⟩ (.string ⟨#[]⟩)) X 40 [.int .i64 0, .int .i64 0, .int .i64 0, .int .i64 0, .string ⟨#[]⟩, .string ⟨#[]⟩] ∧ Below X w ((((((wr.setCell ⟨X, 0, none⟩ (.int .i64 0)).setCell ⟨X, 1, none⟩ (.int .i64 0)).setCell ⟨X, 2, none⟩ (.int .i64 0)).setCell ⟨X, 3, none⟩ (.int .i64 0)).setCell ⟨X, 4, none⟩ (.string ⟨#[]⟩)).setCell ⟨X, 5, none⟩ (.string ⟨#[]⟩)) from ⟨((((((K5.out.set 0 _).set 1 _).set 2 _).set 3 _).set 4 _).set 5 _), ((((((E5.out.setCell (p := ⟨X, 0, none⟩) (Nat.le_refl _) _).setCell (p := ⟨X, 1, none⟩) (Nat.le_refl _) _).setCell (p := ⟨X, 2, none⟩) (Nat.le_refl _) _).setCell (p := ⟨X, 3, none⟩) (Nat.le_refl _) _).setCell (p := ⟨X, 4, none⟩) (Nat.le_refl _) _).setCell (p := ⟨X, 5, none⟩) (Nat.le_refl _) _)⟩)
              generalize ((((((wr.setCell ⟨X, 0, none⟩ (.int .i64 0)).setCell ⟨X, 1, none⟩ (.int .i64 0)).setCell ⟨X, 2, none⟩ (.int .i64 0)).setCell ⟨X, 3, none⟩ (.int .i64 0)).setCell ⟨X, 4, none⟩ (.string ⟨#[]⟩)).setCell ⟨X, 5, none⟩ (.string ⟨#[]⟩)) = W at SF ⊢
              refine bodyPost_ret (resE2 Tryd.results16 _ _ X 40 #[.int .i64 0, .int .i64 0, .int .i64 0, .int .i64 0, .string ⟨#[]⟩, .string ⟨#[]⟩] (0, 0) _ rfl SF.out.1 Tryd.underlying40 rfl sizeEv) rfl ?_
              exact ⟨⟨⟨0, 0, 0, 0, ⟨#[]⟩, ⟨#[]⟩⟩, by rw [RES.out]; rfl, fun y h => by rw [RES.out] at h; cases h⟩, by have h := SF.out.2; rw [HXW.out] at h; first | exact h | exact h.drew⟩
        · obtain ⟨q1, q1b⟩ := noWPut e1
          obtain ⟨q3, q3b⟩ := noWGet e2
          clear e1 e2
          have RW0 := hide1 (show RdQ (u.alloc (.cells #[.string wDeliver, .string wDrop, .string wCopy, .string wAdopt, .string wFall] 9)) (some ⟨u.heap.size, 0, none⟩) evWords from fun i hi => ⟨u.heap.size, 0, rfl, by rw [World.size_alloc]; omega, by rw [(Blk.new u 9 #[.string wDeliver, .string wDrop, .string wCopy, .string wAdopt, .string wFall]).cell (0 + i), Nat.zero_add]; obtain rfl | rfl | rfl | rfl | rfl : i = 0 ∨ i = 1 ∨ i = 2 ∨ i = 3 ∨ i = 4 := (by have : i < 5 := hi; omega) <;> rfl⟩)
          have BV := hide1 ((Below.refl u.heap.size u).alloc (Nat.le_refl _) (.cells #[.string wDeliver, .string wDrop, .string wCopy, .string wAdopt, .string wFall] 9))
          unfold wDeliver wDrop wCopy wAdopt wFall at RW0 BV
          go_upto_region 8 with fail
          generalize (u.alloc (.cells #[.string ⟨#[100, 101, 108, 105, 118, 101, 114]⟩, .string ⟨#[100, 114, 111, 112]⟩, .string ⟨#[99, 111, 112, 121]⟩, .string ⟨#[97, 100, 111, 112, 116]⟩, .string ⟨#[102, 97, 108, 108]⟩] 9)) = V at RW0 BV ⊢
          obtain ⟨aw, haw⟩ : ∃ aw, aw = (some ⟨u.heap.size, 0, none⟩ : Option Addr) := ⟨_, rfl⟩
          rw [← haw] at RW0 ⊢
          clear haw
          clear x0 q1 q1b q3 q3b
          try clear q4
          obtain ⟨bw, ow, rfl, hbw, _⟩ := RW0.out 0 (by decide)
          have EV := hide1 (E0.out.trans (BV.out.mono (Nat.le_of_lt hXu)))
          have KV := hide1 (KX.out.below BV.out hXu)
          have RV := hide1 (RD.out.below BV.out (fun b f e _ => by injection e with e; injection e with e; omega))
          have sV : u.heap.size ≤ V.heap.size := BV.out.size
          go_wp2
          go_loopw [9] (fun iv wr => ∃ i : Nat, i ≤ 5 ∧ iv = .int .i64 (i : Int) ∧ Hid (∀ j (h : j < evWords.length), j < i → ¬ (evWords[j] = p[0] ∧ p.length = 2)) ∧ Hid (Below V.heap.size V wr)) (fun iv _ => 5 - (intOf iv).toNat)
          case atStart => exact ⟨0, by omega, rfl, hide1 (fun j h hj => absurd hj (by omega)), hide1 (Below.refl _ _)⟩
          case round =>
            obtain ⟨i, hi, rfl, HJ, BB⟩ := hrel
            by_cases hlt : i < 5
            · have k1 : (i : Int) < 5 := by omega
              have k0 : (0 : Int) ≤ (i : Int) := by omega
              have hlt2 : i < evWords.length := hlt
              have x0 : wr.cell? ⟨g, o, none⟩ = some (.string p[0]) := (BB.out.cell (p := ⟨g, o, none⟩) (show g < V.heap.size by omega)).trans (rd0 RV.out 0 (by omega))
              have y0 : wr.cell? ⟨bw, ow + i, none⟩ = some (.string evWords[i]) := (BB.out.cell (p := ⟨bw, ow + i, none⟩) hbw).trans (rd0 RW0.out i hlt2)
              by_cases ce : evWords[i] = p[0]
              · obtain ⟨s1, s1b⟩ := text_eq ce
                by_cases l2 : p.length = 2
                · have RES := hide1 (evOf_word l2 hlt2 ce)
                  obtain rfl : n = 2 := HN.out.trans l2
                  clear HN k2 k3
                  have x1 : wr.cell? ⟨g, o + 1, none⟩ = some (.string p[1]) := (BB.out.cell (p := ⟨g, o + 1, none⟩) (show g < V.heap.size by omega)).trans (rd0 RV.out 1 (by omega))
                  have C := hide1 (CR.out 1 (by omega))
                  clear CR NONE ce
                  generalize evWords[i] = word at *
                  go_upto_region 11 with fail
                  have x0g : ∀ n : Gr wr, n.w.cell? ⟨g, o, none⟩ = some (.string p[0]) := fun n => n.cell x0
                  have x1g : ∀ n : Gr wr, n.w.cell? ⟨g, o + 1, none⟩ = some (.string p[1]) := fun n => n.cell x1
                  have y0g : ∀ n : Gr wr, n.w.cell? ⟨bw, ow + i, none⟩ = some (.string word) := fun n => n.cell y0
                  clear x0 x1 y0
                  refine wp_region_grown (by kernel_rfl) (by kernel_rfl) ?_
                  (repeat (first | go_big_quiet_skip | (go_big_quiet_want; go_big_quiet_op; go_big_quiet_on)))
                  refine wpQuiet_nil ?_
                  rintro w2 ⟨m2, rfl⟩
                  have x1 := x1g m2
                  have B2 := hide1 (BB.out.trans (m2.b.mono BB.out.size))
                  clear x0g x1g y0g
                  generalize m2.w = wq at x1 B2 ⊢
                  cases hx2 : rdB p[1] with
                  | true =>
                    have HY := hide1 (show rdDec p[1] = .tuple #[.int .i64 (numOf p[1]), .bool true] by unfold rdDec; rw [hx2]; rfl)
                    rw [HY.out] at C
                    rw [if_pos hx2] at RES
                    clear HY hx2
                    generalize numOf p[1] = z at *
                    go_wp2_with fail
                    refine (C.out _).mono ?_
                    rintro e w5 ⟨rfl, hb5⟩
                    go_upto_region 14 with fail
                    have FZ := hide1 (And.intro (Blk.new w5 40 #[.int .i64 (2 + (i : Int)), .int .i64 1, .int .i64 0, .int .i64 0, .string ⟨#[]⟩, .string ⟨#[]⟩]) ((Below.refl w5.heap.size w5).alloc (Nat.le_refl _) (.cells #[.int .i64 (2 + (i : Int)), .int .i64 1, .int .i64 0, .int .i64 0, .string ⟨#[]⟩, .string ⟨#[]⟩] 40)))
                    have hX5 : X < w5.heap.size := by have h1 := hb5.size; have h2 := B2.out.size; omega
                    have E5 := hide1 ((EV.out.trans (B2.out.mono (by omega))).trans ((hb5.mono (by have h2 := B2.out.size; omega)).trans (FZ.out.2.mono (by omega))))
                    have K5 := hide1 (((KV.out.below B2.out (by omega)).below hb5 (by have h2 := B2.out.size; omega)).below FZ.out.2 hX5)
                    generalize (w5.alloc (.cells #[.int .i64 (2 + (i : Int)), .int .i64 1, .int .i64 0, .int .i64 0, .string ⟨#[]⟩, .string ⟨#[]⟩] 40)) = Z at FZ E5 K5 ⊢
                    have KY := hide1 FZ.out.1
                    obtain ⟨Y, hY⟩ : ∃ Y, Y = w5.heap.size := ⟨_, rfl⟩
                    rw [← hY] at KY hX5 ⊢
                    have nXY : ¬ X = Y := by omega
                    have nYX : ¬ Y = X := by omega
                    have leXY : X ≤ Y := by omega
                    clear FZ hY hb5 x1
                    obtain ⟨k, hk⟩ : ∃ k : Int, k = 2 + (i : Int) := ⟨_, rfl⟩
                    have HK := hide1 hk
                    rw [← hk] at KY ⊢
                    by_cases ci : k ≤ 4
                    · have HI := hide1 (show i ≤ 2 by omega)
                      clear hk
                      have v0 : Z.cell? ⟨Y, 0, none⟩ = some (.int .i64 k) := KY.out.cell 0
                      have g0 : Z.frozen? ⟨Y, 0, none⟩ = false := KY.out.froz 0
                      have v1 : Z.cell? ⟨Y, 1, none⟩ = some (.int .i64 1) := KY.out.cell 1
                      have g1 : Z.frozen? ⟨Y, 1, none⟩ = false := KY.out.froz 1
                      have v2 : Z.cell? ⟨Y, 2, none⟩ = some (.int .i64 0) := KY.out.cell 2
                      have g2 : Z.frozen? ⟨Y, 2, none⟩ = false := KY.out.froz 2
                      have v3 : Z.cell? ⟨Y, 3, none⟩ = some (.int .i64 0) := KY.out.cell 3
                      have g3 : Z.frozen? ⟨Y, 3, none⟩ = false := KY.out.froz 3
                      have v4 : Z.cell? ⟨Y, 4, none⟩ = some (.string ⟨#[]⟩) := KY.out.cell 4
                      have g4 : Z.frozen? ⟨Y, 4, none⟩ = false := KY.out.froz 4
                      have v5 : Z.cell? ⟨Y, 5, none⟩ = some (.string ⟨#[]⟩) := KY.out.cell 5
                      have g5 : Z.frozen? ⟨Y, 5, none⟩ = false := KY.out.froz 5
                      go_upto_region 17 with fail
                      have F2 := hide1 (And.intro (KY.out.set 2 (.int .i64 z)) (And.intro (K5.out.far ⟨Y, 2, none⟩ (.int .i64 z) nXY) (E5.out.setCell (p := ⟨Y, 2, none⟩) leXY (.int .i64 z))))
                      clear v0 g0 v1 g1 v2 g2 v3 g3 v4 g4 v5 g5
                      generalize (Z.setCell ⟨Y, 2, none⟩ (.int .i64 z)) = Z2 at F2 ⊢
                      have K6 := hide1 F2.out.2.1
                      have E6 := hide1 F2.out.2.2
                      have K7 := hide1 F2.out.1
                      have v0 := K7.out.cell 0
                      have v1 := K7.out.cell 1
                      have v2 := K7.out.cell 2
                      have v3 := K7.out.cell 3
                      have v4 := K7.out.cell 4
                      have v5 := K7.out.cell 5
                      have z0 : Z2.cell? ⟨X, 0, none⟩ = some (.int .i64 0) := K6.out.cell 0
                      have f0 : Z2.frozen? ⟨X, 0, none⟩ = false := K6.out.froz 0
                      have z1 : Z2.cell? ⟨X, 1, none⟩ = some (.int .i64 0) := K6.out.cell 1
                      have f1 : Z2.frozen? ⟨X, 1, none⟩ = false := K6.out.froz 1
                      have z2 : Z2.cell? ⟨X, 2, none⟩ = some (.int .i64 0) := K6.out.cell 2
                      have f2 : Z2.frozen? ⟨X, 2, none⟩ = false := K6.out.froz 2
                      have z3 : Z2.cell? ⟨X, 3, none⟩ = some (.int .i64 0) := K6.out.cell 3
                      have f3 : Z2.frozen? ⟨X, 3, none⟩ = false := K6.out.froz 3
                      have z4 : Z2.cell? ⟨X, 4, none⟩ = some (.string ⟨#[]⟩) := K6.out.cell 4
                      have f4 : Z2.frozen? ⟨X, 4, none⟩ = false := K6.out.froz 4
                      have z5 : Z2.cell? ⟨X, 5, none⟩ = some (.string ⟨#[]⟩) := K6.out.cell 5
                      have f5 : Z2.frozen? ⟨X, 5, none⟩ = false := K6.out.froz 5
                      go_wp2
                      have SF := hide1 (show Blk ((((((Z2.setCell ⟨X, 0, none⟩ (.int .i64 k)).setCell ⟨X, 1, none⟩ (.int .i64 1)).setCell ⟨X, 2, none⟩ (.int .i64 z)).setCell ⟨X, 3, none⟩ (.int .i64 0)).setCell ⟨X, 4, none⟩ (.string ⟨#[]⟩)).setCell ⟨X, 5, none⟩ (.string ⟨#[]⟩)) X 40 [.int .i64 k, .int .i64 1, .int .i64 z, .int .i64 0, .string ⟨#[]⟩, .string ⟨#[]⟩] ∧ Below X w ((((((Z2.setCell ⟨X, 0, none⟩ (.int .i64 k)).setCell ⟨X, 1, none⟩ (.int .i64 1)).setCell ⟨X, 2, none⟩ (.int .i64 z)).setCell ⟨X, 3, none⟩ (.int .i64 0)).setCell ⟨X, 4, none⟩ (.string ⟨#[]⟩)).setCell ⟨X, 5, none⟩ (.string ⟨#[]⟩)) from ⟨((((((K6.out.set 0 _).set 1 _).set 2 _).set 3 _).set 4 _).set 5 _), ((((((E6.out.setCell (p := ⟨X, 0, none⟩) (Nat.le_refl _) _).setCell (p := ⟨X, 1, none⟩) (Nat.le_refl _) _).setCell (p := ⟨X, 2, none⟩) (Nat.le_refl _) _).setCell (p := ⟨X, 3, none⟩) (Nat.le_refl _) _).setCell (p := ⟨X, 4, none⟩) (Nat.le_refl _) _).setCell (p := ⟨X, 5, none⟩) (Nat.le_refl _) _)⟩)
                      generalize ((((((Z2.setCell ⟨X, 0, none⟩ (.int .i64 k)).setCell ⟨X, 1, none⟩ (.int .i64 1)).setCell ⟨X, 2, none⟩ (.int .i64 z)).setCell ⟨X, 3, none⟩ (.int .i64 0)).setCell ⟨X, 4, none⟩ (.string ⟨#[]⟩)).setCell ⟨X, 5, none⟩ (.string ⟨#[]⟩)) = W at SF ⊢
                      refine bodyPost_ret (resE2 Tryd.results16 _ _ X 40 #[.int .i64 k, .int .i64 1, .int .i64 z, .int .i64 0, .string ⟨#[]⟩, .string ⟨#[]⟩] (0, 0) _ rfl SF.out.1 Tryd.underlying40 rfl sizeEv) rfl ?_
                      exact ⟨⟨⟨k, 1, z, 0, ⟨#[]⟩, ⟨#[]⟩⟩, by rw [RES.out]; rfl, fun y h => by rw [RES.out] at h; injection h with h; rw [← h]; unfold kindEv; rw [if_pos HI.out, HK.out, Int.add_comm]⟩, by have h := SF.out.2; rw [HXW.out] at h; first | exact h | exact h.drew⟩
                    · have HI := hide1 (show ¬ i ≤ 2 by omega)
                      clear hk
                      have v0 : Z.cell? ⟨Y, 0, none⟩ = some (.int .i64 k) := KY.out.cell 0
                      have g0 : Z.frozen? ⟨Y, 0, none⟩ = false := KY.out.froz 0
                      have v1 : Z.cell? ⟨Y, 1, none⟩ = some (.int .i64 1) := KY.out.cell 1
                      have g1 : Z.frozen? ⟨Y, 1, none⟩ = false := KY.out.froz 1
                      have v2 : Z.cell? ⟨Y, 2, none⟩ = some (.int .i64 0) := KY.out.cell 2
                      have g2 : Z.frozen? ⟨Y, 2, none⟩ = false := KY.out.froz 2
                      have v3 : Z.cell? ⟨Y, 3, none⟩ = some (.int .i64 0) := KY.out.cell 3
                      have g3 : Z.frozen? ⟨Y, 3, none⟩ = false := KY.out.froz 3
                      have v4 : Z.cell? ⟨Y, 4, none⟩ = some (.string ⟨#[]⟩) := KY.out.cell 4
                      have g4 : Z.frozen? ⟨Y, 4, none⟩ = false := KY.out.froz 4
                      have v5 : Z.cell? ⟨Y, 5, none⟩ = some (.string ⟨#[]⟩) := KY.out.cell 5
                      have g5 : Z.frozen? ⟨Y, 5, none⟩ = false := KY.out.froz 5
                      go_upto_region 17 with fail
                      have F2 := hide1 (And.intro (KY.out.set 1 (.int .i64 z)) (And.intro (K5.out.far ⟨Y, 1, none⟩ (.int .i64 z) nXY) (E5.out.setCell (p := ⟨Y, 1, none⟩) leXY (.int .i64 z))))
                      clear v0 g0 v1 g1 v2 g2 v3 g3 v4 g4 v5 g5
                      generalize (Z.setCell ⟨Y, 1, none⟩ (.int .i64 z)) = Z2 at F2 ⊢
                      have K6 := hide1 F2.out.2.1
                      have E6 := hide1 F2.out.2.2
                      have K7 := hide1 F2.out.1
                      have v0 := K7.out.cell 0
                      have v1 := K7.out.cell 1
                      have v2 := K7.out.cell 2
                      have v3 := K7.out.cell 3
                      have v4 := K7.out.cell 4
                      have v5 := K7.out.cell 5
                      have z0 : Z2.cell? ⟨X, 0, none⟩ = some (.int .i64 0) := K6.out.cell 0
                      have f0 : Z2.frozen? ⟨X, 0, none⟩ = false := K6.out.froz 0
                      have z1 : Z2.cell? ⟨X, 1, none⟩ = some (.int .i64 0) := K6.out.cell 1
                      have f1 : Z2.frozen? ⟨X, 1, none⟩ = false := K6.out.froz 1
                      have z2 : Z2.cell? ⟨X, 2, none⟩ = some (.int .i64 0) := K6.out.cell 2
                      have f2 : Z2.frozen? ⟨X, 2, none⟩ = false := K6.out.froz 2
                      have z3 : Z2.cell? ⟨X, 3, none⟩ = some (.int .i64 0) := K6.out.cell 3
                      have f3 : Z2.frozen? ⟨X, 3, none⟩ = false := K6.out.froz 3
                      have z4 : Z2.cell? ⟨X, 4, none⟩ = some (.string ⟨#[]⟩) := K6.out.cell 4
                      have f4 : Z2.frozen? ⟨X, 4, none⟩ = false := K6.out.froz 4
                      have z5 : Z2.cell? ⟨X, 5, none⟩ = some (.string ⟨#[]⟩) := K6.out.cell 5
                      have f5 : Z2.frozen? ⟨X, 5, none⟩ = false := K6.out.froz 5
                      go_wp2
                      have SF := hide1 (show Blk ((((((Z2.setCell ⟨X, 0, none⟩ (.int .i64 k)).setCell ⟨X, 1, none⟩ (.int .i64 z)).setCell ⟨X, 2, none⟩ (.int .i64 0)).setCell ⟨X, 3, none⟩ (.int .i64 0)).setCell ⟨X, 4, none⟩ (.string ⟨#[]⟩)).setCell ⟨X, 5, none⟩ (.string ⟨#[]⟩)) X 40 [.int .i64 k, .int .i64 z, .int .i64 0, .int .i64 0, .string ⟨#[]⟩, .string ⟨#[]⟩] ∧ Below X w ((((((Z2.setCell ⟨X, 0, none⟩ (.int .i64 k)).setCell ⟨X, 1, none⟩ (.int .i64 z)).setCell ⟨X, 2, none⟩ (.int .i64 0)).setCell ⟨X, 3, none⟩ (.int .i64 0)).setCell ⟨X, 4, none⟩ (.string ⟨#[]⟩)).setCell ⟨X, 5, none⟩ (.string ⟨#[]⟩)) from ⟨((((((K6.out.set 0 _).set 1 _).set 2 _).set 3 _).set 4 _).set 5 _), ((((((E6.out.setCell (p := ⟨X, 0, none⟩) (Nat.le_refl _) _).setCell (p := ⟨X, 1, none⟩) (Nat.le_refl _) _).setCell (p := ⟨X, 2, none⟩) (Nat.le_refl _) _).setCell (p := ⟨X, 3, none⟩) (Nat.le_refl _) _).setCell (p := ⟨X, 4, none⟩) (Nat.le_refl _) _).setCell (p := ⟨X, 5, none⟩) (Nat.le_refl _) _)⟩)
                      generalize ((((((Z2.setCell ⟨X, 0, none⟩ (.int .i64 k)).setCell ⟨X, 1, none⟩ (.int .i64 z)).setCell ⟨X, 2, none⟩ (.int .i64 0)).setCell ⟨X, 3, none⟩ (.int .i64 0)).setCell ⟨X, 4, none⟩ (.string ⟨#[]⟩)).setCell ⟨X, 5, none⟩ (.string ⟨#[]⟩)) = W at SF ⊢
                      refine bodyPost_ret (resE2 Tryd.results16 _ _ X 40 #[.int .i64 k, .int .i64 z, .int .i64 0, .int .i64 0, .string ⟨#[]⟩, .string ⟨#[]⟩] (0, 0) _ rfl SF.out.1 Tryd.underlying40 rfl sizeEv) rfl ?_
                      exact ⟨⟨⟨k, z, 0, 0, ⟨#[]⟩, ⟨#[]⟩⟩, by rw [RES.out]; rfl, fun y h => by rw [RES.out] at h; injection h with h; rw [← h]; unfold kindEv; rw [if_neg HI.out, HK.out, Int.add_comm]⟩, by have h := SF.out.2; rw [HXW.out] at h; first | exact h | exact h.drew⟩
                  | false =>
                    have HY := hide1 (show rdDec p[1] = .tuple #[.int .i64 0, .bool false] by unfold rdDec; rw [hx2]; rfl)
                    rw [HY.out] at C
                    rw [if_neg (by rw [hx2]; simp)] at RES
                    clear HY hx2
                    go_wp2_with fail
                    refine (C.out _).mono ?_
                    rintro e w5 ⟨rfl, hb5⟩
                    go_upto_region 14 with fail
                    have FZ := hide1 (And.intro (Blk.new w5 40 #[.int .i64 (2 + (i : Int)), .int .i64 1, .int .i64 0, .int .i64 0, .string ⟨#[]⟩, .string ⟨#[]⟩]) ((Below.refl w5.heap.size w5).alloc (Nat.le_refl _) (.cells #[.int .i64 (2 + (i : Int)), .int .i64 1, .int .i64 0, .int .i64 0, .string ⟨#[]⟩, .string ⟨#[]⟩] 40)))
                    have hX5 : X < w5.heap.size := by have h1 := hb5.size; have h2 := B2.out.size; omega
                    have E5 := hide1 ((EV.out.trans (B2.out.mono (by omega))).trans ((hb5.mono (by have h2 := B2.out.size; omega)).trans (FZ.out.2.mono (by omega))))
                    have K5 := hide1 (((KV.out.below B2.out (by omega)).below hb5 (by have h2 := B2.out.size; omega)).below FZ.out.2 hX5)
                    generalize (w5.alloc (.cells #[.int .i64 (2 + (i : Int)), .int .i64 1, .int .i64 0, .int .i64 0, .string ⟨#[]⟩, .string ⟨#[]⟩] 40)) = Z at FZ E5 K5 ⊢
                    have KY := hide1 FZ.out.1
                    obtain ⟨Y, hY⟩ : ∃ Y, Y = w5.heap.size := ⟨_, rfl⟩
                    rw [← hY] at KY hX5 ⊢
                    have nXY : ¬ X = Y := by omega
                    have nYX : ¬ Y = X := by omega
                    have leXY : X ≤ Y := by omega
                    clear FZ hY hb5 x1
                    obtain ⟨k, hk⟩ : ∃ k : Int, k = 2 + (i : Int) := ⟨_, rfl⟩
                    have HK := hide1 hk
                    rw [← hk] at KY ⊢
                    by_cases ci : k ≤ 4
                    · have HI := hide1 (show i ≤ 2 by omega)
                      clear hk
                      have v0 : Z.cell? ⟨Y, 0, none⟩ = some (.int .i64 k) := KY.out.cell 0
                      have g0 : Z.frozen? ⟨Y, 0, none⟩ = false := KY.out.froz 0
                      have v1 : Z.cell? ⟨Y, 1, none⟩ = some (.int .i64 1) := KY.out.cell 1
                      have g1 : Z.frozen? ⟨Y, 1, none⟩ = false := KY.out.froz 1
                      have v2 : Z.cell? ⟨Y, 2, none⟩ = some (.int .i64 0) := KY.out.cell 2
                      have g2 : Z.frozen? ⟨Y, 2, none⟩ = false := KY.out.froz 2
                      have v3 : Z.cell? ⟨Y, 3, none⟩ = some (.int .i64 0) := KY.out.cell 3
                      have g3 : Z.frozen? ⟨Y, 3, none⟩ = false := KY.out.froz 3
                      have v4 : Z.cell? ⟨Y, 4, none⟩ = some (.string ⟨#[]⟩) := KY.out.cell 4
                      have g4 : Z.frozen? ⟨Y, 4, none⟩ = false := KY.out.froz 4
                      have v5 : Z.cell? ⟨Y, 5, none⟩ = some (.string ⟨#[]⟩) := KY.out.cell 5
                      have g5 : Z.frozen? ⟨Y, 5, none⟩ = false := KY.out.froz 5
                      go_upto_region 17 with fail
                      have F2 := hide1 (And.intro (KY.out.set 2 (.int .i64 0)) (And.intro (K5.out.far ⟨Y, 2, none⟩ (.int .i64 0) nXY) (E5.out.setCell (p := ⟨Y, 2, none⟩) leXY (.int .i64 0))))
                      clear v0 g0 v1 g1 v2 g2 v3 g3 v4 g4 v5 g5
                      generalize (Z.setCell ⟨Y, 2, none⟩ (.int .i64 0)) = Z2 at F2 ⊢
                      have K6 := hide1 F2.out.2.1
                      have E6 := hide1 F2.out.2.2
                      have K7 := hide1 F2.out.1
                      have v0 := K7.out.cell 0
                      have v1 := K7.out.cell 1
                      have v2 := K7.out.cell 2
                      have v3 := K7.out.cell 3
                      have v4 := K7.out.cell 4
                      have v5 := K7.out.cell 5
                      have z0 : Z2.cell? ⟨X, 0, none⟩ = some (.int .i64 0) := K6.out.cell 0
                      have f0 : Z2.frozen? ⟨X, 0, none⟩ = false := K6.out.froz 0
                      have z1 : Z2.cell? ⟨X, 1, none⟩ = some (.int .i64 0) := K6.out.cell 1
                      have f1 : Z2.frozen? ⟨X, 1, none⟩ = false := K6.out.froz 1
                      have z2 : Z2.cell? ⟨X, 2, none⟩ = some (.int .i64 0) := K6.out.cell 2
                      have f2 : Z2.frozen? ⟨X, 2, none⟩ = false := K6.out.froz 2
                      have z3 : Z2.cell? ⟨X, 3, none⟩ = some (.int .i64 0) := K6.out.cell 3
                      have f3 : Z2.frozen? ⟨X, 3, none⟩ = false := K6.out.froz 3
                      have z4 : Z2.cell? ⟨X, 4, none⟩ = some (.string ⟨#[]⟩) := K6.out.cell 4
                      have f4 : Z2.frozen? ⟨X, 4, none⟩ = false := K6.out.froz 4
                      have z5 : Z2.cell? ⟨X, 5, none⟩ = some (.string ⟨#[]⟩) := K6.out.cell 5
                      have f5 : Z2.frozen? ⟨X, 5, none⟩ = false := K6.out.froz 5
                      go_wp2
                      have SF := hide1 (show Blk ((((((Z2.setCell ⟨X, 0, none⟩ (.int .i64 k)).setCell ⟨X, 1, none⟩ (.int .i64 1)).setCell ⟨X, 2, none⟩ (.int .i64 0)).setCell ⟨X, 3, none⟩ (.int .i64 0)).setCell ⟨X, 4, none⟩ (.string ⟨#[]⟩)).setCell ⟨X, 5, none⟩ (.string ⟨#[]⟩)) X 40 [.int .i64 k, .int .i64 1, .int .i64 0, .int .i64 0, .string ⟨#[]⟩, .string ⟨#[]⟩] ∧ Below X w ((((((Z2.setCell ⟨X, 0, none⟩ (.int .i64 k)).setCell ⟨X, 1, none⟩ (.int .i64 1)).setCell ⟨X, 2, none⟩ (.int .i64 0)).setCell ⟨X, 3, none⟩ (.int .i64 0)).setCell ⟨X, 4, none⟩ (.string ⟨#[]⟩)).setCell ⟨X, 5, none⟩ (.string ⟨#[]⟩)) from ⟨((((((K6.out.set 0 _).set 1 _).set 2 _).set 3 _).set 4 _).set 5 _), ((((((E6.out.setCell (p := ⟨X, 0, none⟩) (Nat.le_refl _) _).setCell (p := ⟨X, 1, none⟩) (Nat.le_refl _) _).setCell (p := ⟨X, 2, none⟩) (Nat.le_refl _) _).setCell (p := ⟨X, 3, none⟩) (Nat.le_refl _) _).setCell (p := ⟨X, 4, none⟩) (Nat.le_refl _) _).setCell (p := ⟨X, 5, none⟩) (Nat.le_refl _) _)⟩)
                      generalize ((((((Z2.setCell ⟨X, 0, none⟩ (.int .i64 k)).setCell ⟨X, 1, none⟩ (.int .i64 1)).setCell ⟨X, 2, none⟩ (.int .i64 0)).setCell ⟨X, 3, none⟩ (.int .i64 0)).setCell ⟨X, 4, none⟩ (.string ⟨#[]⟩)).setCell ⟨X, 5, none⟩ (.string ⟨#[]⟩)) = W at SF ⊢
                      refine bodyPost_ret (resE2 Tryd.results16 _ _ X 40 #[.int .i64 k, .int .i64 1, .int .i64 0, .int .i64 0, .string ⟨#[]⟩, .string ⟨#[]⟩] (0, 0) _ rfl SF.out.1 Tryd.underlying40 rfl sizeEv) rfl ?_
                      exact ⟨⟨⟨k, 1, 0, 0, ⟨#[]⟩, ⟨#[]⟩⟩, by rw [RES.out]; rfl, fun y h => by rw [RES.out] at h; cases h⟩, by have h := SF.out.2; rw [HXW.out] at h; first | exact h | exact h.drew⟩
                    · have HI := hide1 (show ¬ i ≤ 2 by omega)
                      clear hk
                      have v0 : Z.cell? ⟨Y, 0, none⟩ = some (.int .i64 k) := KY.out.cell 0
                      have g0 : Z.frozen? ⟨Y, 0, none⟩ = false := KY.out.froz 0
                      have v1 : Z.cell? ⟨Y, 1, none⟩ = some (.int .i64 1) := KY.out.cell 1
                      have g1 : Z.frozen? ⟨Y, 1, none⟩ = false := KY.out.froz 1
                      have v2 : Z.cell? ⟨Y, 2, none⟩ = some (.int .i64 0) := KY.out.cell 2
                      have g2 : Z.frozen? ⟨Y, 2, none⟩ = false := KY.out.froz 2
                      have v3 : Z.cell? ⟨Y, 3, none⟩ = some (.int .i64 0) := KY.out.cell 3
                      have g3 : Z.frozen? ⟨Y, 3, none⟩ = false := KY.out.froz 3
                      have v4 : Z.cell? ⟨Y, 4, none⟩ = some (.string ⟨#[]⟩) := KY.out.cell 4
                      have g4 : Z.frozen? ⟨Y, 4, none⟩ = false := KY.out.froz 4
                      have v5 : Z.cell? ⟨Y, 5, none⟩ = some (.string ⟨#[]⟩) := KY.out.cell 5
                      have g5 : Z.frozen? ⟨Y, 5, none⟩ = false := KY.out.froz 5
                      go_upto_region 17 with fail
                      have F2 := hide1 (And.intro (KY.out.set 1 (.int .i64 0)) (And.intro (K5.out.far ⟨Y, 1, none⟩ (.int .i64 0) nXY) (E5.out.setCell (p := ⟨Y, 1, none⟩) leXY (.int .i64 0))))
                      clear v0 g0 v1 g1 v2 g2 v3 g3 v4 g4 v5 g5
                      generalize (Z.setCell ⟨Y, 1, none⟩ (.int .i64 0)) = Z2 at F2 ⊢
                      have K6 := hide1 F2.out.2.1
                      have E6 := hide1 F2.out.2.2
                      have K7 := hide1 F2.out.1
                      have v0 := K7.out.cell 0
                      have v1 := K7.out.cell 1
                      have v2 := K7.out.cell 2
                      have v3 := K7.out.cell 3
                      have v4 := K7.out.cell 4
                      have v5 := K7.out.cell 5
                      have z0 : Z2.cell? ⟨X, 0, none⟩ = some (.int .i64 0) := K6.out.cell 0
                      have f0 : Z2.frozen? ⟨X, 0, none⟩ = false := K6.out.froz 0
                      have z1 : Z2.cell? ⟨X, 1, none⟩ = some (.int .i64 0) := K6.out.cell 1
                      have f1 : Z2.frozen? ⟨X, 1, none⟩ = false := K6.out.froz 1
                      have z2 : Z2.cell? ⟨X, 2, none⟩ = some (.int .i64 0) := K6.out.cell 2
                      have f2 : Z2.frozen? ⟨X, 2, none⟩ = false := K6.out.froz 2
                      have z3 : Z2.cell? ⟨X, 3, none⟩ = some (.int .i64 0) := K6.out.cell 3
                      have f3 : Z2.frozen? ⟨X, 3, none⟩ = false := K6.out.froz 3
                      have z4 : Z2.cell? ⟨X, 4, none⟩ = some (.string ⟨#[]⟩) := K6.out.cell 4
                      have f4 : Z2.frozen? ⟨X, 4, none⟩ = false := K6.out.froz 4
                      have z5 : Z2.cell? ⟨X, 5, none⟩ = some (.string ⟨#[]⟩) := K6.out.cell 5
                      have f5 : Z2.frozen? ⟨X, 5, none⟩ = false := K6.out.froz 5
                      go_wp2
                      have SF := hide1 (show Blk ((((((Z2.setCell ⟨X, 0, none⟩ (.int .i64 k)).setCell ⟨X, 1, none⟩ (.int .i64 0)).setCell ⟨X, 2, none⟩ (.int .i64 0)).setCell ⟨X, 3, none⟩ (.int .i64 0)).setCell ⟨X, 4, none⟩ (.string ⟨#[]⟩)).setCell ⟨X, 5, none⟩ (.string ⟨#[]⟩)) X 40 [.int .i64 k, .int .i64 0, .int .i64 0, .int .i64 0, .string ⟨#[]⟩, .string ⟨#[]⟩] ∧ Below X w ((((((Z2.setCell ⟨X, 0, none⟩ (.int .i64 k)).setCell ⟨X, 1, none⟩ (.int .i64 0)).setCell ⟨X, 2, none⟩ (.int .i64 0)).setCell ⟨X, 3, none⟩ (.int .i64 0)).setCell ⟨X, 4, none⟩ (.string ⟨#[]⟩)).setCell ⟨X, 5, none⟩ (.string ⟨#[]⟩)) from ⟨((((((K6.out.set 0 _).set 1 _).set 2 _).set 3 _).set 4 _).set 5 _), ((((((E6.out.setCell (p := ⟨X, 0, none⟩) (Nat.le_refl _) _).setCell (p := ⟨X, 1, none⟩) (Nat.le_refl _) _).setCell (p := ⟨X, 2, none⟩) (Nat.le_refl _) _).setCell (p := ⟨X, 3, none⟩) (Nat.le_refl _) _).setCell (p := ⟨X, 4, none⟩) (Nat.le_refl _) _).setCell (p := ⟨X, 5, none⟩) (Nat.le_refl _) _)⟩)
                      generalize ((((((Z2.setCell ⟨X, 0, none⟩ (.int .i64 k)).setCell ⟨X, 1, none⟩ (.int .i64 0)).setCell ⟨X, 2, none⟩ (.int .i64 0)).setCell ⟨X, 3, none⟩ (.int .i64 0)).setCell ⟨X, 4, none⟩ (.string ⟨#[]⟩)).setCell ⟨X, 5, none⟩ (.string ⟨#[]⟩)) = W at SF ⊢
                      refine bodyPost_ret (resE2 Tryd.results16 _ _ X 40 #[.int .i64 k, .int .i64 0, .int .i64 0, .int .i64 0, .string ⟨#[]⟩, .string ⟨#[]⟩] (0, 0) _ rfl SF.out.1 Tryd.underlying40 rfl sizeEv) rfl ?_
                      exact ⟨⟨⟨k, 0, 0, 0, ⟨#[]⟩, ⟨#[]⟩⟩, by rw [RES.out]; rfl, fun y h => by rw [RES.out] at h; cases h⟩, by have h := SF.out.2; rw [HXW.out] at h; first | exact h | exact h.drew⟩
                · have NO := hide1 (show ¬ (evWords[i] = p[0] ∧ p.length = 2) from fun h => l2 h.2)
                  have q2 : ((n : Int) != 2) = true := by have := HN.out; simp; omega
                  have NX := hide1 (show ∀ j (h : j < evWords.length), j < i + 1 → ¬ (evWords[j] = p[0] ∧ p.length = 2) from fun j h hj => by
                    by_cases e : j = i
                    · subst e; exact NO.out
                    · exact HJ.out j h (by omega))
                  clear NO CR NONE ce
                  generalize evWords[i] = word at *
                  go_upto_region 11 with fail
                  have x0g : ∀ n : Gr wr, n.w.cell? ⟨g, o, none⟩ = some (.string p[0]) := fun n => n.cell x0
                  have y0g : ∀ n : Gr wr, n.w.cell? ⟨bw, ow + i, none⟩ = some (.string word) := fun n => n.cell y0
                  clear x0 y0
                  refine wp_region_grown (by kernel_rfl) (by kernel_rfl) ?_
                  (repeat (first | go_big_quiet_skip | (go_big_quiet_want; go_big_quiet_op; go_big_quiet_on)))
                  refine wpQuiet_nil ?_
                  rintro w2 ⟨m2, rfl⟩
                  go_wp2
                  go_roundw
                  case rel => exact ⟨i + 1, by omega, by go_num, NX, hide1 (BB.out.trans (m2.b.mono BB.out.size))⟩
                  case measure => simp [intOf]; omega
              · obtain ⟨s1, s1b⟩ := text_ne ce
                have s2 : ¬ evWords[i].toList = p[0].toList := fun e => ce (textEq e)
                have NO := hide1 (show ¬ (evWords[i] = p[0] ∧ p.length = 2) from fun h => ce h.1)
                have NX := hide1 (show ∀ j (h : j < evWords.length), j < i + 1 → ¬ (evWords[j] = p[0] ∧ p.length = 2) from fun j h hj => by
                  by_cases e : j = i
                  · subst e; exact NO.out
                  · exact HJ.out j h (by omega))
                clear NO CR NONE ce
                generalize evWords[i] = word at *
                go_upto_region 11 with fail
                have x0g : ∀ n : Gr wr, n.w.cell? ⟨g, o, none⟩ = some (.string p[0]) := fun n => n.cell x0
                have y0g : ∀ n : Gr wr, n.w.cell? ⟨bw, ow + i, none⟩ = some (.string word) := fun n => n.cell y0
                clear x0 y0
                refine wp_region_grown (by kernel_rfl) (by kernel_rfl) ?_
                (repeat (first | go_big_quiet_skip | (go_big_quiet_want; go_big_quiet_op; go_big_quiet_on)))
                refine wpQuiet_nil ?_
                rintro w2 ⟨m2, rfl⟩
                go_wp2
                go_roundw
                case rel => exact ⟨i + 1, by omega, by go_num, NX, hide1 (BB.out.trans (m2.b.mono BB.out.size))⟩
                case measure => simp [intOf]; omega
            · obtain rfl : i = 5 := by omega
              have k1 : ¬ ((5 : Int) < 5) := by omega
              have RES := hide1 (NONE.out (fun h => c1 h) (fun h => c2 h) (fun j h => HJ.out j h h))
              clear NONE CR
              have K5 := hide1 (KV.out.below BB.out (by omega))
              have E5 := hide1 (EV.out.trans (BB.out.mono (by omega)))
              have z0 : wr.cell? ⟨X, 0, none⟩ = some (.int .i64 0) := K5.out.cell 0
              have f0 : wr.frozen? ⟨X, 0, none⟩ = false := K5.out.froz 0
              have z1 : wr.cell? ⟨X, 1, none⟩ = some (.int .i64 0) := K5.out.cell 1
              have f1 : wr.frozen? ⟨X, 1, none⟩ = false := K5.out.froz 1
              have z2 : wr.cell? ⟨X, 2, none⟩ = some (.int .i64 0) := K5.out.cell 2
              have f2 : wr.frozen? ⟨X, 2, none⟩ = false := K5.out.froz 2
              have z3 : wr.cell? ⟨X, 3, none⟩ = some (.int .i64 0) := K5.out.cell 3
              have f3 : wr.frozen? ⟨X, 3, none⟩ = false := K5.out.froz 3
              have z4 : wr.cell? ⟨X, 4, none⟩ = some (.string ⟨#[]⟩) := K5.out.cell 4
              have f4 : wr.frozen? ⟨X, 4, none⟩ = false := K5.out.froz 4
              have z5 : wr.cell? ⟨X, 5, none⟩ = some (.string ⟨#[]⟩) := K5.out.cell 5
              have f5 : wr.frozen? ⟨X, 5, none⟩ = false := K5.out.froz 5
              go_wp2
              have SF := hide1 (show Blk ((((((wr.setCell ⟨X, 0, none⟩ (.int .i64 0)).setCell ⟨X, 1, none⟩ (.int .i64 0)).setCell ⟨X, 2, none⟩ (.int .i64 0)).setCell ⟨X, 3, none⟩ (.int .i64 0)).setCell ⟨X, 4, none⟩ (.string ⟨#[]⟩)).setCell ⟨X, 5, none⟩ (.string ⟨#[]⟩)) X 40 [.int .i64 0, .int .i64 0, .int .i64 0, .int .i64 0, .string ⟨#[]⟩, .string ⟨#[]⟩] ∧ Below X w ((((((wr.setCell ⟨X, 0, none⟩ (.int .i64 0)).setCell ⟨X, 1, none⟩ (.int .i64 0)).setCell ⟨X, 2, none⟩ (.int .i64 0)).setCell ⟨X, 3, none⟩ (.int .i64 0)).setCell ⟨X, 4, none⟩ (.string ⟨#[]⟩)).setCell ⟨X, 5, none⟩ (.string ⟨#[]⟩)) from ⟨((((((K5.out.set 0 _).set 1 _).set 2 _).set 3 _).set 4 _).set 5 _), ((((((E5.out.setCell (p := ⟨X, 0, none⟩) (Nat.le_refl _) _).setCell (p := ⟨X, 1, none⟩) (Nat.le_refl _) _).setCell (p := ⟨X, 2, none⟩) (Nat.le_refl _) _).setCell (p := ⟨X, 3, none⟩) (Nat.le_refl _) _).setCell (p := ⟨X, 4, none⟩) (Nat.le_refl _) _).setCell (p := ⟨X, 5, none⟩) (Nat.le_refl _) _)⟩)
              generalize ((((((wr.setCell ⟨X, 0, none⟩ (.int .i64 0)).setCell ⟨X, 1, none⟩ (.int .i64 0)).setCell ⟨X, 2, none⟩ (.int .i64 0)).setCell ⟨X, 3, none⟩ (.int .i64 0)).setCell ⟨X, 4, none⟩ (.string ⟨#[]⟩)).setCell ⟨X, 5, none⟩ (.string ⟨#[]⟩)) = W at SF ⊢
              refine bodyPost_ret (resE2 Tryd.results16 _ _ X 40 #[.int .i64 0, .int .i64 0, .int .i64 0, .int .i64 0, .string ⟨#[]⟩, .string ⟨#[]⟩] (0, 0) _ rfl SF.out.1 Tryd.underlying40 rfl sizeEv) rfl ?_
              exact ⟨⟨⟨0, 0, 0, 0, ⟨#[]⟩, ⟨#[]⟩⟩, by rw [RES.out]; rfl, fun y h => by rw [RES.out] at h; cases h⟩, by have h := SF.out.2; rw [HXW.out] at h; first | exact h | exact h.drew⟩
end Go.Proofs.YtelmchifpgaibaaDoor
