/- Drawn councils: a number of voices, of tries, and right events. -/
import Derived.Test.YtgehdgmllilmgaaCoDr
import Derived.Deep.DeepCutAuto
namespace Go.Proofs.Ytgehdgmllilmgaa
open Go.RowKit
set_option linter.unusedVariables false

theorem valC_sizes : ∀ j : Fin 5, 1 ≤ (valB.getD j.1 []).length ∧ (valB.getD j.1 []).length ≤ 40 := by decide
set_option maxHeartbeats 400000 in
theorem valueC_any {B : Nat} {w : World} {a : Option Addr} {len cap g : Nat} (h : Drw B w a len cap g) :
    Calls Try.prog 72 #[.pointer (some ⟨g, 0, none⟩)] w fun e w' => ∃ z : ByteArray, e = .returned (.string z) ∧ (1 ≤ z.size ∧ z.size ≤ 40) ∧ Drw B w' a len cap g ∧ w.grownBy w' (some g) := by
  have hlt := h.lt
  go_enter Try.func72, Try.ntmps72
  go_wp2_with fail
  refine (pick_any (h.later ((Below.refl _ _).alloc (Nat.le_refl _) _)) w.heap.size 5 5 (by omega) (by omega) (by omega) (fun j => ⟨(valB.getD j []).toArray⟩) (fun j hj => ?_) (by rw [World.size_alloc]; omega)).mono ?_
  · rw [World.cell?_alloc_at _ _ _ _ rfl]
    match j, hj with
    | 0, _ => rfl
    | 1, _ => rfl
    | 2, _ => rfl
    | 3, _ => rfl
    | 4, _ => rfl
  · rintro e w2 ⟨j, hj, rfl, h2, hb2⟩
    have hsz := valC_sizes ⟨j, hj⟩
    obtain ⟨z, hz⟩ : ∃ z : ByteArray, z = ⟨(valB.getD j []).toArray⟩ := ⟨_, rfl⟩
    have hzs : 1 ≤ z.size ∧ z.size ≤ 40 := by rw [hz]; show 1 ≤ (valB.getD j []).toArray.size ∧ (valB.getD j []).toArray.size ≤ 40; rw [List.size_toArray]; exact hsz
    have HZ := hide1 hzs
    rw [← hz]
    clear hz hsz hzs
    go_wp2
    go_ret
    exact ⟨z, rfl, HZ.out, h2, (World.grownBy_alloc w _ _).trans hb2⟩

theorem okHp_size {t : Int} {e : Hp} (h : okHp t e) : e.v.size ≤ 40 := by
  by_cases c : e.k = 1
  · exact (h.2.2.2.1 c).2
  · have h2 := h.2.2.2.2 c
    have e1 : e.v.toList = e.v.data.toList := ByteArray.toList_eq e.v
    rw [e1] at h2
    have : e.v.data.size = 0 := by rw [← Array.length_toList, h2]; rfl
    show e.v.data.size ≤ 40
    omega
theorem okHp.draw {t : Nat} {k : Int} {x y : Nat} {v : ByteArray} (hx : x < t) (hk : 1 ≤ k ∧ k ≤ 4) (h1 : k = 1 → 1 ≤ v.size ∧ v.size ≤ 40) (h2 : k ≠ 1 → v.toList = []) : okHp t ⟨k, 1 + (x : Int), (y : Int), v⟩ :=
  ⟨hk, ⟨by show (1 : Int) ≤ 1 + (x : Int); omega, by show 1 + (x : Int) ≤ (t : Int); omega⟩, by show (0 : Int) ≤ (y : Int); omega, h1, h2⟩
set_option maxRecDepth 100000 in
set_option maxHeartbeats 8000000 in
theorem drawD_any {B : Nat} {w : World} {a : Option Addr} {len cap g : Nat} (cap2 : Nat) (hlen : len ≤ 1048576) (h : Drw B w a len cap g) :
    Calls Try.prog 36 #[.pointer (some ⟨g, 0, none⟩), .slice a len cap2] w fun r w' => ∃ (v t : Nat) (es : List Hp) (eb : Option Addr) (ec : Nat), r = .returned (.agg #[.int .i64 (v : Int), .int .i64 (t : Int), .slice eb es.length ec]) ∧ (1 ≤ v ∧ v ≤ 5) ∧ (1 ≤ t ∧ t ≤ 3) ∧ es.length ≤ 79 ∧ (∀ e ∈ es, okHp t e) ∧ RdG hpC 4 w' eb es ∧ Drw B w' a len cap g ∧ w.grownBy w' (some g) := by
  have hglt := h.lt
  have F0 := hide1 (And.intro (Blk.new w 71 #[.int .i64 0, .int .i64 0, .slice none 0 0]) ((Below.refl w.heap.size w).alloc (Nat.le_refl _) (.cells #[.int .i64 0, .int .i64 0, .slice none 0 0] 71)))
  have D0 := hide1 (h.later F0.out.2)
  clear h
  go_enter Try.func36, Try.ntmps36
  go_wp2_with fail
  generalize (w.alloc (.cells #[.int .i64 0, .int .i64 0, .slice none 0 0] 71)) = u at F0 D0 ⊢
  refine (below_any D0.out 5 (by omega)).mono ?_
  rintro e w1 ⟨x1, rfl, hx1, _, h1, g1⟩
  have c1 : x1 < 5 := by have := hx1 (by omega); omega
  have D1 := hide1 h1
  have G1 := hide1 (show w.grownBy w1 (some g) from gtrans (gnew F0.out.2) g1)
  have R1 := hide1 (gblk g1 F0.out.1 (by intro e; injection e; omega))
  clear hx1 h1 g1 D0
  go_wp2_with fail
  refine (below_any D1.out 3 (by omega)).mono ?_
  rintro e w2 ⟨x2, rfl, hx2, _, h2, g2⟩
  have c2 : x2 < 3 := by have := hx2 (by omega); omega
  have D2 := hide1 h2
  have G2 := hide1 (gtrans G1.out g2)
  have R2 := hide1 (gblk g2 R1.out (by intro e; injection e; omega))
  clear hx2 h2 g2 D1 G1 R1
  have qv : IntKind.i64.wrap (1 + (x1 : Int)) = 1 + (x1 : Int) := IntWalk.i64_in _ ⟨by omega, by omega⟩
  have qt : IntKind.i64.wrap (1 + (x2 : Int)) = 1 + (x2 : Int) := IntWalk.i64_in _ ⟨by omega, by omega⟩
  obtain ⟨vn, hvn⟩ : ∃ n : Nat, n = x1 + 1 := ⟨_, rfl⟩
  obtain ⟨tn, htn⟩ : ∃ n : Nat, n = x2 + 1 := ⟨_, rfl⟩
  go_upto_region 2 with fail
  rw [show 1 + (x1 : Int) = (vn : Int) by omega, show 1 + (x2 : Int) = (tn : Int) by omega]
  have hv : 1 ≤ vn ∧ vn ≤ 5 := by omega
  have ht : 1 ≤ tn ∧ tn ≤ 3 := by omega
  clear hvn htn qv qt c1 c2 F0
  have FD := hide1 (And.intro (Blk.new w2 71 #[.int .i64 (vn : Int), .int .i64 (tn : Int), .slice none 0 0]) ((Below.refl w2.heap.size w2).alloc (Nat.le_refl _) (.cells #[.int .i64 (vn : Int), .int .i64 (tn : Int), .slice none 0 0] 71)))
  generalize (w2.alloc (.cells #[.int .i64 (vn : Int), .int .i64 (tn : Int), .slice none 0 0] 71)) = w3 at FD ⊢
  obtain ⟨Dd, hDd⟩ : ∃ D, D = w2.heap.size := ⟨_, rfl⟩
  have lR : w.heap.size < w2.heap.size := R2.out.lt
  have KD := hide1 FD.out.1
  rw [← hDd] at KD ⊢
  have D3 := hide1 (D2.out.later FD.out.2)
  have G3 := hide1 (show w.grownBy w3 (some g) from gtrans G2.out (gnew FD.out.2))
  have R3 := hide1 (R2.out.below FD.out.2 R2.out.lt)
  have hRD : w.heap.size < Dd := by omega
  have lD : Dd < w3.heap.size := KD.out.lt
  clear D2 G2 R2 FD hDd
  have y0 : w3.cell? ⟨Dd, 0, none⟩ = some (.int .i64 (vn : Int)) := KD.out.cell 0
  have y1 : w3.cell? ⟨Dd, 1, none⟩ = some (.int .i64 (tn : Int)) := KD.out.cell 1
  have okN : okNew (vn : Int) (tn : Int) := ⟨by omega, by omega⟩
  have E1 := hide1 (show newC (vn : Int) (tn : Int) = newCn vn tn by unfold newC; rw [if_pos okN, Int.toNat_natCast, Int.toNat_natCast])
  have E2 := hide1 (decide_eq_true okN)
  clear okN
  go_wp2_with fail
  refine (specNewC_any (lo := LoB (Dd + 1) none) (vn : Int) (tn : Int) w3 (LoB.none lD)).mono ?_
  rintro e w4 ⟨⟨A, rfl, hA⟩, hb4⟩
  rw [E1.out, E2.out, newCn_cells]
  have HA := hide1 (hA w4.heap.size (.inr (Nat.le_refl _)))
  rw [E1.out] at HA
  have FX := hide1 (And.intro (Blk.new w4 32 #[.slice A.va vn A.vc, .slice A.ta tn A.tc, .slice A.na 0 A.nc, .slice A.ca 0 A.cc]) ((Below.refl w4.heap.size w4).alloc (Nat.le_refl _) (.cells #[.slice A.va vn A.vc, .slice A.ta tn A.tc, .slice A.na 0 A.nc, .slice A.ca 0 A.cc] 32)))
  go_upto_region 3 with fail
  generalize (w4.alloc (.cells #[.slice A.va vn A.vc, .slice A.ta tn A.tc, .slice A.na 0 A.nc, .slice A.ca 0 A.cc] 32)) = w5 at FX ⊢
  obtain ⟨X, hX⟩ : ∃ X, X = w4.heap.size := ⟨_, rfl⟩
  have B5 := hide1 (hb4.trans (FX.out.2.mono hb4.size))
  have KX := hide1 FX.out.1
  have lDX : Dd < X := by have := hb4.size; omega
  have SE := hide1 (show StE B g Dd X w w5 a len cap vn tn none 0 A (newCn vn tn) [] from
    ⟨D3.out.later B5.out, gtrans G3.out (gnew B5.out), hglt, R3.out.below B5.out R3.out.lt, KD.out.below B5.out lD, hRD, ⟨by rw [newCn_cellsL, hX]; exact KX.out, LoB.none (by have := B5.out.size; omega), by rw [hX]; exact HA.out.grown (gnew FX.out.2)⟩, lDX, ⟨rfl, .inl ⟨rfl, rfl⟩⟩⟩)
  rw [← hX]
  clear hA hb4 FX KX HA D3 G3 R3 KD y0 y1 E1 E2 B5 hX lR lD
  have qd : (len : Int).tdiv 3 = ((len / 3 : Nat) : Int) := by rw [Int.tdiv_eq_ediv_of_nonneg (by omega)]; omega
  have qd2 : IntKind.i64.wrap ((len / 3 : Nat) : Int) = ((len / 3 : Nat) : Int) := IntWalk.i64_in _ ⟨by omega, by omega⟩
  have qd3 : IntKind.i64.wrap (20 + ((len / 3 : Nat) : Int)) = 20 + ((len / 3 : Nat) : Int) := IntWalk.i64_in _ ⟨by omega, by omega⟩
  by_cases c79 : 79 < 20 + ((len / 3 : Nat) : Int)
  · go_upto_region 6 with fail
    obtain ⟨N, hN⟩ : ∃ N : Int, N = 79 := ⟨_, rfl⟩
    rw [← hN]
    have hN0 : 0 ≤ N ∧ N ≤ 79 := by omega
    clear hN c79 qd qd2 qd3
    go_wp2
    go_loopw [9] (fun iv wr => ∃ (es : List Hp) (c : Cn) (A : CA) (eb : Option Addr) (ec : Nat), iv = .int .i64 (es.length : Int) ∧ (es.length : Int) ≤ N ∧ Hid (StE B g Dd X w wr a len cap vn tn eb ec A c es) ∧ Hid (GC vn tn (fun _ => True) c) ∧ Hid (Sz es.length c) ∧ Hid (∀ e ∈ es, okHp tn e)) (fun iv _ => N.toNat - (intOf iv).toNat)
    case atStart => exact ⟨[], newCn vn tn, A, none, 0, rfl, hN0.1, SE, hide1 (GC.new vn tn (by omega)), hide1 (Sz.new vn tn (by omega)), hide1 (by simp)⟩
    case round =>
      obtain ⟨es, c, A, eb, ec, rfl, hiN, S0, HG, HS, HE⟩ := hrel
      by_cases hlt : (es.length : Int) < N
      · go_upto_region 9 with fail
        refine regEv rfl S0.out ht ?_
        intro e38 Eb j x y w6 hx hy hXE hUE hKE hS1
        have hk := kE_in j
        generalize kE.getD j 1 = kk at hk hKE ⊢
        have KE := hide1 hKE
        have S1 := hide1 hS1
        have x2 : w6.cell? ⟨X, 2, none⟩ = some (.slice A.na c.ns.length A.nc) := S1.out.x.b.cell 2
        have f0 : w6.cell? ⟨Eb, 0, none⟩ = some (.int .i64 kk) := KE.out.cell 0
        have f1 : w6.cell? ⟨Eb, 1, none⟩ = some (.int .i64 (1 + (x : Int))) := KE.out.cell 1
        have f2 : w6.cell? ⟨Eb, 2, none⟩ = some (.int .i64 (y : Int)) := KE.out.cell 2
        have f3 : w6.cell? ⟨Eb, 3, none⟩ = some (.string ⟨#[]⟩) := KE.out.cell 3
        have hgX : g < X := by have := S1.out.hg; have := S1.out.hD; have := S1.out.hX; omega
        have hDX : Dd < X := S1.out.hX
        clear hKE hS1
        by_cases c0 : c.ns.length = 0
        · have q0 : ((c.ns.length : Int) == 0) = true := by simp [c0]
          have ff : w6.frozen? ⟨Eb, 0, none⟩ = false := KE.out.froz 0
          have lE6 : Eb < w6.heap.size := KE.out.lt
          have KS := hide1 (Blk.set KE.out 0 (.int .i64 1))
          have SS := hide1 (S0.out.setE (j := 0) (u := .int .i64 1) S1.out hUE KE.out.lt)
          clear c0
          go_upto_region 12 with fail
          generalize w6.setCell ⟨Eb, 0, none⟩ (.int .i64 1) = w6' at KS SS ⊢
          have KE := hide1 (show Blk w6' Eb 40 [.int .i64 1, .int .i64 (1 + (x : Int)), .int .i64 (y : Int), .string ⟨#[]⟩] from KS.out)
          clear KS f0 f1 f2 f3 x2 ff lE6
          have x2 : w6'.cell? ⟨X, 2, none⟩ = some (.slice A.na c.ns.length A.nc) := SS.out.x.b.cell 2
          have f0 : w6'.cell? ⟨Eb, 0, none⟩ = some (.int .i64 1) := KE.out.cell 0
          have f1 : w6'.cell? ⟨Eb, 1, none⟩ = some (.int .i64 (1 + (x : Int))) := KE.out.cell 1
          have f2 : w6'.cell? ⟨Eb, 2, none⟩ = some (.int .i64 (y : Int)) := KE.out.cell 2
          have f3 : w6'.cell? ⟨Eb, 3, none⟩ = some (.string ⟨#[]⟩) := KE.out.cell 3
          go_wp2_with fail
          refine (valueC_any SS.out.drw).mono ?_
          rintro r w9 ⟨z, rfl, hz, hd9, hg9⟩
          have HZ := hide1 hz
          have S9 := hide1 (SS.out.draw hd9 hg9)
          have K9 := hide1 (gblk hg9 KE.out (by intro e; injection e; omega))
          clear hz hd9 hg9 f0 f1 f2 f3 x2
          have g3 : w9.cell? ⟨Eb, 3, none⟩ = some (.string ⟨#[]⟩) := K9.out.cell 3
          have gf : w9.frozen? ⟨Eb, 3, none⟩ = false := K9.out.froz 3
          have lE9 : Eb < w9.heap.size := K9.out.lt
          have KS := hide1 (Blk.set K9.out 3 (.string z))
          have SS := hide1 (S0.out.setE (j := 3) (u := .string z) S9.out hUE K9.out.lt)
          go_upto_region 14 with fail
          generalize w9.setCell ⟨Eb, 3, none⟩ (.string z) = wz at KS SS ⊢
          have KE := hide1 (show Blk wz Eb 40 [.int .i64 1, .int .i64 (1 + (x : Int)), .int .i64 (y : Int), .string z] from KS.out)
          clear KS K9 S9 g3 gf lE9
          have HO := hide1 (show okHp tn ⟨1, 1 + (x : Int), (y : Int), z⟩ from okHp.draw hx (by omega) (fun _ => HZ.out) (fun h => absurd rfl h))
          have hfit := fit_of HG.out HS.out (by omega)
          have ht9 : c.ts.length = tn := by obtain ⟨_, _, G⟩ := HG.out; exact G.nt
          have CDo := hide1 (specDo_any c ⟨1, 1 + (x : Int), (y : Int), z⟩ X A wz SS.out.x hfit.1 hfit.2 (by show (1 : Int) ≤ 1 + (x : Int); omega) (by show 1 + (x : Int) ≤ _; omega) (by show (0 : Int) ≤ (y : Int); omega))
          have f0 : wz.cell? ⟨Eb, 0, none⟩ = some (.int .i64 1) := KE.out.cell 0
          have f1 : wz.cell? ⟨Eb, 1, none⟩ = some (.int .i64 (1 + (x : Int))) := KE.out.cell 1
          have f2 : wz.cell? ⟨Eb, 2, none⟩ = some (.int .i64 (y : Int)) := KE.out.cell 2
          have f3 : wz.cell? ⟨Eb, 3, none⟩ = some (.string z) := KE.out.cell 3
          clear hfit ht9
          go_wp2_with fail
          refine CDo.out.mono ?_
          rintro r w7 ⟨rfl, ⟨A', hA'⟩, hg7⟩
          have S7 := hide1 (SS.out.next hg7 hA')
          have K7 := hide1 (gblk hg7 KE.out (by intro e; injection e; omega))
          clear f0 f1 f2 f3 CDo hA' hg7
          have d2 : w7.cell? ⟨Dd, 2, none⟩ = some (.slice eb es.length ec) := S7.out.d.cell 2
          have f0 : w7.cell? ⟨Eb, 0, none⟩ = some (.int .i64 1) := K7.out.cell 0
          have f1 : w7.cell? ⟨Eb, 1, none⟩ = some (.int .i64 (1 + (x : Int))) := K7.out.cell 1
          have f2 : w7.cell? ⟨Eb, 2, none⟩ = some (.int .i64 (y : Int)) := K7.out.cell 2
          have f3 : w7.cell? ⟨Eb, 3, none⟩ = some (.string z) := K7.out.cell 3
          have FL := hide1 (And.intro (Blk.new w7 40 #[.int .i64 1, .int .i64 (1 + (x : Int)), .int .i64 (y : Int), .string z]) ((Below.refl w7.heap.size w7).alloc (Nat.le_refl _) (.cells #[.int .i64 1, .int .i64 (1 + (x : Int)), .int .i64 (y : Int), .string z] 40)))
          have lX7 : X < w7.heap.size := S7.out.lX
          have lD7 : Dd < w7.heap.size := S7.out.d.lt
          have lEb : Eb < w7.heap.size := K7.out.lt
          have hDE : Dd ≠ Eb := by have := SS.out.hX; omega
          go_wp2_with (at_builtin; (refine wpList_appA encH rowH rfl (.tmp 62) (.tmp 64) rfl (X + 1) _ es.length es rfl (own_kept S7.out.ev FL.out.2) (some ⟨w7.heap.size, 0, none⟩) 1 1 [⟨1, 1 + (x : Int), (y : Int), z⟩] rfl rfl (rd_one encH FL.out.1) (by omega) (by have := FL.out.2.size; omega) ?_; intro b5 c5 w8 ho8 hg8 hp8; have P8 := hide1 ((S7.out.later FL.out.2).push hg8 hp8 ho8); have z2 : w8.cell? ⟨Dd, 2, none⟩ = some (.slice eb es.length ec) := (gblk hg8 (S7.out.later FL.out.2).d (fun e => by have := ((S7.out.later FL.out.2).ev.lt _ e).1; have := SS.out.hX; omega)).cell 2; have zf : w8.frozen? ⟨Dd, 2, none⟩ = false := (gblk hg8 (S7.out.later FL.out.2).d (fun e => by have := ((S7.out.later FL.out.2).ev.lt _ e).1; have := SS.out.hX; omega)).froz 2; clear ho8 hg8 hp8))
          go_roundw
          case rel =>
            refine ⟨es ++ [⟨1, 1 + (x : Int), (y : Int), z⟩], (doC c ⟨1, 1 + (x : Int), (y : Int), z⟩).1, A', b5, c5, ?_, ?_, P8, hide1 (HG.out.doC HO.out (fun _ => trivial)), ?_, hide1 (fun e' he' => ?_)⟩
            · rw [List.length_append]; go_num
            · rw [List.length_append, List.length_singleton]; omega
            · rw [List.length_append, List.length_singleton]; exact hide1 (HS.out.doC (okHp_size HO.out))
            · rcases List.mem_append.1 he' with he' | he'
              · exact HE.out e' he'
              · rw [List.mem_singleton] at he'; subst he'; exact HO.out
          case measure => simp [intOf]; omega
        · have q0 : ((c.ns.length : Int) == 0) = false := by simp only [beq_eq_false_iff_ne, ne_eq]; omega
          by_cases c1 : kk = 1
          · subst c1
            clear c0
            go_wp2_with fail
            refine (valueC_any S1.out.drw).mono ?_
            rintro r w9 ⟨z, rfl, hz, hd9, hg9⟩
            have HZ := hide1 hz
            have S9 := hide1 (S1.out.draw hd9 hg9)
            have K9 := hide1 (gblk hg9 KE.out (by intro e; injection e; omega))
            clear hz hd9 hg9 f0 f1 f2 f3 x2
            have g3 : w9.cell? ⟨Eb, 3, none⟩ = some (.string ⟨#[]⟩) := K9.out.cell 3
            have gf : w9.frozen? ⟨Eb, 3, none⟩ = false := K9.out.froz 3
            have lE9 : Eb < w9.heap.size := K9.out.lt
            have KS := hide1 (Blk.set K9.out 3 (.string z))
            have SS := hide1 (S0.out.setE (j := 3) (u := .string z) S9.out hUE K9.out.lt)
            go_upto_region 14 with fail
            generalize w9.setCell ⟨Eb, 3, none⟩ (.string z) = wz at KS SS ⊢
            have KE := hide1 (show Blk wz Eb 40 [.int .i64 1, .int .i64 (1 + (x : Int)), .int .i64 (y : Int), .string z] from KS.out)
            clear KS K9 S9 g3 gf lE9
            have HO := hide1 (show okHp tn ⟨1, 1 + (x : Int), (y : Int), z⟩ from okHp.draw hx (by omega) (fun _ => HZ.out) (fun h => absurd rfl h))
            have hfit := fit_of HG.out HS.out (by omega)
            have ht9 : c.ts.length = tn := by obtain ⟨_, _, G⟩ := HG.out; exact G.nt
            have CDo := hide1 (specDo_any c ⟨1, 1 + (x : Int), (y : Int), z⟩ X A wz SS.out.x hfit.1 hfit.2 (by show (1 : Int) ≤ 1 + (x : Int); omega) (by show 1 + (x : Int) ≤ _; omega) (by show (0 : Int) ≤ (y : Int); omega))
            have f0 : wz.cell? ⟨Eb, 0, none⟩ = some (.int .i64 1) := KE.out.cell 0
            have f1 : wz.cell? ⟨Eb, 1, none⟩ = some (.int .i64 (1 + (x : Int))) := KE.out.cell 1
            have f2 : wz.cell? ⟨Eb, 2, none⟩ = some (.int .i64 (y : Int)) := KE.out.cell 2
            have f3 : wz.cell? ⟨Eb, 3, none⟩ = some (.string z) := KE.out.cell 3
            clear hfit ht9
            go_wp2_with fail
            refine CDo.out.mono ?_
            rintro r w7 ⟨rfl, ⟨A', hA'⟩, hg7⟩
            have S7 := hide1 (SS.out.next hg7 hA')
            have K7 := hide1 (gblk hg7 KE.out (by intro e; injection e; omega))
            clear f0 f1 f2 f3 CDo hA' hg7
            have d2 : w7.cell? ⟨Dd, 2, none⟩ = some (.slice eb es.length ec) := S7.out.d.cell 2
            have f0 : w7.cell? ⟨Eb, 0, none⟩ = some (.int .i64 1) := K7.out.cell 0
            have f1 : w7.cell? ⟨Eb, 1, none⟩ = some (.int .i64 (1 + (x : Int))) := K7.out.cell 1
            have f2 : w7.cell? ⟨Eb, 2, none⟩ = some (.int .i64 (y : Int)) := K7.out.cell 2
            have f3 : w7.cell? ⟨Eb, 3, none⟩ = some (.string z) := K7.out.cell 3
            have FL := hide1 (And.intro (Blk.new w7 40 #[.int .i64 1, .int .i64 (1 + (x : Int)), .int .i64 (y : Int), .string z]) ((Below.refl w7.heap.size w7).alloc (Nat.le_refl _) (.cells #[.int .i64 1, .int .i64 (1 + (x : Int)), .int .i64 (y : Int), .string z] 40)))
            have lX7 : X < w7.heap.size := S7.out.lX
            have lD7 : Dd < w7.heap.size := S7.out.d.lt
            have lEb : Eb < w7.heap.size := K7.out.lt
            have hDE : Dd ≠ Eb := by have := SS.out.hX; omega
            go_wp2_with (at_builtin; (refine wpList_appA encH rowH rfl (.tmp 62) (.tmp 64) rfl (X + 1) _ es.length es rfl (own_kept S7.out.ev FL.out.2) (some ⟨w7.heap.size, 0, none⟩) 1 1 [⟨1, 1 + (x : Int), (y : Int), z⟩] rfl rfl (rd_one encH FL.out.1) (by omega) (by have := FL.out.2.size; omega) ?_; intro b5 c5 w8 ho8 hg8 hp8; have P8 := hide1 ((S7.out.later FL.out.2).push hg8 hp8 ho8); have z2 : w8.cell? ⟨Dd, 2, none⟩ = some (.slice eb es.length ec) := (gblk hg8 (S7.out.later FL.out.2).d (fun e => by have := ((S7.out.later FL.out.2).ev.lt _ e).1; have := SS.out.hX; omega)).cell 2; have zf : w8.frozen? ⟨Dd, 2, none⟩ = false := (gblk hg8 (S7.out.later FL.out.2).d (fun e => by have := ((S7.out.later FL.out.2).ev.lt _ e).1; have := SS.out.hX; omega)).froz 2; clear ho8 hg8 hp8))
            go_roundw
            case rel =>
              refine ⟨es ++ [⟨1, 1 + (x : Int), (y : Int), z⟩], (doC c ⟨1, 1 + (x : Int), (y : Int), z⟩).1, A', b5, c5, ?_, ?_, P8, hide1 (HG.out.doC HO.out (fun _ => trivial)), ?_, hide1 (fun e' he' => ?_)⟩
              · rw [List.length_append]; go_num
              · rw [List.length_append, List.length_singleton]; omega
              · rw [List.length_append, List.length_singleton]; exact hide1 (HS.out.doC (okHp_size HO.out))
              · rcases List.mem_append.1 he' with he' | he'
                · exact HE.out e' he'
                · rw [List.mem_singleton] at he'; subst he'; exact HO.out
            case measure => simp [intOf]; omega
          · have q1 : (kk == 1) = false := by simp [c1]
            clear f0 f1 f2 f3 x2
            have x2 : w6.cell? ⟨X, 2, none⟩ = some (.slice A.na c.ns.length A.nc) := S1.out.x.b.cell 2
            clear c0
            have HO := hide1 (show okHp tn ⟨kk, 1 + (x : Int), (y : Int), ⟨#[]⟩⟩ from okHp.draw hx hk (fun h => absurd h c1) (fun _ => ByteArray.toList_eq _))
            have hfit := fit_of HG.out HS.out (by omega)
            have ht9 : c.ts.length = tn := by obtain ⟨_, _, G⟩ := HG.out; exact G.nt
            have CDo := hide1 (specDo_any c ⟨kk, 1 + (x : Int), (y : Int), ⟨#[]⟩⟩ X A w6 S1.out.x hfit.1 hfit.2 (by show (1 : Int) ≤ 1 + (x : Int); omega) (by show 1 + (x : Int) ≤ _; omega) (by show (0 : Int) ≤ (y : Int); omega))
            have f0 : w6.cell? ⟨Eb, 0, none⟩ = some (.int .i64 kk) := KE.out.cell 0
            have f1 : w6.cell? ⟨Eb, 1, none⟩ = some (.int .i64 (1 + (x : Int))) := KE.out.cell 1
            have f2 : w6.cell? ⟨Eb, 2, none⟩ = some (.int .i64 (y : Int)) := KE.out.cell 2
            have f3 : w6.cell? ⟨Eb, 3, none⟩ = some (.string ⟨#[]⟩) := KE.out.cell 3
            clear hfit ht9
            go_wp2_with fail
            refine CDo.out.mono ?_
            rintro r w7 ⟨rfl, ⟨A', hA'⟩, hg7⟩
            have S7 := hide1 (S1.out.next hg7 hA')
            have K7 := hide1 (gblk hg7 KE.out (by intro e; injection e; omega))
            clear f0 f1 f2 f3 CDo hA' hg7
            have d2 : w7.cell? ⟨Dd, 2, none⟩ = some (.slice eb es.length ec) := S7.out.d.cell 2
            have f0 : w7.cell? ⟨Eb, 0, none⟩ = some (.int .i64 kk) := K7.out.cell 0
            have f1 : w7.cell? ⟨Eb, 1, none⟩ = some (.int .i64 (1 + (x : Int))) := K7.out.cell 1
            have f2 : w7.cell? ⟨Eb, 2, none⟩ = some (.int .i64 (y : Int)) := K7.out.cell 2
            have f3 : w7.cell? ⟨Eb, 3, none⟩ = some (.string ⟨#[]⟩) := K7.out.cell 3
            have FL := hide1 (And.intro (Blk.new w7 40 #[.int .i64 kk, .int .i64 (1 + (x : Int)), .int .i64 (y : Int), .string ⟨#[]⟩]) ((Below.refl w7.heap.size w7).alloc (Nat.le_refl _) (.cells #[.int .i64 kk, .int .i64 (1 + (x : Int)), .int .i64 (y : Int), .string ⟨#[]⟩] 40)))
            have lX7 : X < w7.heap.size := S7.out.lX
            have lD7 : Dd < w7.heap.size := S7.out.d.lt
            have lEb : Eb < w7.heap.size := K7.out.lt
            have hDE : Dd ≠ Eb := by have := S1.out.hX; omega
            go_wp2_with (at_builtin; (refine wpList_appA encH rowH rfl (.tmp 62) (.tmp 64) rfl (X + 1) _ es.length es rfl (own_kept S7.out.ev FL.out.2) (some ⟨w7.heap.size, 0, none⟩) 1 1 [⟨kk, 1 + (x : Int), (y : Int), ⟨#[]⟩⟩] rfl rfl (rd_one encH FL.out.1) (by omega) (by have := FL.out.2.size; omega) ?_; intro b5 c5 w8 ho8 hg8 hp8; have P8 := hide1 ((S7.out.later FL.out.2).push hg8 hp8 ho8); have z2 : w8.cell? ⟨Dd, 2, none⟩ = some (.slice eb es.length ec) := (gblk hg8 (S7.out.later FL.out.2).d (fun e => by have := ((S7.out.later FL.out.2).ev.lt _ e).1; have := S1.out.hX; omega)).cell 2; have zf : w8.frozen? ⟨Dd, 2, none⟩ = false := (gblk hg8 (S7.out.later FL.out.2).d (fun e => by have := ((S7.out.later FL.out.2).ev.lt _ e).1; have := S1.out.hX; omega)).froz 2; clear ho8 hg8 hp8))
            go_roundw
            case rel =>
              refine ⟨es ++ [⟨kk, 1 + (x : Int), (y : Int), ⟨#[]⟩⟩], (doC c ⟨kk, 1 + (x : Int), (y : Int), ⟨#[]⟩⟩).1, A', b5, c5, ?_, ?_, P8, hide1 (HG.out.doC HO.out (fun _ => trivial)), ?_, hide1 (fun e' he' => ?_)⟩
              · rw [List.length_append]; go_num
              · rw [List.length_append, List.length_singleton]; omega
              · rw [List.length_append, List.length_singleton]; exact hide1 (HS.out.doC (okHp_size HO.out))
              · rcases List.mem_append.1 he' with he' | he'
                · exact HE.out e' he'
                · rw [List.mem_singleton] at he'; subst he'; exact HO.out
            case measure => simp [intOf]; omega
      · have hlt2 : ¬ ((es.length : Int) < N) := hlt
        have D0 := hide1 S0.out.d
        have R0 := hide1 S0.out.res
        have d0 : wr.cell? ⟨Dd, 0, none⟩ = some (.int .i64 (vn : Int)) := D0.out.cell 0
        have d1 : wr.cell? ⟨Dd, 1, none⟩ = some (.int .i64 (tn : Int)) := D0.out.cell 1
        have d2 : wr.cell? ⟨Dd, 2, none⟩ = some (.slice eb es.length ec) := D0.out.cell 2
        have r0 : wr.cell? ⟨w.heap.size, 0, none⟩ = some (.int .i64 0) := R0.out.cell 0
        have r1 : wr.cell? ⟨w.heap.size, 1, none⟩ = some (.int .i64 0) := R0.out.cell 1
        have r2 : wr.cell? ⟨w.heap.size, 2, none⟩ = some (.slice none 0 0) := R0.out.cell 2
        have rf : ∀ j, wr.frozen? ⟨w.heap.size, j, none⟩ = false := fun j => R0.out.froz j
        have hRD2 : w.heap.size ≠ Dd := by omega
        go_wp2
        refine bodyPost_ret (results_cell_row Try.results36 _ _ w.heap.size 71 #[.int .i64 (vn : Int), .int .i64 (tn : Int), .slice eb es.length ec] (0, 0) _ rfl (Blk.set (Blk.set (Blk.set R0.out 0 _) 1 _) 2 _) Try.underlying71 rfl (by kernel_rfl)) rfl ?_
        have hg3 : ∀ (p q r : Value), w.grownBy (((wr.setCell ⟨w.heap.size, 0, none⟩ p).setCell ⟨w.heap.size, 1, none⟩ q).setCell ⟨w.heap.size, 2, none⟩ r) (some g) := fun p q r => gsetU (gsetU (gsetU S0.out.grown (Nat.le_refl _)) (Nat.le_refl _)) (Nat.le_refl _)
        have hw3 : ∀ (p q r : Value), wr.grownBy (((wr.setCell ⟨w.heap.size, 0, none⟩ p).setCell ⟨w.heap.size, 1, none⟩ q).setCell ⟨w.heap.size, 2, none⟩ r) (some w.heap.size) := fun p q r => gset (gset (gset (World.grownBy.refl _ _) 0 p) 1 q) 2 r
        refine ⟨vn, tn, es, eb, ⟨ec, rfl⟩, hv, ht, by omega, HE.out, ?_, ?_, hg3 _ _ _⟩
        · exact (rdG_of_own encH.len S0.out.ev rfl).grown (lo := fun _ => True) (hw3 _ _ _) (own_ne S0.out.ev (by have := S0.out.hX; omega) (LoLe.all _))
        · exact S0.out.drw.keep (gbelow (B := w.heap.size) (hw3 _ _ _) (fun q hq => by injection hq with hq; omega) (Nat.le_of_lt R0.out.lt)) (by have := S0.out.drw.cur.1; omega) (by omega)
  · go_upto_region 6 with fail
    obtain ⟨N, hN⟩ : ∃ N : Int, N = 20 + (len : Int) / 3 := ⟨_, rfl⟩
    rw [← hN]
    have hN0 : 0 ≤ N ∧ N ≤ 79 := by omega
    clear hN c79 qd qd2 qd3
    go_wp2
    go_loopw [9] (fun iv wr => ∃ (es : List Hp) (c : Cn) (A : CA) (eb : Option Addr) (ec : Nat), iv = .int .i64 (es.length : Int) ∧ (es.length : Int) ≤ N ∧ Hid (StE B g Dd X w wr a len cap vn tn eb ec A c es) ∧ Hid (GC vn tn (fun _ => True) c) ∧ Hid (Sz es.length c) ∧ Hid (∀ e ∈ es, okHp tn e)) (fun iv _ => N.toNat - (intOf iv).toNat)
    case atStart => exact ⟨[], newCn vn tn, A, none, 0, rfl, hN0.1, SE, hide1 (GC.new vn tn (by omega)), hide1 (Sz.new vn tn (by omega)), hide1 (by simp)⟩
    case round =>
      obtain ⟨es, c, A, eb, ec, rfl, hiN, S0, HG, HS, HE⟩ := hrel
      by_cases hlt : (es.length : Int) < N
      · go_upto_region 9 with fail
        refine regEv rfl S0.out ht ?_
        intro e38 Eb j x y w6 hx hy hXE hUE hKE hS1
        have hk := kE_in j
        generalize kE.getD j 1 = kk at hk hKE ⊢
        have KE := hide1 hKE
        have S1 := hide1 hS1
        have x2 : w6.cell? ⟨X, 2, none⟩ = some (.slice A.na c.ns.length A.nc) := S1.out.x.b.cell 2
        have f0 : w6.cell? ⟨Eb, 0, none⟩ = some (.int .i64 kk) := KE.out.cell 0
        have f1 : w6.cell? ⟨Eb, 1, none⟩ = some (.int .i64 (1 + (x : Int))) := KE.out.cell 1
        have f2 : w6.cell? ⟨Eb, 2, none⟩ = some (.int .i64 (y : Int)) := KE.out.cell 2
        have f3 : w6.cell? ⟨Eb, 3, none⟩ = some (.string ⟨#[]⟩) := KE.out.cell 3
        have hgX : g < X := by have := S1.out.hg; have := S1.out.hD; have := S1.out.hX; omega
        have hDX : Dd < X := S1.out.hX
        clear hKE hS1
        by_cases c0 : c.ns.length = 0
        · have q0 : ((c.ns.length : Int) == 0) = true := by simp [c0]
          have ff : w6.frozen? ⟨Eb, 0, none⟩ = false := KE.out.froz 0
          have lE6 : Eb < w6.heap.size := KE.out.lt
          have KS := hide1 (Blk.set KE.out 0 (.int .i64 1))
          have SS := hide1 (S0.out.setE (j := 0) (u := .int .i64 1) S1.out hUE KE.out.lt)
          clear c0
          go_upto_region 12 with fail
          generalize w6.setCell ⟨Eb, 0, none⟩ (.int .i64 1) = w6' at KS SS ⊢
          have KE := hide1 (show Blk w6' Eb 40 [.int .i64 1, .int .i64 (1 + (x : Int)), .int .i64 (y : Int), .string ⟨#[]⟩] from KS.out)
          clear KS f0 f1 f2 f3 x2 ff lE6
          have x2 : w6'.cell? ⟨X, 2, none⟩ = some (.slice A.na c.ns.length A.nc) := SS.out.x.b.cell 2
          have f0 : w6'.cell? ⟨Eb, 0, none⟩ = some (.int .i64 1) := KE.out.cell 0
          have f1 : w6'.cell? ⟨Eb, 1, none⟩ = some (.int .i64 (1 + (x : Int))) := KE.out.cell 1
          have f2 : w6'.cell? ⟨Eb, 2, none⟩ = some (.int .i64 (y : Int)) := KE.out.cell 2
          have f3 : w6'.cell? ⟨Eb, 3, none⟩ = some (.string ⟨#[]⟩) := KE.out.cell 3
          go_wp2_with fail
          refine (valueC_any SS.out.drw).mono ?_
          rintro r w9 ⟨z, rfl, hz, hd9, hg9⟩
          have HZ := hide1 hz
          have S9 := hide1 (SS.out.draw hd9 hg9)
          have K9 := hide1 (gblk hg9 KE.out (by intro e; injection e; omega))
          clear hz hd9 hg9 f0 f1 f2 f3 x2
          have g3 : w9.cell? ⟨Eb, 3, none⟩ = some (.string ⟨#[]⟩) := K9.out.cell 3
          have gf : w9.frozen? ⟨Eb, 3, none⟩ = false := K9.out.froz 3
          have lE9 : Eb < w9.heap.size := K9.out.lt
          have KS := hide1 (Blk.set K9.out 3 (.string z))
          have SS := hide1 (S0.out.setE (j := 3) (u := .string z) S9.out hUE K9.out.lt)
          go_upto_region 14 with fail
          generalize w9.setCell ⟨Eb, 3, none⟩ (.string z) = wz at KS SS ⊢
          have KE := hide1 (show Blk wz Eb 40 [.int .i64 1, .int .i64 (1 + (x : Int)), .int .i64 (y : Int), .string z] from KS.out)
          clear KS K9 S9 g3 gf lE9
          have HO := hide1 (show okHp tn ⟨1, 1 + (x : Int), (y : Int), z⟩ from okHp.draw hx (by omega) (fun _ => HZ.out) (fun h => absurd rfl h))
          have hfit := fit_of HG.out HS.out (by omega)
          have ht9 : c.ts.length = tn := by obtain ⟨_, _, G⟩ := HG.out; exact G.nt
          have CDo := hide1 (specDo_any c ⟨1, 1 + (x : Int), (y : Int), z⟩ X A wz SS.out.x hfit.1 hfit.2 (by show (1 : Int) ≤ 1 + (x : Int); omega) (by show 1 + (x : Int) ≤ _; omega) (by show (0 : Int) ≤ (y : Int); omega))
          have f0 : wz.cell? ⟨Eb, 0, none⟩ = some (.int .i64 1) := KE.out.cell 0
          have f1 : wz.cell? ⟨Eb, 1, none⟩ = some (.int .i64 (1 + (x : Int))) := KE.out.cell 1
          have f2 : wz.cell? ⟨Eb, 2, none⟩ = some (.int .i64 (y : Int)) := KE.out.cell 2
          have f3 : wz.cell? ⟨Eb, 3, none⟩ = some (.string z) := KE.out.cell 3
          clear hfit ht9
          go_wp2_with fail
          refine CDo.out.mono ?_
          rintro r w7 ⟨rfl, ⟨A', hA'⟩, hg7⟩
          have S7 := hide1 (SS.out.next hg7 hA')
          have K7 := hide1 (gblk hg7 KE.out (by intro e; injection e; omega))
          clear f0 f1 f2 f3 CDo hA' hg7
          have d2 : w7.cell? ⟨Dd, 2, none⟩ = some (.slice eb es.length ec) := S7.out.d.cell 2
          have f0 : w7.cell? ⟨Eb, 0, none⟩ = some (.int .i64 1) := K7.out.cell 0
          have f1 : w7.cell? ⟨Eb, 1, none⟩ = some (.int .i64 (1 + (x : Int))) := K7.out.cell 1
          have f2 : w7.cell? ⟨Eb, 2, none⟩ = some (.int .i64 (y : Int)) := K7.out.cell 2
          have f3 : w7.cell? ⟨Eb, 3, none⟩ = some (.string z) := K7.out.cell 3
          have FL := hide1 (And.intro (Blk.new w7 40 #[.int .i64 1, .int .i64 (1 + (x : Int)), .int .i64 (y : Int), .string z]) ((Below.refl w7.heap.size w7).alloc (Nat.le_refl _) (.cells #[.int .i64 1, .int .i64 (1 + (x : Int)), .int .i64 (y : Int), .string z] 40)))
          have lX7 : X < w7.heap.size := S7.out.lX
          have lD7 : Dd < w7.heap.size := S7.out.d.lt
          have lEb : Eb < w7.heap.size := K7.out.lt
          have hDE : Dd ≠ Eb := by have := SS.out.hX; omega
          go_wp2_with (at_builtin; (refine wpList_appA encH rowH rfl (.tmp 62) (.tmp 64) rfl (X + 1) _ es.length es rfl (own_kept S7.out.ev FL.out.2) (some ⟨w7.heap.size, 0, none⟩) 1 1 [⟨1, 1 + (x : Int), (y : Int), z⟩] rfl rfl (rd_one encH FL.out.1) (by omega) (by have := FL.out.2.size; omega) ?_; intro b5 c5 w8 ho8 hg8 hp8; have P8 := hide1 ((S7.out.later FL.out.2).push hg8 hp8 ho8); have z2 : w8.cell? ⟨Dd, 2, none⟩ = some (.slice eb es.length ec) := (gblk hg8 (S7.out.later FL.out.2).d (fun e => by have := ((S7.out.later FL.out.2).ev.lt _ e).1; have := SS.out.hX; omega)).cell 2; have zf : w8.frozen? ⟨Dd, 2, none⟩ = false := (gblk hg8 (S7.out.later FL.out.2).d (fun e => by have := ((S7.out.later FL.out.2).ev.lt _ e).1; have := SS.out.hX; omega)).froz 2; clear ho8 hg8 hp8))
          go_roundw
          case rel =>
            refine ⟨es ++ [⟨1, 1 + (x : Int), (y : Int), z⟩], (doC c ⟨1, 1 + (x : Int), (y : Int), z⟩).1, A', b5, c5, ?_, ?_, P8, hide1 (HG.out.doC HO.out (fun _ => trivial)), ?_, hide1 (fun e' he' => ?_)⟩
            · rw [List.length_append]; go_num
            · rw [List.length_append, List.length_singleton]; omega
            · rw [List.length_append, List.length_singleton]; exact hide1 (HS.out.doC (okHp_size HO.out))
            · rcases List.mem_append.1 he' with he' | he'
              · exact HE.out e' he'
              · rw [List.mem_singleton] at he'; subst he'; exact HO.out
          case measure => simp [intOf]; omega
        · have q0 : ((c.ns.length : Int) == 0) = false := by simp only [beq_eq_false_iff_ne, ne_eq]; omega
          by_cases c1 : kk = 1
          · subst c1
            clear c0
            go_wp2_with fail
            refine (valueC_any S1.out.drw).mono ?_
            rintro r w9 ⟨z, rfl, hz, hd9, hg9⟩
            have HZ := hide1 hz
            have S9 := hide1 (S1.out.draw hd9 hg9)
            have K9 := hide1 (gblk hg9 KE.out (by intro e; injection e; omega))
            clear hz hd9 hg9 f0 f1 f2 f3 x2
            have g3 : w9.cell? ⟨Eb, 3, none⟩ = some (.string ⟨#[]⟩) := K9.out.cell 3
            have gf : w9.frozen? ⟨Eb, 3, none⟩ = false := K9.out.froz 3
            have lE9 : Eb < w9.heap.size := K9.out.lt
            have KS := hide1 (Blk.set K9.out 3 (.string z))
            have SS := hide1 (S0.out.setE (j := 3) (u := .string z) S9.out hUE K9.out.lt)
            go_upto_region 14 with fail
            generalize w9.setCell ⟨Eb, 3, none⟩ (.string z) = wz at KS SS ⊢
            have KE := hide1 (show Blk wz Eb 40 [.int .i64 1, .int .i64 (1 + (x : Int)), .int .i64 (y : Int), .string z] from KS.out)
            clear KS K9 S9 g3 gf lE9
            have HO := hide1 (show okHp tn ⟨1, 1 + (x : Int), (y : Int), z⟩ from okHp.draw hx (by omega) (fun _ => HZ.out) (fun h => absurd rfl h))
            have hfit := fit_of HG.out HS.out (by omega)
            have ht9 : c.ts.length = tn := by obtain ⟨_, _, G⟩ := HG.out; exact G.nt
            have CDo := hide1 (specDo_any c ⟨1, 1 + (x : Int), (y : Int), z⟩ X A wz SS.out.x hfit.1 hfit.2 (by show (1 : Int) ≤ 1 + (x : Int); omega) (by show 1 + (x : Int) ≤ _; omega) (by show (0 : Int) ≤ (y : Int); omega))
            have f0 : wz.cell? ⟨Eb, 0, none⟩ = some (.int .i64 1) := KE.out.cell 0
            have f1 : wz.cell? ⟨Eb, 1, none⟩ = some (.int .i64 (1 + (x : Int))) := KE.out.cell 1
            have f2 : wz.cell? ⟨Eb, 2, none⟩ = some (.int .i64 (y : Int)) := KE.out.cell 2
            have f3 : wz.cell? ⟨Eb, 3, none⟩ = some (.string z) := KE.out.cell 3
            clear hfit ht9
            go_wp2_with fail
            refine CDo.out.mono ?_
            rintro r w7 ⟨rfl, ⟨A', hA'⟩, hg7⟩
            have S7 := hide1 (SS.out.next hg7 hA')
            have K7 := hide1 (gblk hg7 KE.out (by intro e; injection e; omega))
            clear f0 f1 f2 f3 CDo hA' hg7
            have d2 : w7.cell? ⟨Dd, 2, none⟩ = some (.slice eb es.length ec) := S7.out.d.cell 2
            have f0 : w7.cell? ⟨Eb, 0, none⟩ = some (.int .i64 1) := K7.out.cell 0
            have f1 : w7.cell? ⟨Eb, 1, none⟩ = some (.int .i64 (1 + (x : Int))) := K7.out.cell 1
            have f2 : w7.cell? ⟨Eb, 2, none⟩ = some (.int .i64 (y : Int)) := K7.out.cell 2
            have f3 : w7.cell? ⟨Eb, 3, none⟩ = some (.string z) := K7.out.cell 3
            have FL := hide1 (And.intro (Blk.new w7 40 #[.int .i64 1, .int .i64 (1 + (x : Int)), .int .i64 (y : Int), .string z]) ((Below.refl w7.heap.size w7).alloc (Nat.le_refl _) (.cells #[.int .i64 1, .int .i64 (1 + (x : Int)), .int .i64 (y : Int), .string z] 40)))
            have lX7 : X < w7.heap.size := S7.out.lX
            have lD7 : Dd < w7.heap.size := S7.out.d.lt
            have lEb : Eb < w7.heap.size := K7.out.lt
            have hDE : Dd ≠ Eb := by have := SS.out.hX; omega
            go_wp2_with (at_builtin; (refine wpList_appA encH rowH rfl (.tmp 62) (.tmp 64) rfl (X + 1) _ es.length es rfl (own_kept S7.out.ev FL.out.2) (some ⟨w7.heap.size, 0, none⟩) 1 1 [⟨1, 1 + (x : Int), (y : Int), z⟩] rfl rfl (rd_one encH FL.out.1) (by omega) (by have := FL.out.2.size; omega) ?_; intro b5 c5 w8 ho8 hg8 hp8; have P8 := hide1 ((S7.out.later FL.out.2).push hg8 hp8 ho8); have z2 : w8.cell? ⟨Dd, 2, none⟩ = some (.slice eb es.length ec) := (gblk hg8 (S7.out.later FL.out.2).d (fun e => by have := ((S7.out.later FL.out.2).ev.lt _ e).1; have := SS.out.hX; omega)).cell 2; have zf : w8.frozen? ⟨Dd, 2, none⟩ = false := (gblk hg8 (S7.out.later FL.out.2).d (fun e => by have := ((S7.out.later FL.out.2).ev.lt _ e).1; have := SS.out.hX; omega)).froz 2; clear ho8 hg8 hp8))
            go_roundw
            case rel =>
              refine ⟨es ++ [⟨1, 1 + (x : Int), (y : Int), z⟩], (doC c ⟨1, 1 + (x : Int), (y : Int), z⟩).1, A', b5, c5, ?_, ?_, P8, hide1 (HG.out.doC HO.out (fun _ => trivial)), ?_, hide1 (fun e' he' => ?_)⟩
              · rw [List.length_append]; go_num
              · rw [List.length_append, List.length_singleton]; omega
              · rw [List.length_append, List.length_singleton]; exact hide1 (HS.out.doC (okHp_size HO.out))
              · rcases List.mem_append.1 he' with he' | he'
                · exact HE.out e' he'
                · rw [List.mem_singleton] at he'; subst he'; exact HO.out
            case measure => simp [intOf]; omega
          · have q1 : (kk == 1) = false := by simp [c1]
            clear f0 f1 f2 f3 x2
            have x2 : w6.cell? ⟨X, 2, none⟩ = some (.slice A.na c.ns.length A.nc) := S1.out.x.b.cell 2
            clear c0
            have HO := hide1 (show okHp tn ⟨kk, 1 + (x : Int), (y : Int), ⟨#[]⟩⟩ from okHp.draw hx hk (fun h => absurd h c1) (fun _ => ByteArray.toList_eq _))
            have hfit := fit_of HG.out HS.out (by omega)
            have ht9 : c.ts.length = tn := by obtain ⟨_, _, G⟩ := HG.out; exact G.nt
            have CDo := hide1 (specDo_any c ⟨kk, 1 + (x : Int), (y : Int), ⟨#[]⟩⟩ X A w6 S1.out.x hfit.1 hfit.2 (by show (1 : Int) ≤ 1 + (x : Int); omega) (by show 1 + (x : Int) ≤ _; omega) (by show (0 : Int) ≤ (y : Int); omega))
            have f0 : w6.cell? ⟨Eb, 0, none⟩ = some (.int .i64 kk) := KE.out.cell 0
            have f1 : w6.cell? ⟨Eb, 1, none⟩ = some (.int .i64 (1 + (x : Int))) := KE.out.cell 1
            have f2 : w6.cell? ⟨Eb, 2, none⟩ = some (.int .i64 (y : Int)) := KE.out.cell 2
            have f3 : w6.cell? ⟨Eb, 3, none⟩ = some (.string ⟨#[]⟩) := KE.out.cell 3
            clear hfit ht9
            go_wp2_with fail
            refine CDo.out.mono ?_
            rintro r w7 ⟨rfl, ⟨A', hA'⟩, hg7⟩
            have S7 := hide1 (S1.out.next hg7 hA')
            have K7 := hide1 (gblk hg7 KE.out (by intro e; injection e; omega))
            clear f0 f1 f2 f3 CDo hA' hg7
            have d2 : w7.cell? ⟨Dd, 2, none⟩ = some (.slice eb es.length ec) := S7.out.d.cell 2
            have f0 : w7.cell? ⟨Eb, 0, none⟩ = some (.int .i64 kk) := K7.out.cell 0
            have f1 : w7.cell? ⟨Eb, 1, none⟩ = some (.int .i64 (1 + (x : Int))) := K7.out.cell 1
            have f2 : w7.cell? ⟨Eb, 2, none⟩ = some (.int .i64 (y : Int)) := K7.out.cell 2
            have f3 : w7.cell? ⟨Eb, 3, none⟩ = some (.string ⟨#[]⟩) := K7.out.cell 3
            have FL := hide1 (And.intro (Blk.new w7 40 #[.int .i64 kk, .int .i64 (1 + (x : Int)), .int .i64 (y : Int), .string ⟨#[]⟩]) ((Below.refl w7.heap.size w7).alloc (Nat.le_refl _) (.cells #[.int .i64 kk, .int .i64 (1 + (x : Int)), .int .i64 (y : Int), .string ⟨#[]⟩] 40)))
            have lX7 : X < w7.heap.size := S7.out.lX
            have lD7 : Dd < w7.heap.size := S7.out.d.lt
            have lEb : Eb < w7.heap.size := K7.out.lt
            have hDE : Dd ≠ Eb := by have := S1.out.hX; omega
            go_wp2_with (at_builtin; (refine wpList_appA encH rowH rfl (.tmp 62) (.tmp 64) rfl (X + 1) _ es.length es rfl (own_kept S7.out.ev FL.out.2) (some ⟨w7.heap.size, 0, none⟩) 1 1 [⟨kk, 1 + (x : Int), (y : Int), ⟨#[]⟩⟩] rfl rfl (rd_one encH FL.out.1) (by omega) (by have := FL.out.2.size; omega) ?_; intro b5 c5 w8 ho8 hg8 hp8; have P8 := hide1 ((S7.out.later FL.out.2).push hg8 hp8 ho8); have z2 : w8.cell? ⟨Dd, 2, none⟩ = some (.slice eb es.length ec) := (gblk hg8 (S7.out.later FL.out.2).d (fun e => by have := ((S7.out.later FL.out.2).ev.lt _ e).1; have := S1.out.hX; omega)).cell 2; have zf : w8.frozen? ⟨Dd, 2, none⟩ = false := (gblk hg8 (S7.out.later FL.out.2).d (fun e => by have := ((S7.out.later FL.out.2).ev.lt _ e).1; have := S1.out.hX; omega)).froz 2; clear ho8 hg8 hp8))
            go_roundw
            case rel =>
              refine ⟨es ++ [⟨kk, 1 + (x : Int), (y : Int), ⟨#[]⟩⟩], (doC c ⟨kk, 1 + (x : Int), (y : Int), ⟨#[]⟩⟩).1, A', b5, c5, ?_, ?_, P8, hide1 (HG.out.doC HO.out (fun _ => trivial)), ?_, hide1 (fun e' he' => ?_)⟩
              · rw [List.length_append]; go_num
              · rw [List.length_append, List.length_singleton]; omega
              · rw [List.length_append, List.length_singleton]; exact hide1 (HS.out.doC (okHp_size HO.out))
              · rcases List.mem_append.1 he' with he' | he'
                · exact HE.out e' he'
                · rw [List.mem_singleton] at he'; subst he'; exact HO.out
            case measure => simp [intOf]; omega
      · have hlt2 : ¬ ((es.length : Int) < N) := hlt
        have D0 := hide1 S0.out.d
        have R0 := hide1 S0.out.res
        have d0 : wr.cell? ⟨Dd, 0, none⟩ = some (.int .i64 (vn : Int)) := D0.out.cell 0
        have d1 : wr.cell? ⟨Dd, 1, none⟩ = some (.int .i64 (tn : Int)) := D0.out.cell 1
        have d2 : wr.cell? ⟨Dd, 2, none⟩ = some (.slice eb es.length ec) := D0.out.cell 2
        have r0 : wr.cell? ⟨w.heap.size, 0, none⟩ = some (.int .i64 0) := R0.out.cell 0
        have r1 : wr.cell? ⟨w.heap.size, 1, none⟩ = some (.int .i64 0) := R0.out.cell 1
        have r2 : wr.cell? ⟨w.heap.size, 2, none⟩ = some (.slice none 0 0) := R0.out.cell 2
        have rf : ∀ j, wr.frozen? ⟨w.heap.size, j, none⟩ = false := fun j => R0.out.froz j
        have hRD2 : w.heap.size ≠ Dd := by omega
        go_wp2
        refine bodyPost_ret (results_cell_row Try.results36 _ _ w.heap.size 71 #[.int .i64 (vn : Int), .int .i64 (tn : Int), .slice eb es.length ec] (0, 0) _ rfl (Blk.set (Blk.set (Blk.set R0.out 0 _) 1 _) 2 _) Try.underlying71 rfl (by kernel_rfl)) rfl ?_
        have hg3 : ∀ (p q r : Value), w.grownBy (((wr.setCell ⟨w.heap.size, 0, none⟩ p).setCell ⟨w.heap.size, 1, none⟩ q).setCell ⟨w.heap.size, 2, none⟩ r) (some g) := fun p q r => gsetU (gsetU (gsetU S0.out.grown (Nat.le_refl _)) (Nat.le_refl _)) (Nat.le_refl _)
        have hw3 : ∀ (p q r : Value), wr.grownBy (((wr.setCell ⟨w.heap.size, 0, none⟩ p).setCell ⟨w.heap.size, 1, none⟩ q).setCell ⟨w.heap.size, 2, none⟩ r) (some w.heap.size) := fun p q r => gset (gset (gset (World.grownBy.refl _ _) 0 p) 1 q) 2 r
        refine ⟨vn, tn, es, eb, ⟨ec, rfl⟩, hv, ht, by omega, HE.out, ?_, ?_, hg3 _ _ _⟩
        · exact (rdG_of_own encH.len S0.out.ev rfl).grown (lo := fun _ => True) (hw3 _ _ _) (own_ne S0.out.ev (by have := S0.out.hX; omega) (LoLe.all _))
        · exact S0.out.drw.keep (gbelow (B := w.heap.size) (hw3 _ _ _) (fun q hq => by injection hq with hq; omega) (Nat.le_of_lt R0.out.lt)) (by have := S0.out.drw.cur.1; omega) (by omega)
end Go.Proofs.Ytgehdgmllilmgaa
