/- Rings, by the model: the homes of a key. -/
import Derived.Test.YtdgpencendphbaaRiT
import Derived.Test.YtdgpencendphbaaRiU
import Derived.Deep.RegionHeld3
namespace Go.Proofs.Ytdgpencendphbaa
open Go.RowKit
set_option linter.unusedVariables false

/-- A row of numbers of the call's own. -/
def MadeH (w w' : World) (e : Ending) (L : List Int) : Prop := ∃ b c, e = .returned (.slice b L.length c) ∧ w'.ownsRow w.heap.size 3 1 (.slice b L.length c) L.length (iz L) ∧ Below w.heap.size w w'

set_option maxRecDepth 100000 in
set_option maxHeartbeats 2000000 in
theorem specHomes_any (ao : Option Addr) (l : List Sp) (ca : Nat) (k : ByteArray) (n : Int) (w : World) (hl : l.length ≤ 1048576) (hk : k.size ≤ 1048576) (hA : RdP w ao l) :
    Calls Try.prog 11 #[riV ao l.length ca, .string k, .int .i64 n] w fun e w' => MadeH w w' e (homesS l (hashN k 0 : Int) n.toNat) := by
  obtain ⟨i0, hi0, hz0, hz1, hz2⟩ := info_parts Try.infoZ
  have F0 := hide1 (And.intro (blkN2 w #[.slice ao l.length ca] #[] 29 3) (owns_empty (w.alloc (.cells #[.slice ao l.length ca] 29)) 3))
  have CF := hide1 (fun w' (hb : Below w.heap.size w w') => specFrom_any ao l ca k w' hl hk (hA.later hb))
  have HA := hide1 hA
  clear hA
  obtain ⟨h, hh⟩ : ∃ h : Int, (hashN k 0 : Int) = h := ⟨_, rfl⟩
  rw [hh] at CF ⊢
  clear hh
  unfold riV at CF ⊢
  go_enter Try.func11, Try.ntmps11
  go_wp2_with fail
  have e1 : (w.alloc (.cells #[.slice ao l.length ca] 29)).heap.size = w.heap.size + 1 := World.size_alloc _ _
  rw [e1] at F0
  generalize ((w.alloc (.cells #[.slice ao l.length ca] 29)).alloc (.cells #[] 3)) = w0 at F0 ⊢
  refine (CF.out w0 F0.out.1.2.2).mono ?_
  rintro e w1 ⟨rfl, hb1⟩
  have R1 := hide1 (F0.out.1.1.below hb1 F0.out.1.1.lt)
  have O1 := hide1 (own_kept F0.out.2 hb1)
  have B1 := hide1 (F0.out.1.2.2.trans (hb1.mono F0.out.1.2.2.size))
  have hs1 : w.heap.size + 1 ≤ w1.heap.size := Nat.le_trans F0.out.1.2.1.lt hb1.size |> Nat.le_of_lt
  clear hb1 F0 CF e1
  obtain ⟨vs, hvs⟩ : ∃ vs, (aroundS l h).map (·.2) = vs := ⟨_, rfl⟩
  have hvl : vs.length = l.length := by rw [← hvs, List.length_map, around_length]
  have HV := hide1 (show ∀ i (hi : i < l.length) (hj : i < vs.length), ∃ (hm : (fromS l h + i) % l.length < l.length), (l[(fromS l h + i) % l.length]).2 = vs[i] from fun i hi hj => by
    have hm : (fromS l h + i) % l.length < l.length := Nat.mod_lt _ (by omega)
    refine ⟨hm, ?_⟩
    have h0 : l ≠ [] := fun e => by rw [e] at hi; simp at hi
    have := around_at (n := h) (Nat.le_of_lt (fromS_lt h0 h)) hi
    rw [List.getElem?_eq_getElem hm] at this
    have h2 : vs[i]? = some (l[(fromS l h + i) % l.length]).2 := by rw [← hvs, List.getElem?_map, this]; rfl
    rw [List.getElem?_eq_getElem hj] at h2
    exact (Option.some.inj h2).symm)
  have HQ := hide1 (show homesS l h n.toNat = (onceS [] vs).take n.toNat by rw [← hvs]; rfl)
  have hq : l ≠ [] → fromS l h < l.length := fun e => fromS_lt e h
  have hql : fromS l h ≤ 1048576 := by
    by_cases e : l = []
    · subst e; show 0 ≤ _; omega
    · have := hq e; omega
  generalize fromS l h = q at *
  have HVL := hide1 hvl
  clear hvs hvl hq
  go_wp2
  go_loopw [7, 9] (fun v iv wr => ∃ i : Nat, i ≤ l.length ∧ iv = .int .i64 (i : Int) ∧ wr.ownsRow (w.heap.size + 1) 3 1 v (homesI vs i).length (iz (homesI vs i)) ∧ Hid (Below (w.heap.size + 1) w1 wr) ∧ Hid ((homesI vs i).length ≤ n.toNat)) (fun _ iv _ => l.length - (intOf iv).toNat)
  case atStart => exact ⟨0, by omega, rfl, O1.out, hide1 (Below.refl _ _), hide1 (Nat.zero_le _)⟩
  case round =>
    obtain ⟨i, hi, rfl, hown, hbel, hle⟩ := hrel
    have hbs := hbel.out.size
    have x0 : wr.cell? ⟨w.heap.size, 0, none⟩ = some (.slice ao l.length ca) := (hbel.out.cell (p := ⟨w.heap.size, 0, none⟩) (Nat.lt_succ_self _)).trans (R1.out.cell 0)
    have hLs := homesI_length (vs := vs) (i := i) (by rw [HVL.out]; exact hi)
    have HB := hide1 (B1.out.trans (hbel.out.mono (Nat.le_succ _)))
    obtain ⟨vo, vc, rfl⟩ := own_slice hown
    by_cases c1 : i < l.length
    · have k1 : (i : Int) < (l.length : Int) := by omega
      by_cases c2 : ((homesI vs i).length : Int) < n
      · obtain ⟨hm, hv⟩ := HV.out i c1 (by rw [HVL.out]; exact c1)
        obtain ⟨g, rfl, hg, -, x1⟩ := (HA.out.later HB.out).at _ hm
        have HN := hide1 (homesI_next (vs := vs) (i := i) (by rw [HVL.out]; exact c1))
        have y1 := x1
        rw [hv] at y1
        generalize vs[i]'(by rw [HVL.out]; exact c1) = v at *
        obtain ⟨m, hmm⟩ : ∃ m, (q + i) % l.length = m := ⟨_, rfl⟩
        rw [hmm] at y1
        have hml : m < l.length := hmm ▸ hm
        have hmi : ((q : Int) + (i : Int)) % (l.length : Int) = (m : Int) := by rw [← hmm, Int.natCast_emod, Int.natCast_add]
        have w2' : ((q : Int) + (i : Int)).tmod (l.length : Int) = (m : Int) := by rw [Int.tmod_eq_emod_of_nonneg (show (0 : Int) ≤ (q : Int) + (i : Int) by omega)]; exact hmi
        clear x1 hv hm hmm
        have w1' : IntKind.i64.wrap ((q : Int) + (i : Int)) = (q : Int) + (i : Int) := IntWalk.i64_in _ ⟨by omega, by omega⟩
        have w3' : ((l.length : Int) == 0) = false := by rw [beq_eq_false_iff_ne]; omega
        have w4' : ¬ (l.length : Int) = 0 := by omega
        have w5' : ¬ l = [] := fun e => by rw [e] at c1; simp at c1
        have w6' : IntKind.i64.wrap (m : Int) = (m : Int) := IntWalk.i64_in _ ⟨by omega, by omega⟩
        have w7' : (m : Int) < (l.length : Int) := by omega
        have w8' : ((l.length : Int) == -1) = false := by rw [beq_eq_false_iff_ne]; omega
        have w9' : IntKind.i64.wrap (((q : Int) + (i : Int)) % (l.length : Int)) = (m : Int) := by rw [hmi]; exact w6'
        have CI := hide1 (fun w' (hb : Below wr.heap.size wr w') => specIn_any vo (homesI vs i) vc v w' (by omega) ((rdZ_of_own hown).later hb))
        have HO := hide1 hown
        have hL2 : (homesI vs i).length < 1048576 := by omega
        have HLe := hide1 (show (homesI vs i).length + 1 ≤ n.toNat by omega)
        clear hown
        go_wp2
        go_region_held3 (fun w' => w'.cell? ⟨w.heap.size, 0, none⟩ = some (.slice (some ⟨g, 0, none⟩) l.length ca) ∧ w'.cell? ⟨g, m * 2 + 1, none⟩ = some (.int .i64 v)) (first | go_keep | exact ⟨x0, y1⟩) (fail)
        have D1 := hide1 (show Below wr.heap.size wr wr.drew from (Below.refl _ _).drew)
        have HO2 := hide1 (own_kept HO.out D1.out)
        have HB2 := hide1 (HB.out.trans (D1.out.mono HB.out.size))
        have HE2 := hide1 (hbel.out.trans (D1.out.mono (by omega)))
        have hs2 : w.heap.size + 1 ≤ wr.drew.heap.size := by show _ ≤ wr.heap.size; omega
        generalize wr.drew = w5 at *
        clear x0 y1 hmi w1' w2' w3' w4' w5' w6' w7' w8' w9' HO HB hbel hbs
        go_wp2_with fail
        refine (CI.out w5 D1.out).mono ?_
        rintro e w6 ⟨rfl, rfl⟩
        clear CI D1
        by_cases c : v ∈ homesI vs i
        · rw [decide_eq_true c]
          have HX := hide1 (show homesI vs (i + 1) = homesI vs i by rw [HN.out, addV, if_pos c])
          clear HN c
          go_wp2
          go_roundw
          case rel => exact ⟨i + 1, by omega, by go_num, by rw [HX.out]; exact HO2.out, HE2, hide1 (by rw [HX.out]; have := HLe.out; omega)⟩
          case measure => simp [intOf]; omega
        · rw [decide_eq_false c]
          have HX := hide1 (show homesI vs (i + 1) = homesI vs i ++ [v] by rw [HN.out, addV, if_neg c])
          have hown := HO2.out
          clear HN c HO2
          generalize homesI vs i = acc at *
          go_wp2_with (at_builtin; (refine wpList_push1 rfl _ _ 33 rfl (w.heap.size + 1) 3 i0 (.int .i64 0) 8 Try.underlying33 hi0 hz0 hz1 hz2 rfl (by decide) _ acc.length (iz acc) rfl hown _ rfl rfl (by omega) hs2 ?_; intro v' w7 hown' hb'))
          go_roundw
          case rel =>
            refine ⟨i + 1, by omega, by go_num, ?_, hide1 (HE2.out.trans hb'), hide1 ?_⟩
            · rw [HX.out, iz_append, List.length_append]; exact hown'
            · rw [HX.out, List.length_append]; exact HLe.out
          case measure => simp [intOf]; omega
      · have HE := hide1 (show homesS l h n.toNat = homesI vs i by
          have e : n.toNat = (homesI vs i).length := by have := hle.out; omega
          rw [HQ.out, e, homesI_pre])
        have HO := hide1 hown
        clear hown
        go_wp2
        go_ret
        exact ⟨_, _, by rw [HE.out]; rfl, by rw [HE.out]; exact own_base HO.out (Nat.le_succ _), HB.out⟩
    · have k1 : ¬ (i : Int) < (l.length : Int) := by omega
      have HE := hide1 (show homesS l h n.toNat = homesI vs i by
        have e : i = vs.length := by rw [HVL.out]; omega
        have h1 := hle.out
        rw [e] at h1 ⊢
        rw [HQ.out, homesI_all] at *
        exact List.take_of_length_le h1)
      have HO := hide1 hown
      clear hown
      go_wp2
      go_ret
      exact ⟨_, _, by rw [HE.out]; rfl, by rw [HE.out]; exact own_base HO.out (Nat.le_succ _), HB.out⟩
end Go.Proofs.Ytdgpencendphbaa
