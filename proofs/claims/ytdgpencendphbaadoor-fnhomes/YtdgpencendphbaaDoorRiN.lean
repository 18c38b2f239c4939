/- Rings, by the program: the homes of a key. -/
import Derived.Test.YtdgpencendphbaaDoorRiM
import Derived.Test.YtdgpencendphbaaDoorRiV
namespace Go.Proofs.YtdgpencendphbaaDoor
open Go.RowKit Go.Maps
set_option linter.unusedVariables false

/-- 'out = append(out, u)', u of one cell, out a row of the call's own: and where it lies. -/
theorem wpList_push1At {P : Program} {w : World} {ops : Array Oper} {rest : List Oper} {o : Oper} {a : Act} {Q : Exit → Act → World → Prop} (hgd : o.guard = none) (s x : Operand) (t : TypeId)
    (ho : o.op = .call { callee := .builtin .append, args := #[s, x], argTypes := #[t, t] })
    (base : Nat) (e : TypeId) (i : TypeInfo) (z : Value) (bytes : Nat) (ht : P.underlying t = some (.slice e)) (hi : P.info? e = some i) (hz : i.zero = some z) (hsize : i.size = 1) (hby : i.bytes = bytes) (hzc : z.cells.size = 1) (hb64 : bytes ≤ 64)
    (v : Value) (n : Nat) (xs : List Value) (hs : a.eval s = v) (hown : w.ownsRow base e 1 v n xs) (u : Value) (hu : u.oneCell' = true)
    (hx : a.eval x = .slice (some ⟨w.heap.size, 0, none⟩) 1 1) (hlen : n ≤ 1048576) (hbase : base ≤ w.heap.size)
    (h : ∀ v' w', w'.ownsRow base e 1 v' (n + 1) (xs ++ [u]) → w.grownBy w' v.ownBlock → (∀ g, v'.ownBlock = some g → v.ownBlock = some g ∨ w.heap.size ≤ g) → wpList P ops Q rest (a.put o.dst v') w') :
    wpList P ops Q (o :: rest) a (w.alloc (.cells #[u] e)) := by
  refine wpList_append_own_at _ hgd s x t ho base e i z 1 bytes ht hi hz hsize hby hzc (by decide) v n xs hs (hown.alloc _) ⟨w.heap.size, 0, none⟩ 1 1 [u] hx rfl (cell_one_new _ _ _) ?_ ?_ ?_ ?_ ?_
  · intro u' hu'; simp at hu'; subst hu'; exact hu
  · unfold maxLen; omega
  · have : (n + 1) * bytes ≤ (n + 1) * 64 := Nat.mul_le_mul_left _ hb64
    omega
  · rw [World.size_alloc]; omega
  · intro v' w' h1 h2 _ h4
    refine h v' w' h1 (gtrans (gnew ((Below.refl _ _).alloc (Nat.le_refl _) _)) h2) (fun g hg => ?_)
    rcases h4 with h4 | h4
    · exact .inl (h4 ▸ hg)
    · rw [h4] at hg
      injection hg with hg
      rw [World.size_alloc] at hg
      exact .inr (by omega)
/-- Nodes that are still to come, behind i spots. -/
def missI (l : List Sp) (vs : List Int) (i : Nat) : List Int := (nodesV l).filter (fun z => decide (z ∉ homesI vs i))
theorem missI_zero (l : List Sp) (vs : List Int) : missI l vs 0 = nodesV l := by
  unfold missI
  rw [homesI_zero]
  exact List.filter_eq_self.2 (fun z _ => by simp)
theorem homesI_parts (vs : List Int) (i : Nat) : onceS [] vs = homesI vs i ++ onceS (homesI vs i) (vs.drop i) := by
  have h1 := add_once vs []
  have h2 := add_once (vs.drop i) (homesI vs i)
  have h3 : (vs.drop i).foldl addV (homesI vs i) = vs.foldl addV [] := by
    unfold homesI
    rw [← List.foldl_append, List.take_append_drop]
  rw [← h2, h3, h1]
  rfl
theorem once_none : ∀ (vs seen : List Int), (∀ v ∈ vs, v ∈ seen) → onceS seen vs = []
  | [], _, _ => rfl
  | v :: vs, seen, h => by
    rw [onceS, if_pos (h v List.mem_cons_self)]
    exact once_none vs seen (fun x hx => h x (List.mem_cons_of_mem _ hx))
theorem missI_nil {l : List Sp} {vs : List Int} {i : Nat} (hv : ∀ v ∈ vs, v ∈ nodesV l) (h : missI l vs i = []) : onceS [] vs = homesI vs i := by
  rw [homesI_parts vs i, once_none _ _ (fun v hm => ?_), List.append_nil]
  have h1 := List.filter_eq_nil_iff.1 h v (hv v (List.mem_of_mem_drop hm))
  simpa using h1
theorem missI_hit {l : List Sp} {vs : List Int} {i : Nat} (hi : i < vs.length) (h : vs[i] ∈ missI l vs i) : homesI vs (i + 1) = homesI vs i ++ [vs[i]] ∧ missI l vs (i + 1) = offV (missI l vs i) vs[i] := by
  have h1 : vs[i] ∉ homesI vs i := by have := (List.mem_filter.1 h).2; simpa using this
  have e : homesI vs (i + 1) = homesI vs i ++ [vs[i]] := by rw [homesI_next hi, addV, if_neg h1]
  refine ⟨e, ?_⟩
  unfold missI offV
  rw [List.filter_filter, e]
  refine List.filter_congr (fun z _ => ?_)
  simp only [List.mem_append, List.mem_singleton, not_or, bne]
  by_cases c1 : z ∈ homesI vs i <;> by_cases c2 : z = vs[i] <;> simp [c1, c2]
theorem missI_miss {l : List Sp} {vs : List Int} {i : Nat} (hi : i < vs.length) (hv : vs[i] ∈ nodesV l) (h : vs[i] ∉ missI l vs i) : homesI vs (i + 1) = homesI vs i ∧ missI l vs (i + 1) = missI l vs i := by
  have h1 : vs[i] ∈ homesI vs i := by
    apply Classical.byContradiction
    intro hc
    exact h (List.mem_filter.2 ⟨hv, by simpa using hc⟩)
  have e : homesI vs (i + 1) = homesI vs i := by rw [homesI_next hi, addV, if_pos h1]
  exact ⟨e, by unfold missI; rw [e]⟩
theorem around_node {l : List Sp} {h : Int} {v : Int} : v ∈ (aroundS l h).map (·.2) ↔ v ∈ nodesV l := by
  rw [nodesV_mem, List.mem_map]
  unfold aroundS
  constructor
  · rintro ⟨s, hs, rfl⟩
    rcases List.mem_append.1 hs with hs | hs
    · exact ⟨s, List.mem_of_mem_drop hs, rfl⟩
    · exact ⟨s, List.mem_of_mem_take hs, rfl⟩
  · rintro ⟨s, hs, rfl⟩
    refine ⟨s, ?_, rfl⟩
    rw [← List.take_append_drop (fromS l h) l] at hs
    rcases List.mem_append.1 hs with hs | hs
    · exact List.mem_append.2 (.inr hs)
    · exact List.mem_append.2 (.inl hs)
theorem missI_all {l : List Sp} {vs : List Int} (hv : ∀ z, z ∈ vs ↔ z ∈ nodesV l) : missI l vs vs.length = [] := by
  unfold missI
  rw [homesI_all]
  refine List.filter_eq_nil_iff.2 (fun z hz => ?_)
  have : z ∈ onceS [] vs := once_mem.2 ⟨(hv z).2 hz, by simp⟩
  simpa using this
theorem nodesV_length (l : List Sp) : (nodesV l).length ≤ l.length := homesI_length (by simp)

set_option maxRecDepth 100000 in
set_option maxHeartbeats 4000000 in
theorem implHomes_any (ao : Option Addr) (l : List Sp) (ca : Nat) (k : ByteArray) (n : Int) (w : World) (hl : l.length ≤ 1048576) (hk : k.size ≤ 1048576) (hA : RdP w ao l) (hw : WfN l) :
    Calls Tryd.prog 16 #[riV ao l.length ca, .string k, .int .i64 n] w fun e w' => MadeH w w' e (homesS l (hashN k 0 : Int) n.toNat) := by
  obtain ⟨i0, hi0, hz0, hz1, hz2⟩ := info_parts Tryd.infoZ
  have F0 := hide1 (And.intro (blkN2 w #[.slice ao l.length ca] #[] 28 3) (owns_empty (w.alloc (.cells #[.slice ao l.length ca] 28)) 3))
  have CF := hide1 (fun w' (hb : Below w.heap.size w w') => implPlace_any ao l ca k w' hl hk (hA.later hb))
  have CN := hide1 (fun w' (hb : Below w.heap.size w w') => nodesOn_any ao l ca w' hl (hA.later hb) hw)
  have HA := hide1 hA
  have HW := hide1 hw
  clear hA hw
  obtain ⟨h, hh⟩ : ∃ h : Int, (hashN k 0 : Int) = h := ⟨_, rfl⟩
  rw [hh] at CF ⊢
  clear hh
  unfold riV
  go_enter Tryd.func16, Tryd.ntmps16
  go_wp2_with fail
  have e1 : (w.alloc (.cells #[.slice ao l.length ca] 28)).heap.size = w.heap.size + 1 := World.size_alloc _ _
  rw [e1] at F0
  generalize ((w.alloc (.cells #[.slice ao l.length ca] 28)).alloc (.cells #[] 3)) = w0 at F0 ⊢
  refine (CN.out w0 F0.out.1.2.2).mono ?_
  rintro e wn ⟨bm, rfl, hbm, hM, hbn⟩
  have hbm1 : w.heap.size + 1 < bm := Nat.lt_of_lt_of_le F0.out.1.2.1.lt hbm
  have RN := hide1 (F0.out.1.1.below hbn F0.out.1.1.lt)
  have ON := hide1 (own_kept F0.out.2 hbn)
  have BN := hide1 (F0.out.1.2.2.trans (hbn.mono F0.out.1.2.2.size))
  have MN := hide1 hM
  have xn : wn.cell? ⟨w.heap.size, 0, none⟩ = some (.slice ao l.length ca) := RN.out.cell 0
  clear hbn F0 CN e1 hM hbm
  go_wp2_with fail
  refine (CF.out wn BN.out).mono ?_
  rintro e w1 ⟨rfl, hb1⟩
  have R1 := hide1 (RN.out.below hb1 RN.out.lt)
  have O1 := hide1 (own_kept ON.out hb1)
  have M1 := hide1 (MN.out.later hb1)
  have B1 := hide1 (BN.out.trans (hb1.mono BN.out.size))
  have hs1 : bm < w1.heap.size := M1.out.lt
  clear hb1 CF RN ON BN MN xn
  obtain ⟨vs, hvs⟩ : ∃ vs, (aroundS l h).map (·.2) = vs := ⟨_, rfl⟩
  have hvl : vs.length = l.length := by rw [← hvs, List.length_map, around_length]
  have HNV := hide1 (show ∀ z, z ∈ vs ↔ z ∈ nodesV l from fun z => by rw [← hvs]; exact around_node)
  have HV := hide1 (show ∀ i (hi : i < l.length) (hj : i < vs.length), ∃ (hm : (fromS l h + i) % l.length < l.length), (l[(fromS l h + i) % l.length]).2 = vs[i] from fun i hi hj => by
    have hm : (fromS l h + i) % l.length < l.length := Nat.mod_lt _ (by omega)
    refine ⟨hm, ?_⟩
    have h0 : l ≠ [] := fun e => by rw [e] at hi; simp at hi
    have := around_at (n := h) (Nat.le_of_lt (fromS_lt h0 h)) hi
    rw [List.getElem?_eq_getElem hm] at this
    have h2 : vs[i]? = some (l[(fromS l h + i) % l.length]).2 := by rw [← hvs, List.getElem?_map, this]; rfl
    rw [List.getElem?_eq_getElem hj] at h2
    exact (Option.some.inj h2).symm)
  have HQ := hide1 (show homesS l h n.toNat = (onceS [] vs).take n.toNat by rw [← hvs]; rfl)
  have hq : l ≠ [] → fromS l h < l.length := fun e => fromS_lt e h
  have hql : fromS l h ≤ 1048576 := by
    by_cases e : l = []
    · subst e; show 0 ≤ _; omega
    · have := hq e; omega
  generalize fromS l h = q at *
  have HVL := hide1 hvl
  have M1' : Hid (SetW w1 bm l.length (missI l vs 0)) := by rw [missI_zero]; exact M1
  clear hvs hvl hq M1
  go_wp2
  go_loopw [7, 9] (fun v iv wr => ∃ i : Nat, i ≤ l.length ∧ iv = .int .i64 ((q : Int) + (i : Int)) ∧ wr.ownsRow (w.heap.size + 1) 3 1 v (homesI vs i).length (iz (homesI vs i)) ∧ Hid (∀ g, v.ownBlock = some g → g ≠ bm) ∧ Hid (SetW wr bm l.length (missI l vs i)) ∧ Hid (Below (w.heap.size + 1) w1 wr) ∧ Hid ((homesI vs i).length ≤ n.toNat)) (fun _ iv _ => q + l.length - (intOf iv).toNat)
  case atStart => exact ⟨0, by omega, by simp, O1.out, hide1 (fun g hg => by have : w.heap.size + 1 = g := Option.some.inj hg; omega), M1', hide1 (Below.refl _ _), hide1 (Nat.zero_le _)⟩
  case round =>
    obtain ⟨i, hi, rfl, hown, hne, hM, hbel, hle⟩ := hrel
    have hbs := hbel.out.size
    have x0 : wr.cell? ⟨w.heap.size, 0, none⟩ = some (.slice ao l.length ca) := (hbel.out.cell (p := ⟨w.heap.size, 0, none⟩) (Nat.lt_succ_self _)).trans (R1.out.cell 0)
    have hLs := homesI_length (vs := vs) (i := i) (by rw [HVL.out]; exact hi)
    have HB := hide1 (B1.out.trans (hbel.out.mono (Nat.le_succ _)))
    obtain ⟨vo, vc, rfl⟩ := own_slice hown
    obtain ⟨D, hDm, hDs⟩ := hM.out
    have hlen : ∀ ty, (Builtin.len_ #[66] ty #[.map (some bm)]).run Tryd.prog wr = .ok (.int .i64 ((missI l vs i).length : Int)) wr := fun ty => by
      have := hDm.len (t := 66) (e := 67) Tryd.underlying66 ty
      rw [hDs.size] at this
      exact this
    have HDM := hide1 hDm
    have HDS := hide1 hDs
    clear hDm hDs hM
    by_cases c2 : ((homesI vs i).length : Int) < n
    · by_cases c1 : missI l vs i = []
      · have k1 : ¬ (0 : Int) < ((missI l vs i).length : Int) := by rw [c1]; simp
        have HE := hide1 (show homesS l h n.toNat = homesI vs i by
          have e := missI_nil (fun v hv => (HNV.out v).1 hv) c1
          rw [HQ.out, e]
          exact List.take_of_length_le hle.out)
        have HO := hide1 hown
        clear hown c1
        generalize (missI l vs i).length = ml at *
        go_wp2
        go_ret
        exact ⟨_, _, by rw [HE.out]; rfl, by rw [HE.out]; exact own_base HO.out (Nat.le_succ _), HB.out⟩
      · have hil : i < l.length := by
          rcases Nat.lt_or_ge i l.length with e | e
          · exact e
          · exfalso
            obtain rfl : i = l.length := by omega
            rw [← HVL.out] at c1
            exact c1 (missI_all HNV.out)
        have k1 : (0 : Int) < ((missI l vs i).length : Int) := by
          have := List.length_pos_iff.2 c1
          omega
        have C1 := hide1 c1
        clear c1
        obtain ⟨hm, hv⟩ := HV.out i hil (by rw [HVL.out]; exact hil)
        obtain ⟨g, rfl, hg, -, x1⟩ := (HA.out.later HB.out).at _ hm
        have hwf := HW.out _ hm
        have HHit := hide1 (missI_hit (l := l) (vs := vs) (i := i) (by rw [HVL.out]; exact hil))
        have HMis := hide1 (missI_miss (l := l) (vs := vs) (i := i) (by rw [HVL.out]; exact hil) ((HNV.out _).1 (List.getElem_mem (by rw [HVL.out]; exact hil))))
        have y1 := x1
        rw [hv] at y1 hwf
        generalize vs[i]'(by rw [HVL.out]; exact hil) = v at *
        have hkey : keyOf Tryd.prog 3 (.int .i64 v) = some (.int .i64 v) := keyOf_int_mk Tryd.underlying3 hwf
        obtain ⟨m, hmm⟩ : ∃ m, (q + i) % l.length = m := ⟨_, rfl⟩
        rw [hmm] at y1
        have hml : m < l.length := hmm ▸ hm
        have hmi : ((q : Int) + (i : Int)) % (l.length : Int) = (m : Int) := by rw [← hmm, Int.natCast_emod, Int.natCast_add]
        have w2' : ((q : Int) + (i : Int)).tmod (l.length : Int) = (m : Int) := by rw [Int.tmod_eq_emod_of_nonneg (show (0 : Int) ≤ (q : Int) + (i : Int) by omega)]; exact hmi
        clear x1 hv hm hmm hwf
        have w3' : ((l.length : Int) == 0) = false := by rw [beq_eq_false_iff_ne]; omega
        have w4' : ¬ (l.length : Int) = 0 := by omega
        have w5' : ¬ l = [] := fun e => by rw [e] at hil; simp at hil
        have w6' : IntKind.i64.wrap (m : Int) = (m : Int) := IntWalk.i64_in _ ⟨by omega, by omega⟩
        have w7' : (m : Int) < (l.length : Int) := by omega
        have w8' : ((l.length : Int) == -1) = false := by rw [beq_eq_false_iff_ne]; omega
        have w9' : IntKind.i64.wrap (((q : Int) + (i : Int)) % (l.length : Int)) = (m : Int) := by rw [hmi]; exact w6'
        have HO := hide1 hown
        have hL2 : (homesI vs i).length < 1048576 := by omega
        have HLe := hide1 (show (homesI vs i).length + 1 ≤ n.toNat by omega)
        have HK1 := hide1 k1
        clear hown
        generalize hMm : missI l vs i = MI at *
        have HMI := hide1 hMm
        clear hMm
        go_wp2
        go_region_held3 (fun w' => w'.cell? ⟨w.heap.size, 0, none⟩ = some (.slice (some ⟨g, 0, none⟩) l.length ca) ∧ w'.cell? ⟨g, m * 2 + 1, none⟩ = some (.int .i64 v)) (first | go_keep | exact ⟨x0, y1⟩) (fail)
        have D1 := hide1 (show Below wr.heap.size wr wr.drew from (Below.refl _ _).drew)
        have HO2 := hide1 (own_kept HO.out D1.out)
        have HB2 := hide1 (HB.out.trans (D1.out.mono HB.out.size))
        have HE2 := hide1 (hbel.out.trans (D1.out.mono (by omega)))
        have hs2 : bm < wr.drew.heap.size := by show _ < wr.heap.size; omega
        have hDm := HDM.out.drew
        generalize wr.drew = w5 at *
        clear x0 y1 hmi w2' w3' w4' w5' w6' w7' w8' w9' HO HB hbel hbs HDM hlen k1 HK1
        have hwl : l.length < maxLen := by unfold maxLen; omega
        by_cases c : v ∈ MI
        · have hx : Maps.has D (.int .i64 v) = true := by rw [HDS.out.has, decide_eq_true c]
          obtain ⟨E1, E2⟩ := HHit.out c
          have HX := hide1 E1
          have HY := hide1 E2
          have hb0 : w.heap.size + 1 ≤ w5.heap.size := by omega
          clear HHit HMis c E1 E2
          have hown := HO2.out
          clear HO2
          generalize homesI vs i = acc at *
          go_wp2_with (first
            | (at_lookup; refine wpList_lookup_own_unit _ rfl _ _ 66 rfl 3 67 lawI Tryd.underlying66 (zeroU _) bm l.length D rfl hDm _ _ rfl hkey ?_; rw [hx])
            | (at_builtin; (refine wpList_push1At rfl _ _ 24 rfl (w.heap.size + 1) 3 i0 (.int .i64 0) 8 Tryd.underlying24 hi0 hz0 hz1 hz2 rfl (by decide) _ acc.length (iz acc) rfl (hown.alloc _) _ rfl (by rw [World.size_alloc]; rfl) (by omega) (by rw [World.size_alloc]; omega) ?_; intro v' w7 hown7 hg7 hloc7; have hDm7 := (hDm.alloc (.cells #[] 67)).kept hg7 (fun e => (hne.out bm e.symm) rfl)))
            | (at_delete; refine wpList_delete_own _ rfl _ _ 66 3 rfl 67 lawI Tryd.underlying66 _ bm l.length D rfl hDm7 _ _ rfl hkey ?_; intro w8 hown8 hturn8)
            | go_in)
          have hG8 := hturn8.grown
          have HL7 := hide1 hloc7
          go_roundw
          case rel =>
            refine ⟨i + 1, by omega, by go_num, ?_, hide1 ?_, hide1 ⟨_, hown8, ?_⟩, hide1 ?_, hide1 ?_⟩
            · rw [HX.out, iz_append, List.length_append]
              refine gown hG8 hown7 (fun k h1 h2 => ?_)
              have e2 : bm = k := Option.some.inj h2
              rcases HL7.out k h1 with h3 | h3
              · exact hne.out k h3 e2.symm
              · rw [World.size_alloc] at h3; omega
            · intro g hg
              rcases HL7.out g hg with h3 | h3
              · exact hne.out g h3
              · rw [World.size_alloc] at h3; omega
            · rw [HY.out]
              exact HDS.out.del v
            · refine ((HE2.out.alloc hb0 (.cells #[] 67)).trans (gbelow hg7 (fun g hg => (hown.lt g hg).1) (by rw [World.size_alloc]; omega))).trans (gbelow hG8 (fun g hg => by have : bm = g := Option.some.inj hg; omega) ?_)
              have := hg7.size
              rw [World.size_alloc] at this
              omega
            · rw [HX.out, List.length_append]
              exact HLe.out
          case measure => simp [intOf]; omega
        · have hx : Maps.has D (.int .i64 v) = false := by rw [HDS.out.has, decide_eq_false c]
          obtain ⟨E1, E2⟩ := HMis.out c
          have HX := hide1 E1
          have HY := hide1 E2
          have hb0 : w.heap.size + 1 ≤ w5.heap.size := by omega
          clear HHit HMis c E1 E2
          go_wp2_with (first
            | (at_lookup; refine wpList_lookup_own_unit _ rfl _ _ 66 rfl 3 67 lawI Tryd.underlying66 (zeroU _) bm l.length D rfl hDm _ _ rfl hkey ?_; rw [hx])
            | go_in)
          go_roundw
          case rel =>
            refine ⟨i + 1, by omega, by go_num, by rw [HX.out]; exact HO2.out.alloc _, hne, hide1 ⟨D, hDm.alloc _, by rw [HY.out]; exact HDS.out⟩, hide1 (HE2.out.alloc hb0 _), by rw [HX.out]; exact hle⟩
          case measure => simp [intOf]; omega
    · have HE := hide1 (show homesS l h n.toNat = homesI vs i by
        have e : n.toNat = (homesI vs i).length := by have := hle.out; omega
        rw [HQ.out, e, homesI_pre])
      have HO := hide1 hown
      clear hown
      go_wp2
      go_ret
      exact ⟨_, _, by rw [HE.out]; rfl, by rw [HE.out]; exact own_base HO.out (Nat.le_succ _), HB.out⟩
end Go.Proofs.YtdgpencendphbaaDoor
