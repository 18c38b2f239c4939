/- The program's councils: a note is carried. -/
import Derived.Test.YtgehdgmllilmgaaYZ
import Derived.Test.YtgehdgmllilmgaaYH
namespace Go.Proofs.Ytgehdgmllilmgaa
open Go.RowKit
set_option linter.unusedVariables false

/-- What a council's own note is like. -/
structure NtIn (c : Cn) (m : Nt) : Prop where
  k : 1 ≤ m.k ∧ m.k ≤ 4
  o : 1 ≤ m.o
  t : m.k = 2 ∨ m.k = 4 → m.o ≤ c.ts.length
  v : m.k = 1 ∨ m.k = 3 → m.o ≤ c.vs.length
  z : m.v.size ≤ 1048576
/-- What a council is like whose steps the program takes. -/
structure Fit13 (c : Cn) : Prop where
  ts : c.ts.length ≤ 1000
  vs : c.vs.length ≤ 1000
  ns : c.ns.length ≤ 100000
  ch : c.ch.length ≤ 100000
  y : ∀ t ∈ c.ts, t.ps.length ≤ 1000 ∧ t.tk.length ≤ 1000
  z : ∀ x ∈ c.vs, x.v.size ≤ 1048576
set_option maxRecDepth 100000 in
set_option maxHeartbeats 2000000 in
theorem implCarry_any (c : Cn) (m : Nt) (r : Cn × Int) (A : CA) (B base : Nat) (w : World) (h : VaO base w B A c) (F : Fit13 c) (I : NtIn c m) (hr : (if m.k = 1 ∨ m.k = 3 then hearC c m else tellC c m) = r) :
    Calls Try.prog 75 #[.pointer (some ⟨B, 0, none⟩), .agg #[.int .i64 m.k, .int .i64 m.f, .int .i64 m.o, .int .i64 m.b, .int .i64 m.t, .string m.v]] w fun e w' => e = .returned (.int .i64 r.2) ∧ (∃ A', VaO base w' B A' r.1 ∧ FrB A B w A' w') := by
  have F0 := hide1 (And.intro (Blk.new w 111 #[.int .i64 m.k, .int .i64 m.f, .int .i64 m.o, .int .i64 m.b, .int .i64 m.t, .string m.v]) ((Below.refl w.heap.size w).alloc (Nat.le_refl _) (.cells #[.int .i64 m.k, .int .i64 m.f, .int .i64 m.o, .int .i64 m.b, .int .i64 m.t, .string m.v] 111)))
  have HV := hide1 h
  have HF := hide1 F
  have HI := hide1 I
  have ik := I.k
  clear h F I
  go_enter Try.func75, Try.ntmps75
  go_upto_region 1 with fail
  generalize (w.alloc (.cells #[.int .i64 m.k, .int .i64 m.f, .int .i64 m.o, .int .i64 m.b, .int .i64 m.t, .string m.v] 111)) = u at F0 ⊢
  obtain ⟨M, hM⟩ : ∃ M, M = w.heap.size := ⟨_, rfl⟩
  have K0 := hide1 F0.out.1
  have B0 := hide1 F0.out.2
  rw [← hM] at K0
  rw [show ({block := w.heap.size, off := 0} : Addr) = ⟨M, 0, none⟩ by rw [hM]]
  have HVU := hide1 (HV.out.kept B0.out)
  have R0 := hide1 ((FrB.refl A B w).below B0.out)
  clear F0 hM HV
  have n0 : u.cell? ⟨M, 0, none⟩ = some (.int .i64 m.k) := K0.out.cell 0
  have n1 : u.cell? ⟨M, 1, none⟩ = some (.int .i64 m.f) := K0.out.cell 1
  have n2 : u.cell? ⟨M, 2, none⟩ = some (.int .i64 m.o) := K0.out.cell 2
  have n3 : u.cell? ⟨M, 3, none⟩ = some (.int .i64 m.b) := K0.out.cell 3
  have n4 : u.cell? ⟨M, 4, none⟩ = some (.int .i64 m.t) := K0.out.cell 4
  have n5 : u.cell? ⟨M, 5, none⟩ = some (.string m.v) := K0.out.cell 5
  by_cases c13 : m.k = 1 ∨ m.k = 3
  · rw [if_pos c13] at hr
    have CC := hide1 (implAskV_any c m A B base u HVU.out HI.out.o (HI.out.v c13) HF.out.vs HF.out.ns HF.out.z HI.out.z)
    rw [hr] at CC
    by_cases c1 : m.k = 1
    · have q1 : (m.k == 1) = true := by simp [c1]
      clear c13 c1 ik hr
      go_wp2_with fail
      refine CC.out.mono ?_
      rintro e w2 ⟨rfl, A2, V2, R2⟩
      have Z := hide1 (And.intro V2 R2)
      clear V2 R2 n0 n1 n2 n3 n4 n5 CC
      go_wp2
      go_ret
      exact ⟨rfl, A2, Z.out.1, R0.out.trans Z.out.2⟩
    · have q1 : (m.k == 1) = false := by simp [c1]
      have q3 : (m.k == 3) = true := by simp; omega
      clear c13 c1 ik hr
      go_wp2_with fail
      refine CC.out.mono ?_
      rintro e w2 ⟨rfl, A2, V2, R2⟩
      have Z := hide1 (And.intro V2 R2)
      clear V2 R2 n0 n1 n2 n3 n4 n5 CC
      go_wp2
      go_ret
      exact ⟨rfl, A2, Z.out.1, R0.out.trans Z.out.2⟩
  · rw [if_neg c13] at hr
    have q1 : (m.k == 1) = false := by simp; omega
    have q3 : (m.k == 3) = false := by simp; omega
    have ht := HI.out.t (by omega)
    have ho1 := HI.out.o
    obtain ⟨j, hj⟩ : ∃ j : Nat, m.o = (j : Int) + 1 := ⟨m.o.toNat - 1, by omega⟩
    have hjl : j < c.ts.length := by omega
    have hy := HF.out.y c.ts[j] (List.getElem_mem hjl)
    have CC := hide1 (show Calls Try.prog 96 #[.pointer (some ⟨B, 0, none⟩), .agg #[.int .i64 m.k, .int .i64 m.f, .int .i64 m.o, .int .i64 m.b, .int .i64 m.t, .string m.v]] u fun e w' => e = .returned (.int .i64 (tellC c m).2) ∧ (∃ A', VaO base w' B A' (tellC c m).1 ∧ FrB A B u A' w') by
      by_cases c2 : m.k = 2
      · exact implTellP_any c m A B base j u HVU.out c2 hj hjl HF.out.ts HF.out.vs HF.out.ns HF.out.ch hy.1 hy.2
      · exact implTellT_any c m A B base j u HVU.out (by omega) hj hjl HF.out.ts HF.out.vs HF.out.ns HF.out.ch hy.1 hy.2)
    rw [hr] at CC
    clear c13 ik hr ht ho1 hj hy
    go_wp2_with fail
    refine CC.out.mono ?_
    rintro e w2 ⟨rfl, A2, V2, R2⟩
    have Z := hide1 (And.intro V2 R2)
    clear V2 R2 n0 n1 n2 n3 n4 n5 CC
    go_wp2
    go_ret
    exact ⟨rfl, A2, Z.out.1, R0.out.trans Z.out.2⟩
end Go.Proofs.Ytgehdgmllilmgaa
namespace Go.Proofs.Ytgehdgmllilmgaa
open Go.RowKit
set_option linter.unusedVariables false

/-- What a council is like in which the program lets an event happen. -/
structure Go13 (c : Cn) : Prop where
  f : Fit13 c
  n : ∀ m ∈ c.ns, NtIn c m
  i : ∀ j (hj : j < c.ts.length), c.ts[j].i = (j : Int) + 1
  b : ∀ t ∈ c.ts, 0 ≤ t.b ∧ t.b ≤ 1000000
theorem carr_tell {n T : Nat} {Pr : ByteArray → Prop} {c : Cn} {m : Nt} (G : GC n T Pr c) (N : NA12 c.vs.length c) (I : NtIn c m) : (if m.k = 1 ∨ m.k = 3 then hearC c m else tellC c m) = carrC c m := by
  have ik := I.k
  unfold carrC
  by_cases c13 : m.k = 1 ∨ m.k = 3
  · rw [if_pos c13, if_neg (by omega), if_neg (by omega)]
  · rw [if_neg c13]
    have ht := I.t (by omega)
    have ho := I.o
    obtain ⟨j, hj⟩ : ∃ j : Nat, m.o = (j : Int) + 1 := ⟨m.o.toNat - 1, by omega⟩
    by_cases c2 : m.k = 2
    · rw [if_pos c2]
      exact tell_prom G N c2 hj (by omega)
    · rw [if_neg c2, if_pos (by omega)]
      exact tell_tak (by omega) hj (by omega)
theorem GC.drop {n T : Nat} {Pr : ByteArray → Prop} {c : Cn} (G : GC n T Pr c) (k : Nat) : GC n T Pr (dropC c k) := by
  obtain ⟨V, A, G⟩ := G
  exact ⟨V, A, G.notes (fun m hm => G.no m (drop_mem hm))⟩
set_option maxRecDepth 100000 in
set_option maxHeartbeats 4000000 in
theorem implHap_any {n T : Nat} {Pr : ByteArray → Prop} (c : Cn) (e : Hp) (A : CA) (B base : Nat) (w : World) (h : VaO base w B A c) (F : Go13 c) (G : GC n T Pr c) (N : NA12 c.vs.length c) (he : okHp c.ts.length e) :
    Calls Try.prog 39 #[.pointer (some ⟨B, 0, none⟩), .agg #[.int .i64 e.k, .int .i64 e.i, .int .i64 e.a, .string e.v]] w fun r w' => r = .returned (.int .i64 (doC c e).2) ∧ (∃ A', VaO base w' B A' (doC c e).1 ∧ FrB A B w A' w') := by
  obtain ⟨hk, hi, ha, hv1, hv2⟩ := id he
  have F0 := hide1 (And.intro (Blk.new w 40 #[.int .i64 e.k, .int .i64 e.i, .int .i64 e.a, .string e.v]) ((Below.refl w.heap.size w).alloc (Nat.le_refl _) (.cells #[.int .i64 e.k, .int .i64 e.i, .int .i64 e.a, .string e.v] 40)))
  have HV := hide1 h
  have HF := hide1 F
  have HG := hide1 G
  have HN := hide1 N
  obtain ⟨res, hres⟩ : ∃ r, doC c e = r := ⟨_, rfl⟩
  rw [hres]
  have lBw : B < w.heap.size := h.b.lt
  have nsB := F.f.ns
  clear h F G N he hv1 hv2
  go_enter Try.func39, Try.ntmps39
  go_upto_region 1 with fail
  generalize (w.alloc (.cells #[.int .i64 e.k, .int .i64 e.i, .int .i64 e.a, .string e.v] 40)) = u at F0 ⊢
  obtain ⟨X, hX⟩ : ∃ X, X = w.heap.size := ⟨_, rfl⟩
  have K0 := hide1 F0.out.1
  have B0 := hide1 F0.out.2
  rw [← hX] at K0 ⊢
  have HVU := hide1 (HV.out.kept B0.out)
  have R0 := hide1 ((FrB.refl A B w).below B0.out)
  have hXB : X ≠ B := by omega
  have lX : X < u.heap.size := K0.out.lt
  have lB : B < u.heap.size := HVU.out.b.lt
  clear F0 hX HV
  have h0 : u.cell? ⟨X, 0, none⟩ = some (.int .i64 e.k) := K0.out.cell 0
  have h1 : u.cell? ⟨X, 1, none⟩ = some (.int .i64 e.i) := K0.out.cell 1
  have h2 : u.cell? ⟨X, 2, none⟩ = some (.int .i64 e.a) := K0.out.cell 2
  have h3 : u.cell? ⟨X, 3, none⟩ = some (.string e.v) := K0.out.cell 3
  by_cases c1 : e.k = 1
  · obtain ⟨j, hj⟩ : ∃ j : Nat, e.i = (j : Int) + 1 := ⟨e.i.toNat - 1, by omega⟩
    have hjl : j < c.ts.length := by omega
    have CP := hide1 (implProp_any c A B base u j e.v e.a HVU.out hjl (HF.out.i j hjl) (HF.out.b _ (List.getElem_mem hjl)) HF.out.f.ts HF.out.f.vs nsB)
    have HQ := hide1 (show propC c ⟨1, (j : Int) + 1, e.a, e.v⟩ = res by
      rw [← hres]
      unfold doC
      rw [if_pos c1, ← hj, ← c1])
    rw [HQ.out, ← hj] at CP
    have q1 : (e.k == 1) = true := by simp [c1]
    clear c1 hj hres hk hi ha HQ
    go_wp2_with fail
    refine CP.out.mono ?_
    rintro r w2 ⟨rfl, A2, V2, R2⟩
    have Z := hide1 (And.intro V2 R2)
    clear V2 R2 h0 h1 h2 h3 CP
    go_wp2
    go_ret
    exact ⟨rfl, A2, Z.out.1, R0.out.trans Z.out.2⟩
  · have q1 : (e.k == 1) = false := by simp [c1]
    have b2 := HVU.out.cells.2.2.1
    by_cases c2 : c.ns = []
    · have HQ := hide1 (show res = (c, 1) by rw [← hres]; unfold doC; rw [if_neg c1, if_pos c2])
      have e0 : c.ns.length = 0 := by rw [c2]; rfl
      rw [e0] at b2
      clear c1 c2 e0 hres hk hi ha
      go_wp2
      go_ret
      exact ⟨by rw [HQ.out]; rfl, A, by rw [HQ.out]; exact HVU.out, R0.out⟩
    · have hp := place_lt (e := e) c2
      have hpos : 0 < c.ns.length := by omega
      have HD := hide1 (show res = if e.k = 4 then ({ c with ns := c.ns ++ [ntAt c (placeC c e)] }, 0) else if e.k = 3 then (dropC c (placeC c e), 0) else carrC (dropC c (placeC c e)) (ntAt c (placeC c e)) by rw [← hres]; unfold doC; rw [if_neg c1, if_neg c2])
      have hmod : e.a.tmod (c.ns.length : Int) = ((placeC c e : Nat) : Int) := by
        unfold placeC
        obtain ⟨a, ha⟩ : ∃ a : Nat, e.a = (a : Int) := ⟨e.a.toNat, by omega⟩
        rw [ha, Int.toNat_natCast, Int.tmod_eq_emod_of_nonneg (by omega)]
        omega
      have HIN := hide1 (HF.out.n _ (ntAt_mem hp))
      obtain ⟨m, hm⟩ : ∃ m, ntAt c (placeC c e) = m := ⟨_, rfl⟩
      rw [hm] at HD HIN
      generalize placeC c e = p at *
      have z0 : ((c.ns.length : Int) == 0) = false := by rw [beq_eq_false_iff_ne]; omega
      have z1 : ¬ ((c.ns.length : Int) = 0) := by omega
      have qp : IntKind.i64.wrap (p : Int) = (p : Int) := IntWalk.i64_in _ ⟨by omega, by omega⟩
      have D5 := hide1 (show Below u.heap.size u u.drew from (Below.refl _ _).drew)
      clear hres
      go_upto_region 5 with fail
      go_region_held3 (fun w' => w'.cell? ⟨X, 2, none⟩ = some (.int .i64 e.a) ∧ w'.cell? ⟨B, 2, none⟩ = some (.slice A.na c.ns.length A.nc)) (first | go_keep | exact ⟨h2, b2⟩) (fail)
      generalize u.drew = u2 at D5 ⊢
      have V2 := hide1 (HVU.out.kept D5.out)
      have FX2 := hide1 (K0.out.below D5.out lX)
      have R2 := hide1 (R0.out.below D5.out)
      clear h0 h1 h2 h3 b2 HVU R0
      have h0 : u2.cell? ⟨X, 0, none⟩ = some (.int .i64 e.k) := FX2.out.cell 0
      have CT := hide1 (implTakeN_any c A B base u2 p m V2.out hp nsB hm)
      by_cases c4 : e.k = 4
      · have HQ := hide1 (HD.out.trans (if_pos c4))
        have q2 : (e.k == 2) = false := by simp; omega
        have q3 : (e.k == 3) = false := by simp; omega
        have q4 : (e.k == 4) = true := by simp [c4]
        have CR := hide1 (implTwice_any c A B base u2 p m V2.out hp nsB hm)
        clear c1 c2 c4 hk hi ha hmod z0 z1
        go_wp2_with fail
        refine CR.out.mono ?_
        rintro r w3 ⟨rfl, A3, V3, R3⟩
        have Z := hide1 (And.intro V3 R3)
        clear V3 R3 h0 CR CT
        go_wp2
        go_ret
        exact ⟨by rw [HQ.out]; rfl, A3, by rw [HQ.out]; exact Z.out.1, R2.out.trans Z.out.2⟩
      · by_cases c3 : e.k = 3
        · have HQ := hide1 (HD.out.trans ((if_neg c4).trans (if_pos c3)))
          have q2 : (e.k == 2) = false := by simp; omega
          have q3 : (e.k == 3) = true := by simp [c3]
          clear c1 c2 c4 c3 hk hi ha hmod z0 z1
          go_wp2_with fail
          refine CT.out.mono ?_
          rintro r w3 ⟨rfl, A3, V3, R3⟩
          have Z := hide1 (And.intro V3 R3)
          clear V3 R3 h0 CT
          go_wp2
          go_ret
          exact ⟨by rw [HQ.out]; rfl, A3, by rw [HQ.out]; exact Z.out.1, R2.out.trans Z.out.2⟩
        · have HQ := hide1 (HD.out.trans ((if_neg c4).trans (if_neg c3)))
          have q2 : (e.k == 2) = true := by simp; omega
          have CC := hide1 (fun A' w' (V : VaO base w' B A' (dropC c p)) => implCarry_any (dropC c p) m res A' B base w' V ⟨HF.out.f.ts, HF.out.f.vs, by show (c.ns.take p ++ c.ns.drop (p + 1)).length ≤ _; rw [drop_len hp]; omega, HF.out.f.ch, HF.out.f.y, HF.out.f.z⟩ ⟨HIN.out.k, HIN.out.o, HIN.out.t, HIN.out.v, HIN.out.z⟩ ((carr_tell (HG.out.drop p) HN.out ⟨HIN.out.k, HIN.out.o, HIN.out.t, HIN.out.v, HIN.out.z⟩).trans HQ.out.symm))
          clear c1 c2 c4 c3 hk hi ha hmod z0 z1
          go_wp2_with fail
          refine CT.out.mono ?_
          rintro r w3 ⟨rfl, A3, V3, R3⟩
          have Z := hide1 (And.intro V3 R3)
          clear V3 R3 h0 CT
          go_wp2_with fail
          refine (CC.out A3 w3 Z.out.1).mono ?_
          rintro r w4 ⟨rfl, A4, V4, R4⟩
          have Y := hide1 (And.intro V4 R4)
          clear V4 R4 CC
          go_wp2
          go_ret
          exact ⟨rfl, A4, Y.out.1, R2.out.trans (Z.out.2.trans Y.out.2)⟩
end Go.Proofs.Ytgehdgmllilmgaa
