/- Groups in the statements' words: copied, sized, compared. -/
import Derived.Test.YtcahaimefgkmiaaRsO
namespace Go.Proofs.Ytcahaimefgkmiaa
open Go.ChangeShapes Go.WideShapes Go.ChangeAt Go.RowKit Go.Deep Go.Joins
set_option linter.unusedVariables false

theorem sizeGpI : (Try.prog.info? 46).map (·.size) = some 4 := by kernel_rfl
theorem sizeGpL : (Try.prog.info? 40).map (·.size) = some 4 := by kernel_rfl
theorem oneGp (g : Gv) : (grA g).all (·.oneCell') = true := by simp [grA, Value.oneCell']
def zGp : Array Value := #[.slice none 0 0, .slice none 0 0, .slice none 0 0, .slice none 0 0]
set_option maxRecDepth 100000 in
set_option maxHeartbeats 2000000 in
theorem szGp_any (g : Gv) (left : Nat) (w : World) (hl : left ≤ 1048576) (hs : SzGp g) (hr : RdGp w g) :
    Calls Try.prog 19 #[.agg (grA g), .int .i64 (left : Int)] w fun e w' => (e = .returned (.int .i64 (-1)) ∨ ∃ r : Nat, e = .returned (.int .i64 (r : Int)) ∧ SmGp g ∧ (∀ x ∈ g.C, x.key.size ≤ 1048576 ∧ x.val.size ≤ 1048576 ∧ x.gt.size ≤ 1048576)) ∧ Below w.heap.size w w' := by
  have F := hide1 (And.intro (BlkA.new w 40 (grA g)) ((Below.refl w.heap.size w).alloc (Nat.le_refl _) (.cells (grA g) 40)))
  have C1 := hide1 (fun w' (hb : Below w.heap.size w w') => szIntSS_any g.va g.M g.vc left w' hl (by have := hs.vl; unfold maxLen at this; omega) (fun x hx => by have := hs.vs x hx; unfold maxLen at this; omega) (hr.v.later hb))
  have C2 := hide1 (fun (q : Nat) (hq : q ≤ 1048576) w' (hb : Below w.heap.size w w') => szMemberS_any g.ma g.L g.mc q w' hq (by have := hs.ml; unfold maxLen at this; omega) hs.ms (hr.m.later hb))
  have C3 := hide1 (fun (q : Nat) (hq : q ≤ 1048576) w' (hb : Below w.heap.size w w') => szMsgS_any g.fa g.N g.fc q w' hq (by have := hs.fl; unfold maxLen at this; omega) hs.fs (hr.f.later hb))
  have C4 := hide1 (fun (q : Nat) (hq : q ≤ 1048576) w' (hb : Below w.heap.size w w') => szCallS_any g.ca g.C g.cc q w' hq (by have := hs.cl; unfold maxLen at this; omega) (hr.c.later hb) (fun i h => by have h1 := hs.cs _ (List.getElem_mem h); unfold wfCall maxLen at h1; omega))
  clear hs hr
  go_enter Try.func19, Try.ntmps19
  go_upto_region 1 with fail
  generalize (w.alloc (.cells (grA g) 40)) = u at F ⊢
  obtain ⟨X, hX⟩ : ∃ G, G = w.heap.size := ⟨_, rfl⟩
  have KX := hide1 F.out.1
  have E0 := hide1 F.out.2
  rw [← hX] at KX ⊢
  clear F hX
  have x0 : u.cell? ⟨X, 0, none⟩ = some (.slice g.va g.M.length g.vc) := KX.out.cell 0 rfl
  go_wp2_with fail
  refine (C1.out u E0.out).mono ?_
  rintro e w1 ⟨hr, hb⟩
  have E1 := hide1 (E0.out.trans (hb.mono E0.out.size))
  have K1 := hide1 (KX.out.below hb KX.out.lt)
  clear hb x0 KX C1
  rcases hr with rfl | ⟨r1, rfl, hr1, hr2, hr3⟩
  · go_wp2
    go_ret
    exact ⟨.inl rfl, E1.out⟩
  have q1 : decide ((r1 : Int) < 0) = false := by simp
  have H1 := hide1 (And.intro (Nat.le_trans hr2 hl) hr3)
  have hr1' : r1 ≤ 1048576 := Nat.le_trans hr1 hl
  clear hr1 hr2 hr3
  have x1 : w1.cell? ⟨X, 1, none⟩ = some (.slice g.ma g.L.length g.mc) := K1.out.cell 1 rfl
  go_wp2_with fail
  refine (C2.out r1 hr1' w1 E1.out).mono ?_
  rintro e w2 ⟨hr, hb⟩
  have E2 := hide1 (E1.out.trans (hb.mono E1.out.size))
  have K2 := hide1 (K1.out.below hb K1.out.lt)
  clear hb x1 K1 C2 E1
  rcases hr with rfl | ⟨r2, rfl, hr1, hr2, hr3⟩
  · go_wp2
    go_ret
    exact ⟨.inl rfl, E2.out⟩
  have q2 : decide ((r2 : Int) < 0) = false := by simp
  have H2 := hide1 (And.intro (Nat.le_trans hr2 hr1') hr3)
  have hr2' : r2 ≤ 1048576 := Nat.le_trans hr1 hr1'
  clear hr1 hr2 hr3
  have x2 : w2.cell? ⟨X, 2, none⟩ = some (.slice g.fa g.N.length g.fc) := K2.out.cell 2 rfl
  go_wp2_with fail
  refine (C3.out r2 hr2' w2 E2.out).mono ?_
  rintro e w3 ⟨hr, hb⟩
  have E3 := hide1 (E2.out.trans (hb.mono E2.out.size))
  have K3 := hide1 (K2.out.below hb K2.out.lt)
  clear hb x2 K2 C3 E2
  rcases hr with rfl | ⟨r3, rfl, hr1, hr2, hr3⟩
  · go_wp2
    go_ret
    exact ⟨.inl rfl, E3.out⟩
  have q3 : decide ((r3 : Int) < 0) = false := by simp
  have H3 := hide1 (And.intro (Nat.le_trans hr2 hr2') hr3)
  have hr3' : r3 ≤ 1048576 := Nat.le_trans hr1 hr2'
  clear hr1 hr2 hr3
  have x3 : w3.cell? ⟨X, 3, none⟩ = some (.slice g.ca g.C.length g.cc) := K3.out.cell 3 rfl
  go_wp2_with fail
  refine (C4.out r3 hr3' w3 E3.out).mono ?_
  rintro e w4 ⟨hr, hb⟩
  have E4 := hide1 (E3.out.trans (hb.mono E3.out.size))
  clear hb x3 K3 C4 E3
  rcases hr with rfl | ⟨r4, rfl, hr1, hr2, hr3⟩
  · go_wp2
    go_ret
    exact ⟨.inl rfl, E4.out⟩
  have q4 : decide ((r4 : Int) < 0) = false := by simp
  have H4 := hide1 (And.intro (Nat.le_trans hr2 hr3') (show ∀ x ∈ g.C, x.key.size ≤ 1048576 ∧ x.val.size ≤ 1048576 ∧ x.gt.size ≤ 1048576 from fun x hx => by obtain ⟨j, hj, rfl⟩ := List.getElem_of_mem hx; exact hr3 j hj))
  clear hr1 hr2 hr3
  go_wp2
  go_ret
  exact ⟨.inr ⟨r4, rfl, ⟨H1.out.1, H1.out.2, H2.out.1, H2.out.2, H3.out.1, H3.out.2, H4.out.1⟩, H4.out.2⟩, E4.out⟩
set_option maxRecDepth 100000 in
set_option maxHeartbeats 2000000 in
theorem eqGp_same (g h : Gv) (w : World) (hz : SmGp g) (hs : SaGp g h) (hA : RdGp w g) (hB : RdGp w h) :
    Calls Try.prog 23 #[.agg (grA g), .agg (grA h)] w fun e w' => e = .returned (.bool true) ∧ Below w.heap.size w w' := by
  have F := hide1 (two_newT w 46 (grA g) (grA h))
  have e1 : h.M.length = g.M.length := by have := congrArg List.length hs.v; simpa using this
  have C1 : Hid (∀ w', Below w.heap.size w w' → Calls Try.prog 47 #[.slice g.va g.M.length g.vc, .slice h.va h.M.length h.vc] w' fun e w'' => e = .returned (.bool true) ∧ Below w'.heap.size w' w'') := fun w' hb => by rw [e1]; exact eqIntSS_same g.va h.va g.M h.M g.vc h.vc w' hz.vl hz.vs hs.v.symm (hA.v.later hb) (hB.v.later hb)
  have C2 := hide1 (fun w' (hb : Below w.heap.size w w') => eqMemberS_same g.ma h.ma g.L h.L g.mc h.mc w' hz.ml hz.ms hs.m (hA.m.later hb) (hB.m.later hb))
  have C3 := hide1 (fun w' (hb : Below w.heap.size w w') => eqMsgS_same g.fa h.fa g.N h.N g.fc h.fc w' hz.fl hz.fs hs.f (hA.f.later hb) (hB.f.later hb))
  have C4 : Hid (∀ w', Below w.heap.size w w' → Calls Try.prog 16 #[.slice g.ca g.C.length g.cc, .slice h.ca h.C.length h.cc] w' fun e w'' => e = .returned (.bool true) ∧ Below w'.heap.size w' w'') := fun w' hb => by
    have hc := hB.c
    rw [hs.c] at hc ⊢
    exact eqCallS_same g.ca h.ca g.C g.cc h.cc w' hz.cl (hA.c.later hb) (hc.later hb)
  clear hA hB hz hs e1
  go_enter Try.func23, Try.ntmps23
  go_upto_region 1 with fail
  generalize ((w.alloc (.cells (grA g) 46)).alloc (.cells (grA h) 46)) = u at F ⊢
  obtain ⟨X, hX⟩ : ∃ G, G = w.heap.size := ⟨_, rfl⟩
  obtain ⟨Y, hY⟩ : ∃ G, G = w.heap.size + 1 := ⟨_, rfl⟩
  have KX := hide1 F.out.1
  have KY := hide1 F.out.2.1
  have E0 := hide1 F.out.2.2
  rw [← hY] at KY ⊢
  rw [← hX] at KX ⊢
  clear F hX hY
  have x0 : u.cell? ⟨X, 0, none⟩ = some (.slice g.va g.M.length g.vc) := KX.out.cell 0 rfl
  have y0 : u.cell? ⟨Y, 0, none⟩ = some (.slice h.va h.M.length h.vc) := KY.out.cell 0 rfl
  go_wp2_with fail
  refine (C1.out u E0.out).mono ?_
  rintro e w1 ⟨rfl, hb⟩
  have E1 := hide1 (E0.out.trans (hb.mono E0.out.size))
  have KX1 := hide1 (KX.out.below hb KX.out.lt)
  have KY1 := hide1 (KY.out.below hb KY.out.lt)
  clear hb x0 y0 KX KY C1 E0
  have x1 : w1.cell? ⟨X, 1, none⟩ = some (.slice g.ma g.L.length g.mc) := KX1.out.cell 1 rfl
  have y1 : w1.cell? ⟨Y, 1, none⟩ = some (.slice h.ma h.L.length h.mc) := KY1.out.cell 1 rfl
  go_wp2_with fail
  refine (C2.out w1 E1.out).mono ?_
  rintro e w2 ⟨rfl, hb⟩
  have E2 := hide1 (E1.out.trans (hb.mono E1.out.size))
  have KX2 := hide1 (KX1.out.below hb KX1.out.lt)
  have KY2 := hide1 (KY1.out.below hb KY1.out.lt)
  clear hb x1 y1 KX1 KY1 C2 E1
  have x2 : w2.cell? ⟨X, 2, none⟩ = some (.slice g.fa g.N.length g.fc) := KX2.out.cell 2 rfl
  have y2 : w2.cell? ⟨Y, 2, none⟩ = some (.slice h.fa h.N.length h.fc) := KY2.out.cell 2 rfl
  go_wp2_with fail
  refine (C3.out w2 E2.out).mono ?_
  rintro e w3 ⟨rfl, hb⟩
  have E3 := hide1 (E2.out.trans (hb.mono E2.out.size))
  have KX3 := hide1 (KX2.out.below hb KX2.out.lt)
  have KY3 := hide1 (KY2.out.below hb KY2.out.lt)
  clear hb x2 y2 KX2 KY2 C3 E2
  have x3 : w3.cell? ⟨X, 3, none⟩ = some (.slice g.ca g.C.length g.cc) := KX3.out.cell 3 rfl
  have y3 : w3.cell? ⟨Y, 3, none⟩ = some (.slice h.ca h.C.length h.cc) := KY3.out.cell 3 rfl
  go_wp2_with fail
  refine (C4.out w3 E3.out).mono ?_
  rintro e w4 ⟨rfl, hb⟩
  have E4 := hide1 (E3.out.trans (hb.mono E3.out.size))
  clear hb x3 y3 KX3 KY3 C4 E3
  go_wp2
  go_ret
  exact ⟨rfl, E4.out⟩
end Go.Proofs.Ytcahaimefgkmiaa
