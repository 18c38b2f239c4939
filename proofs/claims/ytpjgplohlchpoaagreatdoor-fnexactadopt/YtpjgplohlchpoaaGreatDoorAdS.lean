/- The model's Adopt. -/
import Derived.Test.YtpjgplohlchpoaaGreatDoorMgD
import Derived.Test.YtpjgplohlchpoaaGreatDoorMbS
import Derived.Test.YtpjgplohlchpoaaGreatDoorUAY
import Derived.Test.YtpjgplohlchpoaaGreatDoorUAD
import Derived.Test.YtpjgplohlchpoaaGreatDoorUAV
import Derived.Laws.CopyOwn
namespace Go.Proofs.YtpjgplohlchpoaaGreatDoor
open Go.RowKit
set_option linter.unusedVariables false
set_option linter.unusedSimpArgs false

/-- What the model's Adopt answers, as it is read. -/
def AdoR (w : World) (m : Mb) (vs : List (List Int)) (e : Int) (r : Ending) (w' : World) : Prop :=
  (∃ (B : MA) (b : Option Addr) (c : Nat) (D : List Mv), r = .returned (.tuple #[.agg (mbA (adopt m vs e).1 B), .slice b D.length c, .bool (adopt m vs e).2.2]) ∧ D.map (·.m) = (adopt m vs e).2.1 ∧ RdMb w' (adopt m vs e).1 B ∧ RdMs w' b D) ∧ Below w.heap.size w w'
/-- What stands ahead of the first test. -/
structure AdQ (w U : World) (X R : Nat) (m : Mb) (A : MA) : Prop where
  bx : BlkA U X 38 (mbA m A)
  rs : BlkA U R 38 zMb
  ow : U.ownsRow w.heap.size 61 6 (.slice (some ⟨w.heap.size + 1 + 1, 0, none⟩) 0 0) 0 []
  bl : Below w.heap.size w U
  xw : X = w.heap.size
  rw' : R = w.heap.size + 1
theorem AdQ.later {w U W : World} {X R : Nat} {m : Mb} {A : MA} (h : AdQ w U X R m A) (hb : Below U.heap.size U W) : AdQ w W X R m A := ⟨h.bx.below hb h.bx.lt, h.rs.below hb h.rs.lt, own_kept h.ow hb, h.bl.trans (hb.mono h.bl.size), h.xw, h.rw'⟩
theorem adq_new (w : World) (m : Mb) (A : MA) : AdQ w (((w.alloc (.cells (mbA m A) 38)).alloc (.cells zMb 38)).alloc (.cells #[] 61)) w.heap.size (w.heap.size + 1) m A := by
  have b1 := (Below.refl w.heap.size w).alloc (Nat.le_refl _) (.cells (mbA m A) 38)
  have b2 := (Below.refl (w.alloc (.cells (mbA m A) 38)).heap.size (w.alloc (.cells (mbA m A) 38))).alloc (Nat.le_refl _) (.cells zMb 38)
  have b3 := (Below.refl ((w.alloc (.cells (mbA m A) 38)).alloc (.cells zMb 38)).heap.size ((w.alloc (.cells (mbA m A) 38)).alloc (.cells zMb 38))).alloc (Nat.le_refl _) (.cells #[] 61)
  have k1 := BlkA.new w 38 (mbA m A)
  have k2 := BlkA.new (w.alloc (.cells (mbA m A) 38)) 38 zMb
  have k3 := owns_emptyX ((w.alloc (.cells (mbA m A) 38)).alloc (.cells zMb 38)) 61 6
  rw [World.size_alloc] at k2
  rw [World.size_alloc, World.size_alloc] at k3
  have k1' := k1.below b2 k1.lt
  exact ⟨k1'.below b3 k1'.lt, k2.below b3 k2.lt, own_base k3 (by omega), (b1.trans (b2.mono b1.size)).trans (b3.mono (by have := b1.size; have := b2.size; omega)), rfl, rfl⟩
theorem oth_lenA (v : List Int) (id : Int) : (othV v id).length ≤ 6 := List.length_filter_le _ _
theorem RdMs.farRow {w : World} {lo R : Nat} {b : Option Addr} {D : List Mv} (h : RdMs w b D) (l : LoMs lo b D) (hR : R < lo) (cs : Array Value) : RdMs (w.setRow R cs) b D :=
  ⟨RdG.farR h.r (g := R) cs (fun q o e hl => by have := l.r q o e hl; omega), fun x hx => RdG.farR (h.i x hx) (g := R) cs (fun q o e hl => by have := l.i x hx q o e hl; omega)⟩
theorem RdMb.farRow {w : World} {lo R : Nat} {m : Mb} {A : MA} (h : RdMb w m A) (l : LoMb lo m A) (hR : R < lo) (cs : Array Value) : RdMb (w.setRow R cs) m A :=
  ⟨(RdG.farR h.wr.g (g := R) cs (fun q o e hl => by have := l.wr q o e hl; omega)).z, RdG.farR h.ir (g := R) cs (fun q o e hl => by have := l.ir q o e hl; omega), (RdG.farR h.lr.g (g := R) cs (fun q o e hl => by have := l.lr q o e hl; omega)).z⟩
theorem vwA_at' {L : List Vw} {k : Nat} (hk : k < L.length) : vwA (L.map (·.l)) ((k : Int) + 1) = L[k].l := by
  unfold vwA
  rw [show ((k : Int) + 1 - 1).toNat = k by omega, List.getD_eq_getElem?_getD, List.getElem?_map, List.getElem?_eq_getElem hk]
  rfl
theorem results_row3S {P : Program} {fn : Func} {p u v : Tmp} {ty : TypeId} (h : fn.results = #[.cell p ty, .tmp u, .tmp v]) (tmps : Array Value) (w : World) (g : Nat) (t : TypeId) (cs : Array Value) (fr : Nat × Nat) (d : TypeDesc)
    (hp : tmps.getD p undef = .pointer (some ⟨g, 0, none⟩)) (hg : w.heap[g]? = some (.cells cs t fr))
    (hu : P.underlying ty = some d) (hd : (match d with | .struct _ | .array _ _ => true | _ => false) = true) (hi : (P.info? ty).map (·.size) = some cs.size) :
    (results fn tmps).run P w = .ok (.tuple #[.agg cs, tmps.getD u undef, tmps.getD v undef]) w := by
  have hp' : tmps[p]?.getD undef = .pointer (some ⟨g, 0, none⟩) := by simpa using hp
  simp [results, h, hp', asAddr, run_loadVar_row w g t ty cs fr d hg hu hd hi]
set_option maxRecDepth 100000 in
set_option maxHeartbeats 16000000 in
theorem specAdopt_any (m : Mb) (A : MA) (va : Option Addr) (L : List Vw) (vc : Nat) (e : Int) (w : World) (he : (Lit.int .i64 e).wf = true) (hz : SzMb m) (hA : RdMb w m A) (hL : L.length ≤ 1048576) (hs : ∀ x ∈ L, x.l.length ≤ 1048576) (hV : RdVs w va L) :
    Calls Tryz.prog 6 #[.agg (mbA m A), .slice va L.length vc, .int .i64 e] w fun r w' => AdoR w m (L.map (·.l)) e r w' := by
  have F := hide1 (adq_new w m A)
  unfold zMb mbA at F
  unfold mbA
  go_enter Tryz.func6, Tryz.ntmps6
  go_upto_region 2 with fail
  generalize (((w.alloc (.cells #[.int .i64 m.id, .int .i64 m.ep, .bool m.fe, .bool m.ba, .bool m.le, .bool m.se, .slice A.wa m.wa.length A.wc, .slice A.ia m.is.length A.ic, .int .i64 m.cn, .int .i64 m.tk.op, .int .i64 m.tk.cl, .int .i64 m.tk.nu, .string m.tk.it.k, .string m.tk.it.v, .int .i64 m.tk.it.n, .slice A.la m.tk.lf.length A.lc] 38)).alloc (.cells #[.int .i64 0, .int .i64 0, .bool false, .bool false, .bool false, .bool false, .slice none 0 0, .slice none 0 0, .int .i64 0, .int .i64 0, .int .i64 0, .int .i64 0, .string ⟨#[]⟩, .string ⟨#[]⟩, .int .i64 0, .slice none 0 0] 38)).alloc (.cells #[] 61)) = U at F ⊢
  obtain ⟨X, hX⟩ : ∃ G, G = w.heap.size := ⟨_, rfl⟩
  obtain ⟨R, hR⟩ : ∃ G, G = w.heap.size + 1 := ⟨_, rfl⟩
  have Q := hide1 (show AdQ w U X R m A from by rw [hX, hR]; exact F.out)
  rw [← hR, ← hX]
  have HXR := hide1 (And.intro hX hR)
  clear F hX hR
  have KX := hide1 Q.out.bx
  have BU := hide1 Q.out.bl
  have lX : X < U.heap.size := KX.out.lt
  have su : w.heap.size ≤ U.heap.size := BU.out.size
  have CM := hide1 (fun W (hb : Below U.heap.size U W) => (show Calls Tryz.prog 21 #[.agg (mbA m A)] W _ from specMemberOk_any m A W hz (hA.later (BU.out.trans (hb.mono su)))))
  have CV := hide1 (fun W (hb : Below U.heap.size U W) => specViews_any va L vc W hL hs (hV.later (BU.out.trans (hb.mono su))))
  have CN := hide1 (fun W => in_anyR e 2 (L.length : Int) W)
  have HA := hide1 hA
  have HVW := hide1 hV
  have HV := hide1 (hV.later BU.out)
  have HZ := hide1 hz
  have z0 : ∀ n : Gr U, n.w.cell? ⟨X, 0, none⟩ = some (.int .i64 m.id) := fun n => n.cell (KX.out.cell 0 rfl)
  have z1 : ∀ n : Gr U, n.w.cell? ⟨X, 1, none⟩ = some (.int .i64 m.ep) := fun n => n.cell (KX.out.cell 1 rfl)
  have z3 : ∀ n : Gr U, n.w.cell? ⟨X, 3, none⟩ = some (.bool m.ba) := fun n => n.cell (KX.out.cell 3 rfl)
  clear hA hV hz hs
  obtain ⟨q, hq⟩ : ∃ q : Bool, q = !decide (adoR m (L.map (·.l)) e) := ⟨_, rfl⟩
  have HQ := hide1 hq
  clear hq
  have hen := bounds_i64 he
  go_cut [48] (fun bv wx => bv = .bool q ∧ Hid (Below U.heap.size U wx))
  case first =>
    by_cases c1 : okMb m
    case neg =>
      rw [decide_eq_false c1] at CM
      have RES := hide1 (show q = true from by rw [HQ.out, decide_eq_false (fun h => c1 h.1)]; rfl)
      refine wp_region_grown (by kernel_rfl) (by kernel_rfl) ?_
      (repeat (first | go_big_quiet_skip | (go_big_quiet_want; first | (refine quiet_loadA 38 _ rfl X 0 rfl (mbA m A) (gr_load KX.out Tryz.underlying38 rfl sizeMb) ?_; go_simp; go_big_quiet_on) | (go_big_quiet_op; first | go_big_quiet_on | go_big_quiet_call (first | (go_at_call 21; exact quiet_grown (CM.out _ (Gr.b _))) | (go_at_call 22; exact quiet_grown (CV.out _ (Gr.b _))) | (go_at_call 23; exact quiet_grownS (CN.out _)))))))
      refine wpQuiet_nil ?_
      rintro w1 ⟨m1, rfl⟩
      go_wp2
      go_meet
      exact ⟨by rw [RES.out], hide1 m1.b⟩
    rw [decide_eq_true c1] at CM
    by_cases c2 : okViews (L.map (·.l))
    case neg =>
      rw [decide_eq_false c2] at CV
      have RES := hide1 (show q = true from by rw [HQ.out, decide_eq_false (fun h => c2 h.2.1)]; rfl)
      refine wp_region_grown (by kernel_rfl) (by kernel_rfl) ?_
      (repeat (first | go_big_quiet_skip | (go_big_quiet_want; first | (refine quiet_loadA 38 _ rfl X 0 rfl (mbA m A) (gr_load KX.out Tryz.underlying38 rfl sizeMb) ?_; go_simp; go_big_quiet_on) | (go_big_quiet_op; first | go_big_quiet_on | go_big_quiet_call (first | (go_at_call 21; exact quiet_grown (CM.out _ (Gr.b _))) | (go_at_call 22; exact quiet_grown (CV.out _ (Gr.b _))) | (go_at_call 23; exact quiet_grownS (CN.out _)))))))
      refine wpQuiet_nil ?_
      rintro w1 ⟨m1, rfl⟩
      go_wp2
      go_meet
      exact ⟨by rw [RES.out], hide1 m1.b⟩
    rw [decide_eq_true c2] at CV
    by_cases c3 : 2 ≤ e ∧ e ≤ (L.length : Int)
    case neg =>
      rw [in_noI c3] at CN
      have RES := hide1 (show q = true from by rw [HQ.out, decide_eq_false (fun h => c3 ⟨h.2.2.1.1, by have := h.2.2.1.2; rw [List.length_map] at this; exact this⟩)]; rfl)
      refine wp_region_grown (by kernel_rfl) (by kernel_rfl) ?_
      (repeat (first | go_big_quiet_skip | (go_big_quiet_want; first | (refine quiet_loadA 38 _ rfl X 0 rfl (mbA m A) (gr_load KX.out Tryz.underlying38 rfl sizeMb) ?_; go_simp; go_big_quiet_on) | (go_big_quiet_op; first | go_big_quiet_on | go_big_quiet_call (first | (go_at_call 21; exact quiet_grown (CM.out _ (Gr.b _))) | (go_at_call 22; exact quiet_grown (CV.out _ (Gr.b _))) | (go_at_call 23; exact quiet_grownS (CN.out _)))))))
      refine wpQuiet_nil ?_
      rintro w1 ⟨m1, rfl⟩
      go_wp2
      go_meet
      exact ⟨by rw [RES.out], hide1 m1.b⟩
    rw [in_yesI c3] at CN
    by_cases c4 : e ≤ m.ep
    · have q4 : decide (e ≤ m.ep) = true := decide_eq_true c4
      have RES := hide1 (show q = true from by rw [HQ.out, decide_eq_false (fun h => absurd h.2.2.2.1 (by omega))]; rfl)
      refine wp_region_grown (by kernel_rfl) (by kernel_rfl) ?_
      (repeat (first | go_big_quiet_skip | (go_big_quiet_want; first | (refine quiet_loadA 38 _ rfl X 0 rfl (mbA m A) (gr_load KX.out Tryz.underlying38 rfl sizeMb) ?_; go_simp; go_big_quiet_on) | (go_big_quiet_op; first | go_big_quiet_on | go_big_quiet_call (first | (go_at_call 21; exact quiet_grown (CM.out _ (Gr.b _))) | (go_at_call 22; exact quiet_grown (CV.out _ (Gr.b _))) | (go_at_call 23; exact quiet_grownS (CN.out _)))))))
      refine wpQuiet_nil ?_
      rintro w1 ⟨m1, rfl⟩
      go_wp2
      go_meet
      exact ⟨by rw [RES.out], hide1 m1.b⟩
    have q4 : decide (e ≤ m.ep) = false := decide_eq_false c4
    obtain ⟨k, hk⟩ : ∃ k : Nat, e = (k : Int) + 1 := ⟨(e - 1).toNat, by omega⟩
    subst hk
    have k1 : k < L.length := by omega
    have k2 : (k : Int) < (L.length : Int) := by omega
    have wk : IntKind.i64.wrap ((k : Int) + 1 - 1) = (k : Int) := by rw [IntKind.wrap_i64]; omega
    have vwk := vwA_at' k1
    obtain ⟨ab, ao, rfl, hab, hac⟩ := HV.out.r k k1
    have hvk : okView L[k].l := c2.1 _ (List.mem_map_of_mem (List.getElem_mem k1))
    have hln : 0 < L[k].l.length := hvk.1.1
    obtain ⟨b1, o1, ea, hb1, hc1⟩ := HV.out.v _ (List.getElem_mem k1) 0 hln
    have zv : ∀ n : Gr U, n.w.cell? ⟨ab, ao + k, none⟩ = some (.slice (some ⟨b1, o1, none⟩) L[k].l.length L[k].c) := fun n => n.cell (by have := hac 0 (by omega); rw [Nat.mul_one, Nat.add_zero] at this; rw [← ea]; exact this)
    have zh : ∀ n : Gr U, n.w.cell? ⟨b1, o1, none⟩ = some (.int .i64 (L[k].l.headD 0)) := fun n => n.cell (by rw [head_getI _ hln]; simpa using hc1)
    obtain ⟨xl, hxl⟩ : ∃ z, z = L[k].l.length := ⟨_, rfl⟩
    obtain ⟨xc, hxc⟩ : ∃ z, z = L[k].c := ⟨_, rfl⟩
    obtain ⟨hd, hhd⟩ : ∃ z, z = L[k].l.headD 0 := ⟨_, rfl⟩
    rw [← hxl, ← hxc] at zv
    rw [← hxl] at hln
    rw [← hhd] at zh
    have HHD := hide1 hhd
    have kl : (0 : Int) < (xl : Int) := by omega
    clear hac hc1 ea hhd
    by_cases c5 : hd = m.id
    case neg =>
      have q5 : (hd != m.id) = true := by simp [c5]
      have RES := hide1 (show q = true from by rw [HQ.out, decide_eq_false (fun h => c5 (by rw [HHD.out, ← vwk]; exact h.2.2.2.2))]; rfl)
      refine wp_region_grown (by kernel_rfl) (by kernel_rfl) ?_
      (repeat (first | go_big_quiet_skip | (go_big_quiet_want; first | (refine quiet_loadA 38 _ rfl X 0 rfl (mbA m A) (gr_load KX.out Tryz.underlying38 rfl sizeMb) ?_; go_simp; go_big_quiet_on) | (go_big_quiet_op; first | go_big_quiet_on | go_big_quiet_call (first | (go_at_call 21; exact quiet_grown (CM.out _ (Gr.b _))) | (go_at_call 22; exact quiet_grown (CV.out _ (Gr.b _))) | (go_at_call 23; exact quiet_grownS (CN.out _)))))))
      refine wpQuiet_nil ?_
      rintro w1 ⟨m1, rfl⟩
      go_wp2
      go_meet
      exact ⟨by rw [RES.out], hide1 m1.b⟩
    have q5 : (hd != m.id) = false := by simp [c5]
    have RES := hide1 (show q = false from by rw [HQ.out, decide_eq_true (show adoR m (L.map (·.l)) ((k : Int) + 1) from ⟨c1, c2, ⟨c3.1, by rw [List.length_map]; exact c3.2⟩, by omega, by rw [vwk, ← HHD.out]; exact c5⟩)]; rfl)
    refine wp_region_grown (by kernel_rfl) (by kernel_rfl) ?_
    (repeat (first | go_big_quiet_skip | (go_big_quiet_want; first | (refine quiet_loadA 38 _ rfl X 0 rfl (mbA m A) (gr_load KX.out Tryz.underlying38 rfl sizeMb) ?_; go_simp; go_big_quiet_on) | (go_big_quiet_op; first | go_big_quiet_on | go_big_quiet_call (first | (go_at_call 21; exact quiet_grown (CM.out _ (Gr.b _))) | (go_at_call 22; exact quiet_grown (CV.out _ (Gr.b _))) | (go_at_call 23; exact quiet_grownS (CN.out _)))))))
    refine wpQuiet_nil ?_
    rintro w1 ⟨m1, rfl⟩
    go_wp2
    go_meet
    exact ⟨by rw [RES.out], hide1 m1.b⟩
  case rest =>
    obtain ⟨rfl, BX⟩ := hcut
    have Q2 := hide1 (Q.out.later BX.out)
    have HV2 := hide1 (HV.out.later BX.out)
    have sx : U.heap.size ≤ wc.heap.size := BX.out.size
    have BW := hide1 (BU.out.trans (BX.out.mono su))
    clear Q KX CM CV CN z0 z1 z3 HV BX BU
    by_cases ha : adoR m (L.map (·.l)) e
    case neg =>
      have RES := hide1 (show adopt m (L.map (·.l)) e = (zeroMb, [], false) from if_neg ha)
      have RQ := hide1 (show q = true from by rw [HQ.out, decide_eq_false ha]; rfl)
      obtain rfl := RQ.out
      clear ha RQ HQ
      go_wp2_with (refine wpList_store_row rfl 38 _ _ rfl R zMb rfl rfl 38 zMb Q2.out.rs sizeMb rfl (oneMb zeroMb ⟨none, 0, none, 0, none, 0⟩) ?_)
      have RS := setRow_heap _ R zMb zMb 38 (0, 0) Q2.out.rs
      refine bodyPost_ret (results_row3S Tryz.results6 _ _ R 38 zMb (0, 0) _ rfl RS Tryz.underlying38 rfl sizeMb) rfl ?_
      unfold AdoR
      rw [RES.out]
      exact ⟨⟨⟨none, 0, none, 0, none, 0⟩, _, _, [], rfl, rfl, ⟨fun i hi => absurd hi (by simp [zeroMb]), fun i hi => absurd hi (by simp [zeroMb]), fun i hi => absurd hi (by simp [zeroMb, zeroTk])⟩, RdMs.nil _ _⟩, below_setRow (g := R) BW.out (by have := HXR.out; omega) _⟩
    have RES := hide1 (show adopt m (L.map (·.l)) e = ((adoM m (L.map (·.l)) e).1, (adoM m (L.map (·.l)) e).2, true) from if_pos ha)
    have RQ := hide1 (show q = false from by rw [HQ.out, decide_eq_true ha]; rfl)
    obtain rfl := RQ.out
    clear HQ RQ
    obtain ⟨c1, c2, ⟨c3, c4⟩, c5, c6⟩ := ha
    rw [List.length_map] at c4
    obtain ⟨j, hj⟩ : ∃ j : Nat, e = (j : Int) + 1 + 1 := ⟨(e - 2).toNat, by omega⟩
    subst hj
    have j1 : j + 1 < L.length := by omega
    have j0 : j < L.length := by omega
    have v1 : vwA (L.map (·.l)) ((j : Int) + 1 + 1) = L[j + 1].l := by have := vwA_at' j1; rw [show (((j + 1 : Nat) : Int) + 1) = (j : Int) + 1 + 1 by omega] at this; exact this
    have v0 : vwA (L.map (·.l)) ((j : Int) + 1 + 1 - 1) = L[j].l := by rw [show (j : Int) + 1 + 1 - 1 = (j : Int) + 1 by omega]; exact vwA_at' j0
    have ok1 : okView L[j + 1].l := c2.1 _ (List.mem_map_of_mem (List.getElem_mem j1))
    have ok0 : okView L[j].l := c2.1 _ (List.mem_map_of_mem (List.getElem_mem j0))
    have AM := hide1 (show adoM m (L.map (·.l)) ((j : Int) + 1 + 1) = if m.ba = true ∧ m.ep = (j : Int) + 1 ∧ m.id ∈ L[j].l then hasM (ledM m ((j : Int) + 1 + 1)) L[j + 1].l m.is else (ledM m ((j : Int) + 1 + 1), (wthV L[j].l m.id).map (fun v => ⟨1, m.id, v, (j : Int) + 1 + 1, 0, []⟩)) from by
      have hi : hadM m (L.map (·.l)) ((j : Int) + 1 + 1) ↔ (m.ba = true ∧ m.ep = (j : Int) + 1 ∧ m.id ∈ L[j].l) := by
        unfold hadM
        rw [v0, show (j : Int) + 1 + 1 - 1 = (j : Int) + 1 by omega]
      unfold adoM
      by_cases hh : hadM m (L.map (·.l)) ((j : Int) + 1 + 1)
      · rw [if_pos hh, if_pos (hi.1 hh), v1]
      · rw [if_neg hh, if_neg (fun c => hh (hi.2 c)), v0])
    have l0 : L[j].l.length ≤ 4 := ok0.1.2
    have l1 : L[j + 1].l.length ≤ 4 := ok1.1.2
    have isl := HZ.out.il
    have is15 : m.is.length ≤ 12 := by obtain ⟨_, _, _, _, _, _, h7, _⟩ := c1; exact h7.2.2
    clear c1 c2 c3 c4 c5 c6 v0 v1 ok0 ok1 hen he
    have CI := hide1 (fun W (hb : Below wc.heap.size wc W) => (specIn_any L[j].a L[j].l L[j].c m.id W (by omega) ((HV2.out.later hb).v _ (List.getElem_mem j0))).mono (fun e w' h => (⟨h.1, h.2.symm⟩ : e = _ ∧ w' = W)))
    obtain ⟨ab, ao, rfl, hab, hac⟩ := HVW.out.r j j0
    obtain ⟨ab', ao', e9, hab', hac'⟩ := HVW.out.r (j + 1) j1
    obtain ⟨rfl, rfl⟩ : ab = ab' ∧ ao = ao' := by injection e9 with e9; injection e9 with e1 e2; exact ⟨e1, e2⟩
    have V0 := hide1 (show w.cell? ⟨ab, ao + j, none⟩ = some (.slice L[j].a L[j].l.length L[j].c) by have := hac 0 (by omega); rw [Nat.mul_one, Nat.add_zero] at this; exact this)
    have V1 := hide1 (show w.cell? ⟨ab, ao + (j + 1), none⟩ = some (.slice L[j + 1].a L[j + 1].l.length L[j + 1].c) by have := hac' 0 (by omega); rw [Nat.mul_one, Nat.add_zero] at this; exact this)
    have HV0 := hide1 (HVW.out.v _ (List.getElem_mem j0))
    have HV1 := hide1 (HVW.out.v _ (List.getElem_mem j1))
    clear e9 hac hac' hab' HV2 HVW
    have wk1 : IntKind.i64.wrap ((j : Int) + 1 + 1 - 1) = (j : Int) + 1 := by rw [IntKind.wrap_i64]; omega
    have wk2 : IntKind.i64.wrap ((j : Int) + 1 + 1 - 2) = (j : Int) := by rw [IntKind.wrap_i64]; omega
    have ij : (j : Int) < (L.length : Int) := by omega
    have ij1 : (j : Int) + 1 < (L.length : Int) := by omega
    have ij0 : (0 : Int) ≤ (j : Int) + 1 := by omega
    have ijn : (0 : Int) ≤ (j : Int) := by omega
    have wkj : IntKind.i64.wrap (j : Int) = (j : Int) := by rw [IntKind.wrap_i64]; omega
    have wk3 : IntKind.i64.wrap ((j : Int) + 1) = (j : Int) + 1 := by rw [IntKind.wrap_i64]; omega
    have ijt : ((j : Int) + 1).toNat = j + 1 := by omega
    generalize L[j].l = vl at *
    generalize L[j].a = vla at *
    generalize L[j].c = vlc at *
    generalize L[j + 1].l = wl at *
    generalize L[j + 1].a = wla at *
    generalize L[j + 1].c = wlc at *
    obtain ⟨hd, hhd⟩ : ∃ t, t = decide (m.ba = true ∧ m.ep = (j : Int) + 1 ∧ m.id ∈ vl) := ⟨_, rfl⟩
    have HHD := hide1 hhd
    clear hhd
    have KX := hide1 Q2.out.bx
    have z0 : ∀ n : Gr wc, n.w.cell? ⟨X, 0, none⟩ = some (.int .i64 m.id) := fun n => n.cell (KX.out.cell 0 rfl)
    have z1 : ∀ n : Gr wc, n.w.cell? ⟨X, 1, none⟩ = some (.int .i64 m.ep) := fun n => n.cell (KX.out.cell 1 rfl)
    have z3 : ∀ n : Gr wc, n.w.cell? ⟨X, 3, none⟩ = some (.bool m.ba) := fun n => n.cell (KX.out.cell 3 rfl)
    have zv : ∀ n : Gr wc, n.w.cell? ⟨ab, ao + j, none⟩ = some (.slice vla vl.length vlc) := fun n => n.cell ((BW.out.cell (p := ⟨ab, ao + j, none⟩) hab).trans V0.out)
    go_upto_region 4 with fail
    go_cut [10] (fun hv wx => hv = .bool hd ∧ Hid (Below wc.heap.size wc wx))
    case first =>
      rcases (show m.ba = false ∨ m.ba = true from by cases m.ba <;> simp) with hba | hba
      · rw [hba] at z3
        have hb0 := hide1 hba
        clear hba
        have RS4 := hide1 (show hd = false from by rw [HHD.out, hb0.out]; simp)
        refine wp_region_grown (by kernel_rfl) (by kernel_rfl) ?_
        (repeat (first | go_big_quiet_skip | (go_big_quiet_want; go_big_quiet_op; first | go_big_quiet_on | go_big_quiet_call ((go_at_call 24; exact quiet_grownS (CI.out _ (Gr.b _)))))))
        refine wpQuiet_nil ?_
        rintro w1 ⟨m1, rfl⟩
        go_wp2
        go_meet
        exact ⟨by rw [RS4.out], hide1 m1.b⟩
      rw [hba] at z3
      have hb0 := hide1 hba
      clear hba
      by_cases c7 : m.ep = (j : Int) + 1
      case neg =>
        have q7 : (m.ep == (j : Int) + 1) = false := by simp [c7]
        have c7h := hide1 c7
        clear c7
        have RS4 := hide1 (show hd = false from by rw [HHD.out]; exact decide_eq_false (fun h => c7h.out h.2.1))
        refine wp_region_grown (by kernel_rfl) (by kernel_rfl) ?_
        (repeat (first | go_big_quiet_skip | (go_big_quiet_want; go_big_quiet_op; first | go_big_quiet_on | go_big_quiet_call ((go_at_call 24; exact quiet_grownS (CI.out _ (Gr.b _)))))))
        refine wpQuiet_nil ?_
        rintro w1 ⟨m1, rfl⟩
        go_wp2
        go_meet
        exact ⟨by rw [RS4.out], hide1 m1.b⟩
      have q7 : (m.ep == (j : Int) + 1) = true := by simp [c7]
      have c7h := hide1 c7
      clear c7
      have RS4 := hide1 (show hd = decide (m.id ∈ vl) from by rw [HHD.out, hb0.out]; simp [c7h.out])
      refine wp_region_grown (by kernel_rfl) (by kernel_rfl) ?_
      (repeat (first | go_big_quiet_skip | (go_big_quiet_want; go_big_quiet_op; first | go_big_quiet_on | go_big_quiet_call ((go_at_call 24; exact quiet_grownS (CI.out _ (Gr.b _)))))))
      refine wpQuiet_nil ?_
      rintro w1 ⟨m1, rfl⟩
      go_wp2
      go_meet
      exact ⟨by rw [RS4.out], hide1 m1.b⟩
    case rest =>
      obtain ⟨rfl, BX⟩ := hcut
      have HA2 := hide1 (HA.out.later BW.out)
      have Q3 := hide1 (Q2.out.later BX.out)
      have HA3 := hide1 (HA2.out.later BX.out)
      have BW3 := hide1 (BW.out.trans (BX.out.mono (by omega)))
      clear z0 z1 z3 zv CI KX Q2 HA HA2 BX
      go_upto_region 5 with fail
      go_cut [11] (fun pv wx => ∃ (Y : Nat) (b : Option Addr) (c : Nat), pv = .pointer (some ⟨Y, 0, none⟩) ∧ Hid (BlkA wx Y 38 (mbA (ledM m ((j : Int) + 1 + 1)) ⟨none, 0, b, c, none, 0⟩)) ∧ Hid (RdG imC 3 wx b m.is) ∧ Hid (∀ q o, b = some ⟨q, o, none⟩ → 0 < m.is.length → q ≠ Y ∧ wc.heap.size ≤ q) ∧ Hid (wc.heap.size ≤ Y) ∧ Hid (Below wc.heap.size wc wx))
      case first =>
        have lX3 : X < wc.heap.size := Q3.out.bx.lt
        have ZS := hide1 (fun w' (D : Below wc.heap.size wc w') => (show w'.cell? ⟨X, 0, none⟩ = some (.int .i64 m.id) ∧ w'.cell? ⟨X, 7, none⟩ = some (.slice A.ia m.is.length A.ic) from ⟨(Q3.out.bx.below D lX3).cell 0 rfl, (Q3.out.bx.below D lX3).cell 7 rfl⟩))
        have D0 := hide1 (show Below wc.heap.size wc wc.drew from (Below.refl _ _).drew)
        refine wp_region_held_drew (S := fun w' => w'.cell? ⟨X, 0, none⟩ = some (.int .i64 m.id) ∧ w'.cell? ⟨X, 7, none⟩ = some (.slice A.ia m.is.length A.ic)) rfl (ZS.out _ D0.out) (fun hS0 => ?_)
        refine wpAnyH_take (i := 0) (oi := { dst := some 70, op := Op.fieldAddr 38 (Operand.tmp 3) 0, type := 0, pos := "l14_member.go:85", after := #[], guard := none }) (v := ?_) rfl (by kernel_rfl) (by kernel_rfl) (by kernel_rfl) (fun _ _ _ h => h) (.inl ⟨by rfl, ?_⟩) hS0 ?_
        rotate_left
        · intro w' hSw
          go_simp
          with_reducible rfl
        try simp only [Act.put, List.setIfInBounds_toArray, List.set_cons_zero, List.set_cons_succ]
        refine wpAnyH_take (i := 1) (oi := { dst := some 71, op := Op.load 3 (Operand.tmp 70), type := 3, pos := "l14_member.go:85", after := #[{ on := 0, ground := Ground.data }], guard := none }) (v := ?_) rfl (by kernel_rfl) (by kernel_rfl) (by kernel_rfl) (fun _ _ _ h => h) (.inl ⟨by rfl, ?_⟩) hS0 ?_
        rotate_left
        · intro w' hSw
          go_simp
          with_reducible rfl
        try simp only [Act.put, List.setIfInBounds_toArray, List.set_cons_zero, List.set_cons_succ]
        refine wpAnyH_take (i := 2) (oi := { dst := some 72, op := Op.move (Operand.tmp 2), type := 3, pos := "l14_member.go:85", after := #[], guard := none }) (v := ?_) rfl (by kernel_rfl) (by kernel_rfl) (by kernel_rfl) (fun _ _ _ h => h) (.inl ⟨by rfl, ?_⟩) hS0 ?_
        rotate_left
        · intro w' hSw
          go_simp
          with_reducible rfl
        try simp only [Act.put, List.setIfInBounds_toArray, List.set_cons_zero, List.set_cons_succ]
        refine wpAnyH_take (i := 4) (oi := { dst := some 74, op := Op.fieldAddr 38 (Operand.tmp 3) 7, type := 0, pos := "l14_member.go:85", after := #[], guard := none }) (v := ?_) rfl (by kernel_rfl) (by kernel_rfl) (by kernel_rfl) (fun _ _ _ h => h) (.inl ⟨by rfl, ?_⟩) hS0 ?_
        rotate_left
        · intro w' hSw
          go_simp
          with_reducible rfl
        try simp only [Act.put, List.setIfInBounds_toArray, List.set_cons_zero, List.set_cons_succ]
        refine wpAnyH_take (i := 5) (oi := { dst := some 75, op := Op.load 33 (Operand.tmp 74), type := 33, pos := "l14_member.go:85", after := #[{ on := 4, ground := Ground.data }], guard := none }) (v := ?_) rfl (by kernel_rfl) (by kernel_rfl) (by kernel_rfl) (fun _ _ _ h => h) (.inl ⟨by rfl, ?_⟩) hS0 ?_
        rotate_left
        · intro w' hSw
          go_simp
          with_reducible rfl
        try simp only [Act.put, List.setIfInBounds_toArray, List.set_cons_zero, List.set_cons_succ]
        refine wpAnyH_ready (rs := [3, 8]) (by kernel_rfl) (by simp) (AllReadyH.cons (o := { dst := some 73, op := Op.buildSlice 33 0 #[], type := 33, pos := "l14_member.go:85", after := #[], guard := none }) rfl (fun K hK => ?_) (AllReadyH.cons (o := { dst := some 11, op := Op.alloc 38, type := 0, pos := "l14_member.go:85", after := #[], guard := none }) rfl (fun K hK => ?_) AllReadyH.nil))
        · skip
          go_simp
          have E5 := hide1 ((Below.refl wc.drew.heap.size wc.drew).alloc (Nat.le_refl _) (.cells #[] 34))
          have D53 := hide1 (D0.out.trans (E5.out.mono D0.out.size))
          refine hK.out _ _ (ZS.out _ D53.out) (fun hS53 => ?_)
          clear hK K
          try simp only [Act.put, List.setIfInBounds_toArray, List.set_cons_zero, List.set_cons_succ]
          refine wpAnyH_ready (rs := [6, 8]) (by kernel_rfl) (by simp) (AllReadyH.cons (o := { dst := some 76, op := Op.call { callee := Callee.builtin Builtin.append, args := #[Operand.tmp 73, Operand.tmp 75], argTypes := #[33, 33] }, type := 33, pos := "l14_member.go:85", after := #[{ on := 3, ground := Ground.data }, { on := 5, ground := Ground.data }], guard := none }) rfl (fun K hK => ?_) (AllReadyH.cons (o := { dst := some 11, op := Op.alloc 38, type := 0, pos := "l14_member.go:85", after := #[], guard := none }) rfl (fun K hK => ?_) AllReadyH.nil))
          · skip
            rw [if_pos (by rfl)]
            refine wp_cpE encIm rowIm (.tmp 73) (.tmp 75) rfl _ rfl A.ia m.is.length A.ic m.is rfl rfl (HA3.out.ir.later D53.out) (by omega) ?_
            intro b c w6 hr hb hn hc
            have D66 := hide1 (D53.out.trans (hb.mono D53.out.size))
            have R6 := hide1 hr
            have N7 := hide1 (fun q o e h1 => Nat.le_trans D53.out.size (hn q o e h1))
            have T6 := hide1 hb.size
            have L6 := hide1 (fun q o (e : b = some ⟨q, o, none⟩) (h : 0 < m.is.length) => R6.out.lt0 e h)
            clear hr hb hn hc
            refine hK.out _ _ (ZS.out _ D66.out) (fun hS66 => ?_)
            clear hK K
            try simp only [Act.put, List.setIfInBounds_toArray, List.set_cons_zero, List.set_cons_succ]
            refine wpAnyH_take (i := 7) (oi := { dst := some 77, op := Op.build 38 #[(0, Operand.tmp 71), (1, Operand.tmp 72), (4, Operand.const (Value.bool true)), (7, Operand.tmp 76)], type := 38, pos := "l14_member.go:85", after := #[{ on := 1, ground := Ground.data }, { on := 2, ground := Ground.data }, { on := 6, ground := Ground.data }], guard := none }) (v := ?_) rfl (by kernel_rfl) (by kernel_rfl) (by kernel_rfl) (fun _ _ _ h => h) (.inl ⟨by rfl, ?_⟩) hS66 ?_
            rotate_left
            · intro w' hSw
              go_simp
              with_reducible rfl
            try simp only [Act.put, List.setIfInBounds_toArray, List.set_cons_zero, List.set_cons_succ]
            refine wpAnyH_ready (rs := [8]) (by kernel_rfl) (by simp) (AllReadyH.cons (o := { dst := some 11, op := Op.alloc 38, type := 0, pos := "l14_member.go:85", after := #[], guard := none }) rfl (fun K hK => ?_) AllReadyH.nil)
            go_simp
            have E8 := hide1 ((Below.refl w6.heap.size w6).alloc (Nat.le_refl _) (.cells #[.int .i64 0, .int .i64 0, .bool false, .bool false, .bool false, .bool false, .slice none 0 0, .slice none 0 0, .int .i64 0, .int .i64 0, .int .i64 0, .int .i64 0, .string ⟨#[]⟩, .string ⟨#[]⟩, .int .i64 0, .slice none 0 0] 38))
            have D88 := hide1 (D66.out.trans (E8.out.mono D66.out.size))
            have zY8 : w6.heap.size = w6.heap.size := rfl
            have Y8 := hide1 (show BlkA (w6.alloc (.cells #[.int .i64 0, .int .i64 0, .bool false, .bool false, .bool false, .bool false, .slice none 0 0, .slice none 0 0, .int .i64 0, .int .i64 0, .int .i64 0, .int .i64 0, .string ⟨#[]⟩, .string ⟨#[]⟩, .int .i64 0, .slice none 0 0] 38)) (w6.heap.size) 38 zMb from zY8 ▸ BlkA.new w6 38 zMb)
            have sY8 : wc.heap.size ≤ w6.heap.size := by have h := D66.out.size; rw [zY8] at h; exact h
            have nY8 : w6.heap.size < (w6.alloc (.cells #[.int .i64 0, .int .i64 0, .bool false, .bool false, .bool false, .bool false, .slice none 0 0, .slice none 0 0, .int .i64 0, .int .i64 0, .int .i64 0, .int .i64 0, .string ⟨#[]⟩, .string ⟨#[]⟩, .int .i64 0, .slice none 0 0] 38)).heap.size := Y8.out.lt
            refine hK.out _ _ (ZS.out _ D88.out) (fun hS88 => ?_)
            clear hK K
            try simp only [Act.put, List.setIfInBounds_toArray, List.set_cons_zero, List.set_cons_succ]
            refine wpAnyH_ready (rs := [9]) (by kernel_rfl) (by simp) (AllReadyH.cons (o := { dst := none, op := Op.store 38 (Operand.tmp 11) (Operand.tmp 77), type := 0, pos := "l14_member.go:85", after := #[{ on := 8, ground := Ground.data }, { on := 7, ground := Ground.data }, { on := 6, ground := Ground.chain }, { on := 0, ground := Ground.phase }, { on := 1, ground := Ground.phase }, { on := 2, ground := Ground.phase }, { on := 3, ground := Ground.phase }, { on := 4, ground := Ground.phase }, { on := 5, ground := Ground.phase }, { on := 6, ground := Ground.phase }, { on := 7, ground := Ground.phase }, { on := 8, ground := Ground.phase }], guard := none }) rfl (fun K hK => ?_) AllReadyH.nil)
            have R7 := hide1 (R6.out.later E8.out)
            have P6 := hide1 (show ∀ q o, b = some ⟨q, o, none⟩ → 0 < m.is.length → q ≠ (w6.heap.size) from fun q o e h1 h2 => by have h3 := L6.out q o e h1; omega)
            rw [if_pos (by rfl)]
            refine wp_store_row 38 _ _ rfl ((w6.heap.size)) (mbA (ledM m ((j : Int) + 1 + 1)) ⟨none, 0, b, c, none, 0⟩) rfl rfl 38 zMb Y8.out sizeMb rfl (oneMb _ _) ?_
            have RS := setRow_heap (w6.alloc (.cells #[.int .i64 0, .int .i64 0, .bool false, .bool false, .bool false, .bool false, .slice none 0 0, .slice none 0 0, .int .i64 0, .int .i64 0, .int .i64 0, .int .i64 0, .string ⟨#[]⟩, .string ⟨#[]⟩, .int .i64 0, .slice none 0 0] 38)) ((w6.heap.size)) zMb (mbA (ledM m ((j : Int) + 1 + 1)) ⟨none, 0, b, c, none, 0⟩) 38 (0, 0) Y8.out
            have DS := hide1 (below_setRow (g := (w6.heap.size)) D88.out sY8 (mbA (ledM m ((j : Int) + 1 + 1)) ⟨none, 0, b, c, none, 0⟩))
            refine hK.out _ _ (ZS.out _ DS.out) (fun _ => ?_)
            clear hK K
            try simp only [Act.put, List.setIfInBounds_toArray, List.set_cons_zero, List.set_cons_succ]
            refine wpAnyH_done (by kernel_rfl) ?_ _
            go_wp2
            go_meet
            exact ⟨(w6.heap.size), b, c, rfl, hide1 RS, hide1 (RdG.farR R7.out (g := (w6.heap.size)) _ P6.out), hide1 (fun q o e h => ⟨P6.out q o e h, N7.out q o e h⟩), hide1 sY8, DS⟩
          · skip
            go_simp
            have E6 := hide1 ((Below.refl (wc.drew.alloc (.cells #[] 34)).heap.size (wc.drew.alloc (.cells #[] 34))).alloc (Nat.le_refl _) (.cells #[.int .i64 0, .int .i64 0, .bool false, .bool false, .bool false, .bool false, .slice none 0 0, .slice none 0 0, .int .i64 0, .int .i64 0, .int .i64 0, .int .i64 0, .string ⟨#[]⟩, .string ⟨#[]⟩, .int .i64 0, .slice none 0 0] 38))
            have D68 := hide1 (D53.out.trans (E6.out.mono D53.out.size))
            have zY6 : (wc.drew.alloc (.cells #[] 34)).heap.size = wc.heap.size + 1 := World.size_alloc wc.drew _
            have Y6 := hide1 (show BlkA ((wc.drew.alloc (.cells #[] 34)).alloc (.cells #[.int .i64 0, .int .i64 0, .bool false, .bool false, .bool false, .bool false, .slice none 0 0, .slice none 0 0, .int .i64 0, .int .i64 0, .int .i64 0, .int .i64 0, .string ⟨#[]⟩, .string ⟨#[]⟩, .int .i64 0, .slice none 0 0] 38)) (wc.heap.size + 1) 38 zMb from zY6 ▸ BlkA.new (wc.drew.alloc (.cells #[] 34)) 38 zMb)
            have sY6 : wc.heap.size ≤ wc.heap.size + 1 := by have h := D53.out.size; rw [zY6] at h; exact h
            have nY6 : wc.heap.size + 1 < ((wc.drew.alloc (.cells #[] 34)).alloc (.cells #[.int .i64 0, .int .i64 0, .bool false, .bool false, .bool false, .bool false, .slice none 0 0, .slice none 0 0, .int .i64 0, .int .i64 0, .int .i64 0, .int .i64 0, .string ⟨#[]⟩, .string ⟨#[]⟩, .int .i64 0, .slice none 0 0] 38)).heap.size := Y6.out.lt
            refine hK.out _ _ (ZS.out _ D68.out) (fun hS68 => ?_)
            clear hK K
            try simp only [Act.put, List.setIfInBounds_toArray, List.set_cons_zero, List.set_cons_succ]
            refine wpAnyH_ready (rs := [6]) (by kernel_rfl) (by simp) (AllReadyH.cons (o := { dst := some 76, op := Op.call { callee := Callee.builtin Builtin.append, args := #[Operand.tmp 73, Operand.tmp 75], argTypes := #[33, 33] }, type := 33, pos := "l14_member.go:85", after := #[{ on := 3, ground := Ground.data }, { on := 5, ground := Ground.data }], guard := none }) rfl (fun K hK => ?_) AllReadyH.nil)
            rw [if_pos (by rfl)]
            refine wp_cpE encIm rowIm (.tmp 73) (.tmp 75) rfl _ rfl A.ia m.is.length A.ic m.is rfl rfl (HA3.out.ir.later D68.out) (by omega) ?_
            intro b c w6 hr hb hn hc
            have D76 := hide1 (D68.out.trans (hb.mono D68.out.size))
            have R6 := hide1 hr
            have N7 := hide1 (fun q o e h1 => Nat.le_trans D68.out.size (hn q o e h1))
            have T6 := hide1 hb.size
            have Y7 := hide1 (Y6.out.below hb Y6.out.lt)
            have P6 := hide1 (show ∀ q o, b = some ⟨q, o, none⟩ → 0 < m.is.length → q ≠ (wc.heap.size + 1) from fun q o e h1 h2 => by have h3 : ((wc.drew.alloc (.cells #[] 34)).alloc (.cells #[.int .i64 0, .int .i64 0, .bool false, .bool false, .bool false, .bool false, .slice none 0 0, .slice none 0 0, .int .i64 0, .int .i64 0, .int .i64 0, .int .i64 0, .string ⟨#[]⟩, .string ⟨#[]⟩, .int .i64 0, .slice none 0 0] 38)).heap.size ≤ q := hn q o e h1; have h4 : (wc.heap.size + 1) < ((wc.drew.alloc (.cells #[] 34)).alloc (.cells #[.int .i64 0, .int .i64 0, .bool false, .bool false, .bool false, .bool false, .slice none 0 0, .slice none 0 0, .int .i64 0, .int .i64 0, .int .i64 0, .int .i64 0, .string ⟨#[]⟩, .string ⟨#[]⟩, .int .i64 0, .slice none 0 0] 38)).heap.size := Y6.out.lt; rw [h2] at h3; exact absurd h3 (Nat.not_le.2 h4))
            clear hr hb hn hc
            refine hK.out _ _ (ZS.out _ D76.out) (fun hS76 => ?_)
            clear hK K
            try simp only [Act.put, List.setIfInBounds_toArray, List.set_cons_zero, List.set_cons_succ]
            refine wpAnyH_take (i := 7) (oi := { dst := some 77, op := Op.build 38 #[(0, Operand.tmp 71), (1, Operand.tmp 72), (4, Operand.const (Value.bool true)), (7, Operand.tmp 76)], type := 38, pos := "l14_member.go:85", after := #[{ on := 1, ground := Ground.data }, { on := 2, ground := Ground.data }, { on := 6, ground := Ground.data }], guard := none }) (v := ?_) rfl (by kernel_rfl) (by kernel_rfl) (by kernel_rfl) (fun _ _ _ h => h) (.inl ⟨by rfl, ?_⟩) hS76 ?_
            rotate_left
            · intro w' hSw
              go_simp
              with_reducible rfl
            try simp only [Act.put, List.setIfInBounds_toArray, List.set_cons_zero, List.set_cons_succ]
            refine wpAnyH_ready (rs := [9]) (by kernel_rfl) (by simp) (AllReadyH.cons (o := { dst := none, op := Op.store 38 (Operand.tmp 11) (Operand.tmp 77), type := 0, pos := "l14_member.go:85", after := #[{ on := 8, ground := Ground.data }, { on := 7, ground := Ground.data }, { on := 6, ground := Ground.chain }, { on := 0, ground := Ground.phase }, { on := 1, ground := Ground.phase }, { on := 2, ground := Ground.phase }, { on := 3, ground := Ground.phase }, { on := 4, ground := Ground.phase }, { on := 5, ground := Ground.phase }, { on := 6, ground := Ground.phase }, { on := 7, ground := Ground.phase }, { on := 8, ground := Ground.phase }], guard := none }) rfl (fun K hK => ?_) AllReadyH.nil)
            rw [if_pos (by rfl)]
            refine wp_store_row 38 _ _ rfl ((wc.heap.size + 1)) (mbA (ledM m ((j : Int) + 1 + 1)) ⟨none, 0, b, c, none, 0⟩) rfl rfl 38 zMb Y7.out sizeMb rfl (oneMb _ _) ?_
            have RS := setRow_heap w6 ((wc.heap.size + 1)) zMb (mbA (ledM m ((j : Int) + 1 + 1)) ⟨none, 0, b, c, none, 0⟩) 38 (0, 0) Y7.out
            have DS := hide1 (below_setRow (g := (wc.heap.size + 1)) D76.out sY6 (mbA (ledM m ((j : Int) + 1 + 1)) ⟨none, 0, b, c, none, 0⟩))
            refine hK.out _ _ (ZS.out _ DS.out) (fun _ => ?_)
            clear hK K
            try simp only [Act.put, List.setIfInBounds_toArray, List.set_cons_zero, List.set_cons_succ]
            refine wpAnyH_done (by kernel_rfl) ?_ _
            go_wp2
            go_meet
            exact ⟨(wc.heap.size + 1), b, c, rfl, hide1 RS, hide1 (RdG.farR R6.out (g := (wc.heap.size + 1)) _ P6.out), hide1 (fun q o e h => ⟨P6.out q o e h, N7.out q o e h⟩), hide1 sY6, DS⟩
        · skip
          go_simp
          have E5 := hide1 ((Below.refl wc.drew.heap.size wc.drew).alloc (Nat.le_refl _) (.cells #[.int .i64 0, .int .i64 0, .bool false, .bool false, .bool false, .bool false, .slice none 0 0, .slice none 0 0, .int .i64 0, .int .i64 0, .int .i64 0, .int .i64 0, .string ⟨#[]⟩, .string ⟨#[]⟩, .int .i64 0, .slice none 0 0] 38))
          have D58 := hide1 (D0.out.trans (E5.out.mono D0.out.size))
          have zY5 : wc.drew.heap.size = wc.heap.size := rfl
          have Y5 := hide1 (show BlkA (wc.drew.alloc (.cells #[.int .i64 0, .int .i64 0, .bool false, .bool false, .bool false, .bool false, .slice none 0 0, .slice none 0 0, .int .i64 0, .int .i64 0, .int .i64 0, .int .i64 0, .string ⟨#[]⟩, .string ⟨#[]⟩, .int .i64 0, .slice none 0 0] 38)) (wc.heap.size) 38 zMb from zY5 ▸ BlkA.new wc.drew 38 zMb)
          have sY5 : wc.heap.size ≤ wc.heap.size := by have h := D0.out.size; rw [zY5] at h; exact h
          have nY5 : wc.heap.size < (wc.drew.alloc (.cells #[.int .i64 0, .int .i64 0, .bool false, .bool false, .bool false, .bool false, .slice none 0 0, .slice none 0 0, .int .i64 0, .int .i64 0, .int .i64 0, .int .i64 0, .string ⟨#[]⟩, .string ⟨#[]⟩, .int .i64 0, .slice none 0 0] 38)).heap.size := Y5.out.lt
          refine hK.out _ _ (ZS.out _ D58.out) (fun hS58 => ?_)
          clear hK K
          try simp only [Act.put, List.setIfInBounds_toArray, List.set_cons_zero, List.set_cons_succ]
          refine wpAnyH_ready (rs := [3]) (by kernel_rfl) (by simp) (AllReadyH.cons (o := { dst := some 73, op := Op.buildSlice 33 0 #[], type := 33, pos := "l14_member.go:85", after := #[], guard := none }) rfl (fun K hK => ?_) AllReadyH.nil)
          go_simp
          have E6 := hide1 ((Below.refl (wc.drew.alloc (.cells #[.int .i64 0, .int .i64 0, .bool false, .bool false, .bool false, .bool false, .slice none 0 0, .slice none 0 0, .int .i64 0, .int .i64 0, .int .i64 0, .int .i64 0, .string ⟨#[]⟩, .string ⟨#[]⟩, .int .i64 0, .slice none 0 0] 38)).heap.size (wc.drew.alloc (.cells #[.int .i64 0, .int .i64 0, .bool false, .bool false, .bool false, .bool false, .slice none 0 0, .slice none 0 0, .int .i64 0, .int .i64 0, .int .i64 0, .int .i64 0, .string ⟨#[]⟩, .string ⟨#[]⟩, .int .i64 0, .slice none 0 0] 38))).alloc (Nat.le_refl _) (.cells #[] 34))
          have D63 := hide1 (D58.out.trans (E6.out.mono D58.out.size))
          have Y6 := hide1 (Y5.out.below E6.out Y5.out.lt)
          refine hK.out _ _ (ZS.out _ D63.out) (fun hS63 => ?_)
          clear hK K
          try simp only [Act.put, List.setIfInBounds_toArray, List.set_cons_zero, List.set_cons_succ]
          refine wpAnyH_ready (rs := [6]) (by kernel_rfl) (by simp) (AllReadyH.cons (o := { dst := some 76, op := Op.call { callee := Callee.builtin Builtin.append, args := #[Operand.tmp 73, Operand.tmp 75], argTypes := #[33, 33] }, type := 33, pos := "l14_member.go:85", after := #[{ on := 3, ground := Ground.data }, { on := 5, ground := Ground.data }], guard := none }) rfl (fun K hK => ?_) AllReadyH.nil)
          rw [if_pos (by rfl)]
          refine wp_cpE encIm rowIm (.tmp 73) (.tmp 75) rfl _ rfl A.ia m.is.length A.ic m.is rfl rfl (HA3.out.ir.later D63.out) (by omega) ?_
          intro b c w6 hr hb hn hc
          have D76 := hide1 (D63.out.trans (hb.mono D63.out.size))
          have R6 := hide1 hr
          have N7 := hide1 (fun q o e h1 => Nat.le_trans D63.out.size (hn q o e h1))
          have T6 := hide1 hb.size
          have Y7 := hide1 (Y6.out.below hb Y6.out.lt)
          have P6 := hide1 (show ∀ q o, b = some ⟨q, o, none⟩ → 0 < m.is.length → q ≠ (wc.heap.size) from fun q o e h1 h2 => by have h3 : ((wc.drew.alloc (.cells #[.int .i64 0, .int .i64 0, .bool false, .bool false, .bool false, .bool false, .slice none 0 0, .slice none 0 0, .int .i64 0, .int .i64 0, .int .i64 0, .int .i64 0, .string ⟨#[]⟩, .string ⟨#[]⟩, .int .i64 0, .slice none 0 0] 38)).alloc (.cells #[] 34)).heap.size ≤ q := hn q o e h1; have h4 : (wc.heap.size) < ((wc.drew.alloc (.cells #[.int .i64 0, .int .i64 0, .bool false, .bool false, .bool false, .bool false, .slice none 0 0, .slice none 0 0, .int .i64 0, .int .i64 0, .int .i64 0, .int .i64 0, .string ⟨#[]⟩, .string ⟨#[]⟩, .int .i64 0, .slice none 0 0] 38)).alloc (.cells #[] 34)).heap.size := Y6.out.lt; rw [h2] at h3; exact absurd h3 (Nat.not_le.2 h4))
          clear hr hb hn hc
          refine hK.out _ _ (ZS.out _ D76.out) (fun hS76 => ?_)
          clear hK K
          try simp only [Act.put, List.setIfInBounds_toArray, List.set_cons_zero, List.set_cons_succ]
          refine wpAnyH_take (i := 7) (oi := { dst := some 77, op := Op.build 38 #[(0, Operand.tmp 71), (1, Operand.tmp 72), (4, Operand.const (Value.bool true)), (7, Operand.tmp 76)], type := 38, pos := "l14_member.go:85", after := #[{ on := 1, ground := Ground.data }, { on := 2, ground := Ground.data }, { on := 6, ground := Ground.data }], guard := none }) (v := ?_) rfl (by kernel_rfl) (by kernel_rfl) (by kernel_rfl) (fun _ _ _ h => h) (.inl ⟨by rfl, ?_⟩) hS76 ?_
          rotate_left
          · intro w' hSw
            go_simp
            with_reducible rfl
          try simp only [Act.put, List.setIfInBounds_toArray, List.set_cons_zero, List.set_cons_succ]
          refine wpAnyH_ready (rs := [9]) (by kernel_rfl) (by simp) (AllReadyH.cons (o := { dst := none, op := Op.store 38 (Operand.tmp 11) (Operand.tmp 77), type := 0, pos := "l14_member.go:85", after := #[{ on := 8, ground := Ground.data }, { on := 7, ground := Ground.data }, { on := 6, ground := Ground.chain }, { on := 0, ground := Ground.phase }, { on := 1, ground := Ground.phase }, { on := 2, ground := Ground.phase }, { on := 3, ground := Ground.phase }, { on := 4, ground := Ground.phase }, { on := 5, ground := Ground.phase }, { on := 6, ground := Ground.phase }, { on := 7, ground := Ground.phase }, { on := 8, ground := Ground.phase }], guard := none }) rfl (fun K hK => ?_) AllReadyH.nil)
          rw [if_pos (by rfl)]
          refine wp_store_row 38 _ _ rfl ((wc.heap.size)) (mbA (ledM m ((j : Int) + 1 + 1)) ⟨none, 0, b, c, none, 0⟩) rfl rfl 38 zMb Y7.out sizeMb rfl (oneMb _ _) ?_
          have RS := setRow_heap w6 ((wc.heap.size)) zMb (mbA (ledM m ((j : Int) + 1 + 1)) ⟨none, 0, b, c, none, 0⟩) 38 (0, 0) Y7.out
          have DS := hide1 (below_setRow (g := (wc.heap.size)) D76.out sY5 (mbA (ledM m ((j : Int) + 1 + 1)) ⟨none, 0, b, c, none, 0⟩))
          refine hK.out _ _ (ZS.out _ DS.out) (fun _ => ?_)
          clear hK K
          try simp only [Act.put, List.setIfInBounds_toArray, List.set_cons_zero, List.set_cons_succ]
          refine wpAnyH_done (by kernel_rfl) ?_ _
          go_wp2
          go_meet
          exact ⟨(wc.heap.size), b, c, rfl, hide1 RS, hide1 (RdG.farR R6.out (g := (wc.heap.size)) _ P6.out), hide1 (fun q o e h => ⟨P6.out q o e h, N7.out q o e h⟩), hide1 sY5, DS⟩
      case rest =>
        obtain ⟨Y, ib, ic, rfl, KY, RI, NI, LY, BX⟩ := hcut
        have Q4 := hide1 (Q3.out.later BX.out)
        have BW4 := hide1 (BW3.out.trans (BX.out.mono BW3.out.size))
        have HA4 := hide1 (HA3.out.later BX.out)
        have lR : R < Y := Nat.lt_of_lt_of_le Q3.out.rs.lt LY.out
        have lXY : X < Y := Nat.lt_of_lt_of_le Q3.out.bx.lt LY.out
        have lM : w.heap.size + 1 + 1 < Y := Nat.lt_of_lt_of_le (Q3.out.ow.lt _ rfl).2 LY.out
        have NIM := hide1 (fun q o e h => (show w.heap.size + 1 + 1 < q from Nat.lt_of_lt_of_le (Q3.out.ow.lt _ rfl).2 (NI.out q o e h).2))
        have vY := hide1 (show ∀ q o, wla = some ⟨q, o, none⟩ → 0 < wl.length → q ≠ Y from fun q o e h => by have := HV1.out.g.lt0 e h; omega)
        have iY := hide1 (show ∀ q o, A.ia = some ⟨q, o, none⟩ → 0 < m.is.length → q ≠ Y from fun q o e h => by have h1 := HA3.out.ir.lt0 e h; have h2 := LY.out; omega)
        have s4 : w.heap.size ≤ wc.heap.size := BW4.out.size
        clear Q3 BW3 HA3 BX LY
        cases hd with
        | true =>
          have RA := hide1 (show adoM m (L.map (·.l)) ((j : Int) + 1 + 1) = hasM (ledM m ((j : Int) + 1 + 1)) wl m.is from by rw [AM.out, if_pos (of_decide_eq_true HHD.out.symm)])
          have c1 : wc.cell? ⟨ab, ao + (j + 1), none⟩ = some (.slice wla wl.length wlc) := (BW4.out.cell (p := ⟨ab, ao + (j + 1), none⟩) hab).trans V1.out
          have c7 : wc.cell? ⟨X, 7, none⟩ = some (.slice A.ia m.is.length A.ic) := Q4.out.bx.cell 7 rfl
          have CH := hide1 (fun u (hb : Below wc.heap.size wc u) => specHas_any m.id ((j : Int) + 1 + 1) false false true false [] m.is 0 zeroTk ⟨none, 0, ib, ic, none, 0⟩ Y wla wl wlc A.ia m.is A.ic u (KY.out.below hb KY.out.lt) (by omega) (by omega) (HV1.out.later (BW4.out.trans (hb.mono s4))) (HA4.out.ir.later hb) vY.out iY.out)
          have lRc : R < wc.heap.size := Q4.out.rs.lt
          have lXc : X < wc.heap.size := Q4.out.bx.lt
          have labc : ab < wc.heap.size := by omega
          have ZS := hide1 (fun w' (D : Below wc.heap.size wc w') => (show w'.cell? ⟨ab, ao + (j + 1), none⟩ = some (.slice wla wl.length wlc) ∧ w'.cell? ⟨X, 7, none⟩ = some (.slice A.ia m.is.length A.ic) from ⟨(D.cell (p := ⟨ab, ao + (j + 1), none⟩) labc).trans c1, (D.cell (p := ⟨X, 7, none⟩) lXc).trans c7⟩))
          have lXYc : X ≠ Y := by omega
          have abY : ab ≠ Y := by omega
          go_upto_region 7 with fail
          go_cut [12] (fun dv wx => ∃ (b : Option Addr) (c : Nat) (D : List Mv) (b1 : Option Addr) (d1 : Nat) (b2 : Option Addr) (d2 : Nat), dv = .slice b D.length c ∧ Hid (D.map (·.m) = insMs m.id ((j : Int) + 1 + 1) m.is wl) ∧ Hid (RdMs wx b D ∧ LoMs wc.heap.size b D) ∧ Hid (BlkA wx Y 38 (mbA ⟨m.id, (j : Int) + 1 + 1, false, true, true, decide (othV wl m.id = []), othV wl m.id, m.is, 0, zeroTk⟩ ⟨b2, d2, b1, d1, none, 0⟩)) ∧ Hid (PrG zC 1 wc.heap.size wx none b2 (othV wl m.id)) ∧ Hid (PrG imC 3 wc.heap.size wx none b1 m.is) ∧ Hid (wc.grownBy wx (some Y)))
          case first =>
            go_region_held3 (fun w' => w'.cell? ⟨ab, ao + (j + 1), none⟩ = some (.slice wla wl.length wlc) ∧ w'.cell? ⟨X, 7, none⟩ = some (.slice A.ia m.is.length A.ic)) (first | exact YS.out | exact ZS.out _ (by go_grown) | go_keep) ((go_at_call 25; refine (CH.out _ (by go_grown)).mono ?_; rintro r w8 ⟨b, c, D, b1, d1, b2, d2, rfl, h1, h2, h3, h4, h5, h6, h7⟩; have G1 := hide1 h1; have G2 := hide1 (And.intro h2 h3); have G4 := hide1 h4; have G5 := hide1 h5; have G6 := hide1 h6; have G7 := hide1 h7; have YS := hide1 (show w8.cell? ⟨ab, ao + (j + 1), none⟩ = some (.slice wla wl.length wlc) ∧ w8.cell? ⟨X, 7, none⟩ = some (.slice A.ia m.is.length A.ic) from ⟨(World.cell?_of_block (h7.block ab labc (fun e => abY (by injection e)))).trans c1, (World.cell?_of_block (h7.block X lXc (fun e => lXYc (by injection e)))).trans c7⟩); clear h1 h2 h3 h4 h5 h6 h7))
            all_goals go_wp2_with fail
            all_goals go_meet
            all_goals exact ⟨b, c, D, b1, d1, b2, d2, rfl, G1, G2, G4, G5, G6, hide1 (show wc.grownBy w8 (some Y) from ⟨G7.out.os, G7.out.tape, G7.out.output, G7.out.size, G7.out.block⟩)⟩
          case rest =>
            obtain ⟨b, c, D, b1, d1, b2, d2, rfl, G1, G2, G4, G5, G6, G7⟩ := hcut
            have KR := hide1 (show BlkA wc R 38 zMb from (gblk G7.out Q4.out.rs.blk (fun e => by injection e; omega)).arr)
            have BWn := hide1 (BW4.out.trans (gbelow G7.out (fun g hg => by injection hg; omega) (by omega)))
            obtain ⟨m9, hm9⟩ : ∃ x : Mb, x = ⟨m.id, (j : Int) + 1 + 1, false, true, true, decide (othV wl m.id = []), othV wl m.id, m.is, 0, zeroTk⟩ := ⟨_, rfl⟩
            obtain ⟨A9, hA9⟩ : ∃ x : MA, x = ⟨b2, d2, b1, d1, none, 0⟩ := ⟨_, rfl⟩
            have K9 := hide1 (show BlkA wc Y 38 (mbA m9 A9) from by rw [hm9, hA9]; exact G4.out)
            have CC := hide1 (show Calls Tryz.prog 26 #[.agg (mbA m9 A9)] wc _ from specCopyM_any m9 A9 wc (by rw [hm9]; exact ⟨Nat.le_trans (oth_lenA wl m.id) (by omega), HZ.out.il, by simp [zeroTk]⟩) (by rw [hm9, hA9]; exact ⟨G5.out.r.z, G6.out.r, fun i hi => absurd hi (by simp [zeroTk])⟩))
            have HM9 := hide1 hm9
            have swn : w.heap.size ≤ wc.heap.size := BWn.out.size
            have szg := G7.out.size
            clear hm9 hA9 G4 G5 G6 G7 Q4 BW4 HA4 CH ZS c1 c7

            go_wp2_with (first | (refine wpList_load_rowG rfl 38 _ rfl Y rfl 38 (mbA m9 A9) _ K9.out Tryz.underlying38 rfl sizeMb ?_) | (go_at_call 26; refine CC.out.mono ?_; rintro r w9 ⟨B9, rfl, hr, hlo, hb⟩; rw [mbV_A]; have R9 := hide1 hr; have L9 := hide1 hlo; have B10 := hide1 hb; have KR9 := hide1 (KR.out.below hb KR.out.lt); clear hr hlo hb) | (refine wpList_store_row rfl 38 _ _ rfl R (mbA m9 B9) rfl rfl 38 zMb KR9.out sizeMb rfl (oneMb _ _) ?_))
            have RS := setRow_heap _ R zMb (mbA m9 B9) 38 (0, 0) KR9.out
            refine bodyPost_ret (results_row3S Tryz.results6 _ _ R 38 (mbA m9 B9) (0, 0) _ rfl RS Tryz.underlying38 rfl sizeMb) rfl ?_
            unfold AdoR
            rw [RES.out, RA.out]
            refine ⟨⟨B9, b, c, D, by rw [HM9.out]; rfl, G1.out, by rw [HM9.out] at R9 L9; exact R9.out.farRow L9.out (by omega) _, (G2.out.1.later B10.out).farRow G2.out.2 (by omega) _⟩, below_setRow (g := R) (BWn.out.trans (B10.out.mono swn)) (by have := HXR.out; omega) _⟩
        | false =>
          have RA := hide1 (show adoM m (L.map (·.l)) ((j : Int) + 1 + 1) = (ledM m ((j : Int) + 1 + 1), (wthV vl m.id).map (fun v => ⟨1, m.id, v, (j : Int) + 1 + 1, 0, []⟩)) from by rw [AM.out, if_neg (of_decide_eq_false HHD.out.symm)])
          have OW := hide1 (show wc.ownsRow w.heap.size 61 6 (.slice (some ⟨R + 1, 0, none⟩) 0 0) 0 [] from by rw [HXR.out.2]; exact Q4.out.ow)
          have KX := hide1 Q4.out.bx
          have KR := hide1 Q4.out.rs
          have NT0 := hide1 (show ∀ g, (Value.slice (some ⟨R + 1, 0, none⟩) 0 0).ownBlock = some g → g ≠ X ∧ g ≠ R ∧ g ≠ Y ∧ ∀ q o, ib = some ⟨q, o, none⟩ → 0 < m.is.length → q ≠ g from fun g hg => by
            have RX := HXR.out
            have e : R + 1 = g := by simpa [Value.ownBlock] using hg
            exact ⟨by omega, by omega, by omega, fun q o e2 h2 => by have := NIM.out q o e2 h2; omega⟩)
          obtain ⟨n, hn⟩ : ∃ n, n = vl.length := ⟨_, rfl⟩
          have HN := hide1 hn
          rw [← hn] at V0
          clear hn Q4 HA4 vY iY NIM lM V1 HV1
          go_upto_region 9 with fail
          go_wp2
          go_loopw [9, 13] (fun ov iv wr => ∃ (i : Nat) (b : Option Addr) (c : Nat) (D : List Mv), i ≤ n ∧ iv = .int .i64 (i : Int) ∧ ov = .slice b D.length c ∧ Hid (D.map (·.m) = (wthV (vl.take i) m.id).map (fun v => (⟨1, m.id, v, (j : Int) + 1 + 1, 0, []⟩ : Ms))) ∧ Hid (MsO wr w.heap.size b c D) ∧ Hid (BlkA wr X 38 (mbA m A)) ∧ Hid (BlkA wr R 38 zMb) ∧ Hid (BlkA wr Y 38 (mbA (ledM m ((j : Int) + 1 + 1)) ⟨none, 0, ib, ic, none, 0⟩)) ∧ Hid (RdG imC 3 wr ib m.is) ∧ Hid (∀ g, (Value.slice b D.length c).ownBlock = some g → g ≠ X ∧ g ≠ R ∧ g ≠ Y ∧ ∀ q o, ib = some ⟨q, o, none⟩ → 0 < m.is.length → q ≠ g) ∧ Hid (Below w.heap.size w wr)) (fun _ iv _ => n - (intOf iv).toNat)
          case atStart => exact ⟨0, _, _, [], Nat.zero_le _, rfl, rfl, hide1 rfl, hide1 ⟨OW.out, by simp⟩, KX, KR, KY, RI, NT0, BW4⟩
          case round =>
            obtain ⟨i, b, c, D, hi, rfl, rfl, HD, MO, KXr, KRr, KYr, RIr, NT, BWr⟩ := hrel
            have x0 : wr.cell? ⟨ab, ao + j, none⟩ = some (.slice vla n vlc) := (BWr.out.cell (p := ⟨ab, ao + j, none⟩) hab).trans V0.out
            have swr : w.heap.size ≤ wr.heap.size := BWr.out.size
            by_cases hlt : i < n
            · have k1 : (i : Int) < (n : Int) := by omega
              have k0 : (0 : Int) ≤ (i : Int) := by omega
              have iv2 : i < vl.length := by rw [← HN.out]; exact hlt
              obtain ⟨vb, vo, rfl, hvb, hvc⟩ := HV0.out i iv2
              have x1 : wr.cell? ⟨vb, vo + i, none⟩ = some (.int .i64 vl[i]) := (BWr.out.cell (p := ⟨vb, vo + i, none⟩) hvb).trans hvc
              have g0 : wr.cell? ⟨X, 0, none⟩ = some (.int .i64 m.id) := KXr.out.cell 0 rfl
              have NX := hide1 (wth_next iv2 m.id)
              have hDl : D.length ≤ 4 := by have h1 := congrArg List.length HD.out; rw [List.length_map, List.length_map] at h1; rw [h1]; exact Nat.le_trans (wth_le _ _) (by rw [List.length_take]; omega)
              have hic : i + 1 ≤ n := hlt
              clear hvc
              generalize vl[i] = y at *
              by_cases cy : y = m.id
              · have q : (y != m.id) = false := by simp [cy]
                rw [if_pos cy, List.append_nil] at NX
                clear cy
                go_wp2
                go_roundw
                case rel => exact ⟨i + 1, b, c, D, by omega, by go_num, rfl, hide1 (by rw [NX.out]; exact HD.out), MO, KXr, KRr, KYr, RIr, NT, BWr⟩
                case measure => simp [intOf] <;> omega
              · have q : (y != m.id) = true := by simp [cy]
                rw [if_neg cy] at NX
                clear cy
                go_upto_region 14 with fail
                have T5 := hide1 (show Below wr.heap.size wr (wr.alloc (.cells #[.int .i64 1, .int .i64 m.id, .int .i64 y, .int .i64 ((j : Int) + 1 + 1), .int .i64 0, .slice none 0 0] 61)) from ((Below.refl _ _).alloc (Nat.le_refl _) _))
                have T1 := hide1 (own_kept MO.out.o T5.out)
                have T2 := hide1 (rd_one (y := (⟨⟨1, m.id, y, (j : Int) + 1 + 1, 0, []⟩, none, 0⟩ : Mv)) encMv (show Blk (wr.alloc (.cells #[.int .i64 1, .int .i64 m.id, .int .i64 y, .int .i64 ((j : Int) + 1 + 1), .int .i64 0, .slice none 0 0] 61)) wr.heap.size 61 (mvC (⟨⟨1, m.id, y, (j : Int) + 1 + 1, 0, []⟩, none, 0⟩ : Mv)) from Blk.new wr 61 #[.int .i64 1, .int .i64 m.id, .int .i64 y, .int .i64 ((j : Int) + 1 + 1), .int .i64 0, .slice none 0 0]))
                have T4 := hide1 (Nat.le_trans swr T5.out.size)
                go_wp2_with (at_builtin; refine wpList_appA encMv rowMv rfl _ _ rfl w.heap.size (.slice b D.length c) D.length D rfl T1.out (some ⟨wr.heap.size, 0, none⟩) 1 1 [(⟨⟨1, m.id, y, (j : Int) + 1 + 1, 0, []⟩, none, 0⟩ : Mv)] rfl rfl T2.out (by omega) T4.out ?_; intro b5 c5 w5 ho5 hg5 hl5; have HO5 := hide1 ho5; have HG5 := hide1 hg5; have HL5 := hide1 hl5; clear ho5 hg5 hl5)
                all_goals
                  have P5 := (MO.out.later T5.out).push HO5.out HG5.out HL5.out (y := (⟨⟨1, m.id, y, (j : Int) + 1 + 1, 0, []⟩, none, 0⟩ : Mv)) ⟨RdG.nil _ _, LoA.none, fun q o e => by cases e⟩
                  have BG := gbelow HG5.out (B := w.heap.size) (fun g hg => (T1.out.lt g hg).1) T4.out
                  have e1 : (D ++ [(⟨⟨1, m.id, y, (j : Int) + 1 + 1, 0, []⟩, none, 0⟩ : Mv)]).length = D.length + 1 := by simp
                  go_roundw
                  case rel =>
                    refine ⟨i + 1, b5, c5, D ++ [(⟨⟨1, m.id, y, (j : Int) + 1 + 1, 0, []⟩, none, 0⟩ : Mv)], hic, by go_num, by rw [e1], hide1 ?_, hide1 P5.1, hide1 ((KXr.out.below T5.out KXr.out.lt).gr HG5.out (fun e => (NT.out X e).1 rfl)), hide1 ((KRr.out.below T5.out KRr.out.lt).gr HG5.out (fun e => (NT.out R e).2.1 rfl)), hide1 ((KYr.out.below T5.out KYr.out.lt).gr HG5.out (fun e => (NT.out Y e).2.2.1 rfl)), hide1 ((RIr.out.later T5.out).gr HG5.out (fun q o e h h2 => (NT.out q h2).2.2.2 q o e h rfl)), hide1 (fun g hg => ?_), hide1 (BWr.out.trans ((T5.out.mono swr).trans BG))⟩
                    · rw [List.map_append, HD.out, NX.out, List.map_append]
                      rfl
                    · rcases P5.2 g hg with h | h
                      · exact NT.out g h
                      · have h3 := T5.out.size
                        exact ⟨fun e => by have := KXr.out.lt; omega, fun e => by have := KRr.out.lt; omega, fun e => by have := KYr.out.lt; omega, fun q o e2 h2 e => by have := RIr.out.lt0 e2 h2; omega⟩
                  case measure => simp [intOf] <;> omega
            · obtain rfl : i = n := by omega
              have k1 : ¬ ((i : Int) < (i : Int)) := by omega
              obtain ⟨m9, hm9⟩ : ∃ x : Mb, x = ledM m ((j : Int) + 1 + 1) := ⟨_, rfl⟩
              obtain ⟨A9, hA9⟩ : ∃ x : MA, x = ⟨none, 0, ib, ic, none, 0⟩ := ⟨_, rfl⟩
              have K9 := hide1 (show BlkA wr Y 38 (mbA m9 A9) from by rw [hm9, hA9]; exact KYr.out)
              have KR := KRr
              have CC := hide1 (show Calls Tryz.prog 26 #[.agg (mbA m9 A9)] wr _ from specCopyM_any m9 A9 wr (by rw [hm9]; exact ⟨by simp [ledM], HZ.out.il, by simp [ledM, zeroTk]⟩) (by rw [hm9, hA9]; exact ⟨fun i hi => absurd hi (by simp [ledM]), RIr.out, fun i hi => absurd hi (by simp [ledM, zeroTk])⟩))
              have HM9 := hide1 hm9
              have lRr : R < wr.heap.size := KRr.out.lt
              have LD := hide1 MO.out.lo'
              have RD := hide1 MO.out.rd
              clear hm9 hA9

              go_wp2_with (first | (refine wpList_load_rowG rfl 38 _ rfl Y rfl 38 (mbA m9 A9) _ K9.out Tryz.underlying38 rfl sizeMb ?_) | (go_at_call 26; refine CC.out.mono ?_; rintro r w9 ⟨B9, rfl, hr, hlo, hb⟩; rw [mbV_A]; have R9 := hide1 hr; have L9 := hide1 hlo; have B10 := hide1 hb; have KR9 := hide1 (KR.out.below hb KR.out.lt); clear hr hlo hb) | (refine wpList_store_row rfl 38 _ _ rfl R (mbA m9 B9) rfl rfl 38 zMb KR9.out sizeMb rfl (oneMb _ _) ?_))
              have RS := setRow_heap _ R zMb (mbA m9 B9) 38 (0, 0) KR9.out
              refine bodyPost_ret (results_row3S Tryz.results6 _ _ R 38 (mbA m9 B9) (0, 0) _ rfl RS Tryz.underlying38 rfl sizeMb) rfl ?_
              unfold AdoR
              rw [RES.out, RA.out]
              have LR : ∀ q o, b = some ⟨q, o, none⟩ → 0 < D.length → q ≠ R := fun q o e h => by subst e; exact (NT.out q rfl).2.1
              refine ⟨⟨B9, b, c, D, by rw [HM9.out]; rfl, by rw [HD.out, HN.out, List.take_length], by rw [HM9.out] at R9 L9; exact R9.out.farRow L9.out lRr _, ⟨RdG.farR (RD.out.later B10.out).r (g := R) _ LR, fun x hx => ?_⟩⟩, below_setRow (g := R) (BWr.out.trans (B10.out.mono swr)) (by have := HXR.out; omega) _⟩
              have hx0 : x.m.is = [] := by
                have h1 : x.m ∈ D.map (·.m) := List.mem_map.2 ⟨x, hx, rfl⟩
                rw [HD.out] at h1
                obtain ⟨v, _, hv⟩ := List.mem_map.1 h1
                rw [← hv]
              rw [hx0]
              exact RdG.nil _ _
end Go.Proofs.YtpjgplohlchpoaaGreatDoor
