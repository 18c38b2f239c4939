/- The program's codeOf. -/
import Derived.Test.YtpjgplohlchpoaaGreatDoorUAX
import Derived.Test.YtpjgplohlchpoaaGreatDoorUAB
import Derived.Test.YtpjgplohlchpoaaGreatDoorUAS
import Derived.Test.YtpjgplohlchpoaaGreatDoorUAL
namespace Go.Proofs.YtpjgplohlchpoaaGreatDoor
open Go.RowKit
set_option linter.unusedVariables false

/-- errors.errorType is as it was laid. -/
def TabE (w : World) : Prop := w.cell? ⟨0, 0, none⟩ = some (.iface 129 (.agg #[.pointer (some ⟨1, 69, none⟩)]))
theorem codeNil_any (w : World) : Calls Tryz.prog 31 #[.nilIface] w fun e w' => e = .returned (.int .i64 0) ∧ Below w.heap.size w w' := by
  have B1 := hide1 ((Below.refl w.heap.size w).alloc (Nat.le_refl _) (.cells #[.int .i64 0] 96))
  go_enter Tryz.func31, Tryz.ntmps31
  go_wp2_with fail
  refine (as_nil _ _).mono ?_
  rintro e w1 ⟨rfl, rfl⟩
  go_wp2
  go_ret
  exact ⟨rfl, B1.out⟩
set_option maxRecDepth 100000 in
theorem codeHit_any (k : Int) (w : World) (hg : TabE w) : Calls Tryz.prog 31 #[.iface 96 (.agg #[.int .i64 k])] w fun e w' => e = .returned (.int .i64 k) ∧ Below w.heap.size w w' := by
  have F := hide1 (And.intro (Blk.new w 96 #[.int .i64 0]) ((Below.refl w.heap.size w).alloc (Nat.le_refl _) (.cells #[.int .i64 0] 96)))
  have HG := hide1 (show (w.alloc (.cells #[.int .i64 0] 96)).cell? ⟨0, 0, none⟩ = some (.iface 129 (.agg #[.pointer (some ⟨1, 69, none⟩)])) from (F.out.2.cell (p := ⟨0, 0, none⟩) (World.block_lt_of_cell? w _ hg)).trans hg)
  clear hg
  go_enter Tryz.func31, Tryz.ntmps31
  go_wp2_with fail
  generalize (w.alloc (.cells #[.int .i64 0] 96)) = u at F HG ⊢
  refine (as_hit k ⟨w.heap.size, 0, none⟩ (.int .i64 0) u HG.out (F.out.1.cell 0) (F.out.1.froz 0)).mono ?_
  rintro e w1 ⟨rfl, hw1⟩
  have E1 := hide1 (show Below w.heap.size w w1 by
    rw [hw1]
    have b1 := (((((Below.refl u.heap.size u).alloc (Nat.le_refl _) (.cells #[.pointer (some ⟨w.heap.size, 0, none⟩)] 98)).alloc (by simp) (.cells #[.pointer (some ⟨1, 98, none⟩), .pointer (some ⟨u.heap.size, 0, none⟩), .int .u64 150] 111)).alloc (by simp; omega) (.cells #[.pointer (some ⟨1, 98, none⟩), .pointer (some ⟨u.heap.size, 0, none⟩), .int .u64 150] 111)).alloc (by simp; omega) (.cells #[.int .i64 k] 96))
    exact (F.out.2.trans (b1.mono F.out.2.size)).setCell (p := ⟨w.heap.size, 0, none⟩) (Nat.le_refl _) _)
  have y0 : w1.cell? ⟨w.heap.size, 0, none⟩ = some (.int .i64 k) := by
    rw [hw1]
    have lt := F.out.1.lt
    have k0 := F.out.1
    have b1 := (((((Below.refl u.heap.size u).alloc (Nat.le_refl _) (.cells #[.pointer (some ⟨w.heap.size, 0, none⟩)] 98)).alloc (by simp) (.cells #[.pointer (some ⟨1, 98, none⟩), .pointer (some ⟨u.heap.size, 0, none⟩), .int .u64 150] 111)).alloc (by simp; omega) (.cells #[.pointer (some ⟨1, 98, none⟩), .pointer (some ⟨u.heap.size, 0, none⟩), .int .u64 150] 111)).alloc (by simp; omega) (.cells #[.int .i64 k] 96))
    exact ((k0.below b1 lt).set 0 (.int .i64 k)).cell 0
  clear hw1 F HG
  go_wp2
  go_ret
  exact ⟨rfl, E1.out⟩
end Go.Proofs.YtpjgplohlchpoaaGreatDoor
namespace Go.Proofs.YtpjgplohlchpoaaGreatDoor
open Go.RowKit
set_option linter.unusedVariables false

/-- What Adopt answers, in memory of its own. -/
def AdoO (w : World) (m : Mb) (vs : List (List Int)) (e : Int) (r : Ending) (w' : World) : Prop :=
  (∃ (B : MA) (b : Option Addr) (c : Nat) (D : List Mv), r = .returned (.tuple #[.agg (mbA (adopt m vs e).1 B), .slice b D.length c, .bool (adopt m vs e).2.2]) ∧ D.map (·.m) = (adopt m vs e).2.1 ∧ OwnMb w' w.heap.size (adopt m vs e).1 B ∧ OwnMs w' w.heap.size b c D ∧ (∀ g, InM (adopt m vs e).1 B g → ¬ InD b c D g)) ∧ Below w.heap.size w w'
def nilMA : MA := ⟨none, 0, none, 0, none, 0⟩
theorem wp_genA {P : Program} {c : Code} {K : Exit → Act → World → Prop} {a : Act} {w : World} (W : World) (h : W = w) (k : Code.wp P c K a W) : Code.wp P c K a w := h ▸ k
theorem zMb_A : mbA zeroMb nilMA = zMb := rfl
theorem own_zMb (w : World) (B : Nat) : OwnMb w B zeroMb nilMA := ⟨World.ownsRow_nil _ _ _ _, World.ownsRow_nil _ _ _ _, World.ownsRow_nil _ _ _ _, (fun g h => by cases h), (fun g h => by cases h), (fun g h => by cases h)⟩
set_option maxRecDepth 100000 in
set_option maxHeartbeats 8000000 in
theorem implAdopt_any (m : Mb) (A : MA) (va : Option Addr) (L : List Vw) (vc : Nat) (e : Int) (w : World) (hz : SzMb m) (hzi : ∀ x ∈ m.is, x.k.size ≤ 1048576 ∧ x.v.size ≤ 1048576) (hA : RdMb w m A) (hL : L.length ≤ 1048576) (hs : ∀ x ∈ L, x.l.length ≤ 1048576) (hV : RdVs w va L) (ht : TabE w) :
    Calls Tryz.prog 9 #[.agg (mbA m A), .slice va L.length vc, .int .i64 e] w fun r w' => AdoO w m (L.map (·.l)) e r w' := by
  have F0 := hide1 (blkN2 w (mbA m A) zMb 38 38)
  have HA := hide1 hA
  have HV := hide1 hV
  have HZ := hide1 hz
  have HZI := hide1 hzi
  have HS := hide1 hs
  have HT := hide1 ht
  have tz : 0 < w.heap.size := World.block_lt_of_cell? w _ ht
  clear hA hV hz hzi hs ht
  unfold mbA zMb at F0
  unfold mbA
  go_enter Tryz.func9, Tryz.ntmps9
  go_upto_region 1 with fail
  generalize ((w.alloc (.cells #[.int .i64 m.id, .int .i64 m.ep, .bool m.fe, .bool m.ba, .bool m.le, .bool m.se, .slice A.wa m.wa.length A.wc, .slice A.ia m.is.length A.ic, .int .i64 m.cn, .int .i64 m.tk.op, .int .i64 m.tk.cl, .int .i64 m.tk.nu, .string m.tk.it.k, .string m.tk.it.v, .int .i64 m.tk.it.n, .slice A.la m.tk.lf.length A.lc] 38)).alloc (.cells #[.int .i64 0, .int .i64 0, .bool false, .bool false, .bool false, .bool false, .slice none 0 0, .slice none 0 0, .int .i64 0, .int .i64 0, .int .i64 0, .int .i64 0, .string ⟨#[]⟩, .string ⟨#[]⟩, .int .i64 0, .slice none 0 0] 38)) = w0 at F0 ⊢
  obtain ⟨K0, K1, B0⟩ := F0.out
  have KG := hide1 (show BlkA w0 w.heap.size 38 (mbA m A) from K0.arr)
  have KR := hide1 (show BlkA w0 (w.heap.size + 1) 38 zMb from K1.arr)
  have BW := hide1 B0
  have hs0 : w.heap.size + 1 < w0.heap.size := K1.lt
  have CS := hide1 (seatOf_any m A va L.length vc w0 HZ.out (HA.out.later B0))
  clear F0 K0 K1 B0
  go_upto_region 2 with (first | (refine wpList_load_rowG rfl 38 _ rfl w.heap.size rfl 38 (mbA m A) _ KG.out Tryz.underlying38 rfl sizeMb ?_) | (go_at_call 30; refine CS.out.mono ?_; rintro r w1 ⟨⟨X, B, rfl, hS⟩, hb⟩; have H1 := hide1 hS; have B1 := hide1 hb; clear hS hb))
  have s1 : w0.heap.size ≤ w1.heap.size := B1.out.size
  have BW1 := hide1 (BW.out.trans (B1.out.mono (by omega)))
  have KR1 := hide1 (KR.out.below B1.out KR.out.lt)
  have VV := hide1 (show ∀ u, Below w0.heap.size w1 u → RdVs u va L from fun u hb => (HV.out.later (BW.out)).later (B1.out.trans hb))
  have TT := hide1 (show ∀ u, Below w0.heap.size w1 u → TabE u from fun u hb => by
    have hb2 := BW1.out.trans (hb.mono (by omega))
    exact (hb2.cell (p := ⟨0, 0, none⟩) tz).trans HT.out)
  clear KG KR CS B1 BW HA HV HT
  by_cases ha : adoR m (L.map (·.l)) e
  · have RES := hide1 (show adopt m (L.map (·.l)) e = ((adoM m (L.map (·.l)) e).1, (adoM m (L.map (·.l)) e).2, true) from if_pos ha)
    have CA := hide1 (adopt_yes e w1 H1.out (by simp) ha hL HS.out VV.out HZ.out HZI.out)
    clear ha
    generalize adoM m (L.map (·.l)) e = AM at *
    obtain ⟨m', ms⟩ := AM
    dsimp only at CA
    go_upto_region 4 with (first | (go_at_call 32; refine CA.out.mono ?_; rintro r w2 ⟨rfl, ⟨b2, c2, E2, A2, hE, h2⟩, hb⟩; have HE := hide1 hE; have H2 := hide1 h2; have B2 := hide1 hb; clear hE h2 hb) | (go_at_call 31; refine (codeNil_any _).mono ?_; rintro r w3 ⟨rfl, hb⟩; have B3 := hide1 hb; clear hb))
    have H3 := hide1 (H2.out.later B3.out)
    have BS3 := hide1 (B2.out.trans (B3.out.mono H2.out.size))
    have CL := hide1 (leave_any w3 H3.out)
    clear H1 H2 B2 B3 CA VV TT
    go_upto_region 5 with (first | (refine wpList_store_row rfl 38 _ _ rfl _ (mbA m' A2) rfl rfl 38 zMb (KQ.out) sizeMb rfl (oneMb _ _) ?_) | (go_at_call 33; refine CL.out.mono ?_; rintro r w4 ⟨rfl, h4, hb⟩; have H4 := hide1 h4; have B4 := hide1 (BS3.out.trans hb); have KQ := hide1 (BlkA.new w4 38 zMb); clear h4 hb))
    have B45 := hide1 (show Below w4.heap.size w4 ((w4.alloc (.cells zMb 38)).setRow w4.heap.size (mbA m' A2)) from below_setRow (g := w4.heap.size) ((Below.refl w4.heap.size w4).alloc (Nat.le_refl _) (.cells zMb 38)) (Nat.le_refl _) (mbA m' A2))
    have RS5 := hide1 (show BlkA ((w4.alloc (.cells zMb 38)).setRow w4.heap.size (mbA m' A2)) w4.heap.size 38 (mbA m' A2) from setRow_heap _ _ zMb _ _ (0, 0) KQ.out)
    obtain ⟨w5, hw5⟩ : ∃ W, W = ((w4.alloc (.cells zMb 38)).setRow w4.heap.size (mbA m' A2)) := ⟨_, rfl⟩
    refine wp_genA w5 hw5 ?_
    rw [← hw5] at B45 RS5
    clear hw5 KQ CL
    have S4 : w0.heap.size ≤ w4.heap.size := H4.out.size
    have BW4 := hide1 (BW1.out.trans (B4.out.mono (by omega)))
    have BW5 := hide1 (BW4.out.trans (B45.out.mono (by omega)))
    have KR5 := hide1 ((KR1.out.below B4.out (by omega)).below B45.out (by omega))
    go_wp2_with (first | (refine wpList_load_rowG rfl 38 _ rfl w4.heap.size rfl 38 (mbA m' A2) _ RS5.out Tryz.underlying38 rfl sizeMb ?_) | (refine wpList_store_row rfl 38 _ _ rfl (w.heap.size + 1) (mbA m' A2) rfl rfl 38 zMb KR5.out sizeMb rfl (oneMb _ _) ?_))
    have RS := setRow_heap _ (w.heap.size + 1) zMb (mbA m' A2) 38 (0, 0) KR5.out
    have OT := fun g (h1 : w0.heap.size ≤ g) (h2 : g < w4.heap.size) => (setRow_other w5 (w.heap.size + 1) g (mbA m' A2) (by omega)).trans (B45.out.block g h2)
    have SZ : w4.heap.size ≤ (w5.setRow (w.heap.size + 1) (mbA m' A2)).heap.size := by simp only [World.setRow, Array.size_modify]; exact B45.out.size
    have MO := H4.out.mo.offM SZ (fun g hg => OT g (H4.out.mo.ltM hg).1 (H4.out.mo.ltM hg).2)
    have MD := H4.out.tw.off SZ (fun g hg => OT g (H4.out.tw.lt hg).1 (H4.out.tw.lt hg).2)
    refine bodyPost_ret (results_row3D Tryz.results9 _ _ (w.heap.size + 1) 38 (mbA m' A2) (0, 0) _ rfl RS Tryz.underlying38 rfl sizeMb) rfl ?_
    unfold AdoO
    rw [RES.out]
    exact ⟨⟨A2, b2, c2, E2, rfl, HE.out, ⟨own_base MO.wo (by omega), own_base MO.io (by omega), own_base MO.lo (by omega), MO.wi, MO.wl, MO.il⟩, MD.base (by omega), H4.out.md⟩, below_setRow (g := w.heap.size + 1) BW5.out (by omega) _⟩
  · have RES := hide1 (show adopt m (L.map (·.l)) e = (zeroMb, [], false) from if_neg ha)
    have CA := hide1 (adopt_no e w1 H1.out ha hL HS.out VV.out HZ.out HZI.out)
    clear ha
    go_upto_region 3 with (first | (go_at_call 32; refine CA.out.mono ?_; rintro r w2 ⟨⟨k, rfl, hk⟩, hb⟩; have HK := hide1 hk; have B2 := hide1 hb; clear hk hb) | (go_at_call 31; refine (codeHit_any k _ (TT.out _ B2.out)).mono ?_; rintro r w3 ⟨rfl, hb⟩; have B3 := hide1 hb; clear hb; have kn : (k != 0) = true := (by rcases HK.out with h | h <;> subst h <;> rfl)))
    have S1 : w0.heap.size ≤ w1.heap.size := s1
    have S2 : w0.heap.size ≤ w2.heap.size := Nat.le_trans S1 B2.out.size
    have BS := hide1 (B2.out.trans (B3.out.mono S2))
    have S3 : w0.heap.size ≤ w3.heap.size := Nat.le_trans S1 BS.out.size
    have BN := hide1 ((Below.refl w3.heap.size w3).alloc (Nat.le_refl _) (.cells #[] 61))
    have BT := hide1 (BS.out.trans (BN.out.mono S3))
    have KR4 := hide1 (KR1.out.below (BT.out) (by omega))
    have OE := hide1 (owns_emptyX w3 61 6)
    clear H1 CA B2 B3 VV TT
    go_wp2_with (refine wpList_store_row rfl 38 _ _ rfl (w.heap.size + 1) zMb rfl rfl 38 zMb KR4.out sizeMb rfl (oneMb zeroMb nilMA) ?_)
    have RS := setRow_heap _ (w.heap.size + 1) zMb zMb 38 (0, 0) KR4.out
    refine bodyPost_ret (results_row3D Tryz.results9 _ _ (w.heap.size + 1) 38 zMb (0, 0) _ rfl RS Tryz.underlying38 rfl sizeMb) rfl ?_
    unfold AdoO
    rw [RES.out]
    refine ⟨⟨nilMA, some ⟨w3.heap.size, 0, none⟩, 0, [], rfl, rfl, own_zMb _ _, ⟨?_, by simp, List.Pairwise.nil, by simp⟩, fun g h => ?_⟩, ?_⟩
    · refine own_base (own_blkT OE.out (by simp [World.setRow]) (fun g hg => setRow_other _ _ g _ ?_)) (by omega)
      have := (OE.out.lt g hg).1
      omega
    · rcases h with h | h | h <;> cases h
    · exact below_setRow (g := w.heap.size + 1) (BW1.out.trans (BT.out.mono (by omega))) (by omega) _
end Go.Proofs.YtpjgplohlchpoaaGreatDoor
namespace Go.Proofs.YtpjgplohlchpoaaGreatDoor
open Go.RowKit
set_option linter.unusedVariables false

theorem gr_loadX {P : Program} {u : World} {b o : Nat} {ty : TypeId} {cs : Array Value} {d : TypeDesc} (h : CsAt u b o cs) (hb : b < u.heap.size) (hu : P.underlying ty = some d) (hd : (match d with | .struct _ | .array _ _ => true | _ => false) = true) (hi : (P.info? ty).map (·.size) = some cs.size) :
    ∀ w, (∃ n : Gr u, w = n.w) → (Instr.loadAt ty (.pointer (some ⟨b, o, none⟩))).run P w = .ok (.agg cs) w := fun w ⟨n, e⟩ => by subst e; exact (h.later n.b hb).load hu hd hi
end Go.Proofs.YtpjgplohlchpoaaGreatDoor
