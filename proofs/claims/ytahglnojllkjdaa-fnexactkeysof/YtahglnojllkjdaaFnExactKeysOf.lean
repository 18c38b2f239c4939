/- KeysOf answers as its model at every argument. -/
import Derived.Test.YtahglnojllkjdaaRows
import Derived.ProofKit
import Derived.OpenShut
import Derived.ShutString
import Derived.ChangeOld
import Derived.Test.YtahglnojllkjdaaTabKF
namespace Go.Proofs.Ytahglnojllkjdaa
open Go.ChangeShapes Go.WideShapes Go.ChangeAt Go.RowKit
open Go.ChangeMaps (open_string shut_string)
set_option linter.unusedVariables false

theorem RdS.blw {w w' : World} {ao : Option Addr} {n B : Nat} {f : Nat → ByteArray} (h : RdS w ao n f) (hB : Below B w w') (hb : ∀ b, ao = some ⟨b, 0, none⟩ → b < B) : RdS w' ao n f := by
  intro j hj
  obtain ⟨g, h1, h2, h3⟩ := h j hj
  exact ⟨g, h1, Nat.lt_of_lt_of_le h2 hB.size, (hB.cell (p := ⟨g, j, none⟩) (hb g h1)).trans h3⟩
theorem Mk2.ownS {w w' : World} {u v x : Value} {base n : Nat} {xs : List Value} (h : Mk2 w w' u v) (hO : w.ownsRow base 9 1 x n xs) (h1 : ∀ k, x.ownBlock = some k → u.ownBlock ≠ some k) (h2 : ∀ k, x.ownBlock = some k → v.ownBlock ≠ some k) : w'.ownsRow base 9 1 x n xs := by
  refine ⟨hO.1, ?_⟩
  rcases hO.2 with ⟨hv, hn⟩ | ⟨g, cap, cur, hv, hb, hh, r⟩
  · exact .inl ⟨hv, hn⟩
  · have e : x.ownBlock = some g := by rw [hv]; rfl
    exact .inr ⟨g, cap, cur, hv, hb, (h.block g (Array.getElem?_eq_some_iff.1 hh).1 (h1 g e) (h2 g e)).trans hh, r⟩
/-- The j-th of some texts. -/
def txt (ks : List ByteArray) (j : Nat) : ByteArray := ks.getD j ⟨#[]⟩
theorem rds_sc {w : World} {base ca : Nat} {ao : Option Addr} {ks : List ByteArray} (h : w.ownsRow base 9 1 (.slice ao ks.length ca) ks.length (sc ks)) : RdS w ao ks.length (txt ks) := rds_of_own h (fun j hj => sc_at ks j hj)

set_option maxRecDepth 100000 in
set_option maxHeartbeats 8000000 in
theorem walk_FnExactKeysOf (ao a' : Option Addr) (l o : List Ce) (ca ca' : Nat) (mv : Int) (w : World) (hR : RdJ w ao l) (hQ : RdJ w a' o) (hl : l.length ≤ maxLen ∧ ∀ i (h : i < l.length), l[i].key.size ≤ maxLen) (hm : o.length ≤ maxLen ∧ ∀ i (h : i < o.length), o[i].key.size ≤ maxLen) :
    Calls Try.prog 12 #[tbV ao l.length ca a' o.length ca' mv] w fun e w' => e = .returned (.bool true) ∧ Below w.heap.size w w' := by
  have B0 := fun (w : World) o => (Below.refl w.heap.size w).alloc (Nat.le_refl _) o
  have CZ := hide1 (fun o1 => szTable_any ao a' l o ca ca' mv (w.alloc o1) hl.1 hm.1 (hR.later (B0 w o1)) (hQ.later (B0 w o1)) hl.2 hm.2)
  have HR := hide1 hR
  have HQ := hide1 hQ
  unfold tbV at CZ ⊢
  clear hR hQ hl hm
  go_enter Try.func12, Try.ntmps12
  go_wp2_with fail
  refine (CZ.out _).mono ?_
  rintro e w1 ⟨hr, hb1⟩
  have V1 := hide1 (VarT.box hb1)
  have B1 := hide1 (box_below hb1)
  clear hb1 CZ
  rcases hr with rfl | ⟨r, rfl, hsm, hsm'⟩
  · go_wp2
    go_ret
    exact ⟨rfl, B1.out⟩
  have qr : decide ((r : Int) < 0) = false := by simp
  have hn := hsm.1
  have hn' := hsm'.1
  clear hsm hsm'
  obtain ⟨hs1, x0, x1, x2⟩ := V1.out.cells
  have T2 := hide1 (toTable_own ao a' l o ca ca' mv w1 hn hn' (HR.out.later B1.out) (HQ.out.later B1.out))
  unfold tbV at T2
  go_wp2_with fail
  refine T2.out.mono ?_
  rintro e w2 ⟨b2, c2, d2, e2, rfl, ho2, hb2⟩
  have RD2 := hide1 ho2.rd
  have B2 := hide1 (B1.out.trans (hb2.mono B1.out.size))
  have V2 := hide1 (V1.out.later hb2)
  clear ho2 hb2 T2 x0 x1 x2 V1
  have S3 := hide1 (specKeys_any b2 d2 l o c2 e2 mv w2 hn hn' RD2.out.1 RD2.out.2)
  unfold tbV at S3
  go_wp2_with fail
  refine S3.out.mono ?_
  rintro e w3 ⟨po, ks, pc, rfl, hK, ho3, hb3⟩
  have HK := hide1 hK
  have hks := hK.small
  have P3 := hide1 (fun b (e : po = some ⟨b, 0, none⟩) => (ho3.lt b (by rw [e]; rfl)).2)
  have R3 := hide1 (rds_sc ho3)
  have B3 := hide1 (B2.out.trans (hb3.mono B2.out.size))
  have V3 := hide1 (V2.out.later hb3)
  clear hb3 S3 V2 RD2 hK ho3
  obtain ⟨hs3, x0, x1, x2⟩ := V3.out.cells
  have T4 := hide1 (toTable_own ao a' l o ca ca' mv w3 hn hn' (HR.out.later B3.out) (HQ.out.later B3.out))
  unfold tbV at T4
  go_wp2_with fail
  refine T4.out.mono ?_
  rintro e w4 ⟨b4, c4, d4, e4, rfl, ho4, hb4⟩
  have B4 := hide1 (B3.out.trans (hb4.mono B3.out.size))
  have s34 : w3.heap.size ≤ w4.heap.size := hb4.size
  have V4 := hide1 (V3.out.later hb4)
  have R4 := hide1 (R3.out.below hb4 (Nat.le_refl _))
  have O4 := hide1 ho4
  clear ho4 hb4 T4 x0 x1 x2 V3 R3
  have I5 := hide1 (fun o1 => implKeys_any b4 d4 l o c4 e4 mv (w4.alloc o1) hn hn' (O4.out.rd.1.later (B0 w4 o1)).toJ (O4.out.rd.2.later (B0 w4 o1)).toJ)
  unfold tbV at I5
  go_wp2_with fail
  refine (I5.out _).mono ?_
  rintro e w5 ⟨qo, ks', qc, rfl, hK', ho5, hb5⟩
  obtain rfl := hK'.det HK.out
  have V5 := hide1 (VarT.box hb5)
  have B45 := hide1 (box_below hb5)
  have s5 : w4.heap.size + 1 ≤ w5.heap.size := box_size hb5
  have G5 : Hid (w5.ownsRow (w4.heap.size + 1) 9 1 (.slice qo ks'.length qc) ks'.length (sc ks')) := own_base ho5 (by rw [World.size_alloc]; omega)
  have X5 := hide1 (O4.out.later B45.out)
  have S5 := hide1 (V4.out.later B45.out)
  have R5 := hide1 (R4.out.below B45.out (Nat.le_refl _))
  have B5 := hide1 (B4.out.trans (B45.out.mono B4.out.size))
  clear hb5 I5 V4 hK' ho5 R4
  have E6 := hide1 (eqS_same qo po ks'.length qc pc (txt ks') w5 (by omega) (rds_sc G5.out) R5.out)
  go_wp2_with fail
  refine E6.out.mono ?_
  rintro e w6 ⟨rfl, hb6, _⟩
  have V6 := hide1 (V5.out.later hb6)
  have SV := hide1 (S5.out.later hb6)
  have G6 := hide1 (own_below G5.out hb6)
  have X6 := hide1 (X5.out.later hb6)
  have R6 := hide1 (R5.out.below hb6 (Nat.le_refl _))
  have s6 : w5.heap.size ≤ w6.heap.size := hb6.size
  have B6 := hide1 (B5.out.trans (hb6.mono B5.out.size))
  clear hb6 E6 V5 S5 X5 R5
  have RX := hide1 X6.out.rd
  have CT := hide1 (fun w' (hb : Below w6.heap.size w6 w') => toTable_own ao a' l o ca ca' mv w' hn hn' (HR.out.later (B6.out.trans (hb.mono B6.out.size))) (HQ.out.later (B6.out.trans (hb.mono B6.out.size))))
  unfold tbV at CT
  obtain ⟨mX, z0, z1, z2⟩ := V6.out.cells
  obtain ⟨mS, x0, x1, x2⟩ := SV.out.cells
  have ZX := hide1 (And.intro z0 (And.intro z1 (And.intro z2 (And.intro x0 (And.intro x1 x2)))))
  go_wp2
  go_region_held3 (fun w' => w'.cell? ⟨w4.heap.size, 0, none⟩ = some (.slice b4 l.length c4) ∧ w'.cell? ⟨w4.heap.size, 1, none⟩ = some (.slice d4 o.length e4) ∧ w'.cell? ⟨w4.heap.size, 2, none⟩ = some (.int .i64 mv) ∧ w'.cell? ⟨w.heap.size, 0, none⟩ = some (.slice ao l.length ca) ∧ w'.cell? ⟨w.heap.size, 1, none⟩ = some (.slice a' o.length ca') ∧ w'.cell? ⟨w.heap.size, 2, none⟩ = some (.int .i64 mv)) (first | go_keep | exact ⟨(D8.out.cell mX).trans ZX.out.1, (D8.out.cell mX).trans ZX.out.2.1, (D8.out.cell mX).trans ZX.out.2.2.1, (D8.out.cell mS).trans ZX.out.2.2.2.1, (D8.out.cell mS).trans ZX.out.2.2.2.2.1, (D8.out.cell mS).trans ZX.out.2.2.2.2.2⟩ | exact ⟨(D7.out.cell mX).trans ZX.out.1, (D7.out.cell mX).trans ZX.out.2.1, (D7.out.cell mX).trans ZX.out.2.2.1, (D7.out.cell mS).trans ZX.out.2.2.2.1, (D7.out.cell mS).trans ZX.out.2.2.2.2.1, (D7.out.cell mS).trans ZX.out.2.2.2.2.2⟩) ((first | (go_at_call 17; refine (CE.out _ (by go_grown)).mono ?_; rintro e w8 ⟨rfl, hb8⟩; have D8 : Hid (Below w6.heap.size w6 w8) := (D7.out.trans (show Below w6.heap.size w7 _ by go_grown)).trans (hb8.mono (by have := D7.out.size; go_size)); clear hb8) | (go_at_call 22; refine (CT.out _ (by go_grown)).mono ?_; rintro e w7 ⟨b7, c7, d7, e7, rfl, ho7, hb7⟩; have D7 : Hid (Below w6.heap.size w6 w7) := (show Below w6.heap.size w6 _ by go_grown).trans hb7; have CE := hide1 (fun w' (hb : Below w7.heap.size w7 w') => eqTable_same b4 b7 d4 d7 l o c4 c7 e4 e7 mv w' hn hn' (RX.out.1.later (D7.out.trans (hb.mono D7.out.size))) (ho7.rd.1.later hb) (RX.out.2.later (D7.out.trans (hb.mono D7.out.size))) (ho7.rd.2.later hb)); unfold tbV at CE; clear ho7)))
  clear z0 z1 z2 x0 x1 x2 ZX CT CE D7 hb7 mX mS
  have V8 := hide1 (V6.out.later D8.out)
  have S8 := hide1 (SV.out.later D8.out)
  have G8 := hide1 (own_below G6.out D8.out)
  have X8 := hide1 (X6.out.later D8.out)
  have R8 := hide1 (R6.out.below D8.out (Nat.le_refl _))
  have B8 := hide1 (B6.out.trans (D8.out.mono B6.out.size))
  have s8 : w6.heap.size ≤ w8.heap.size := D8.out.size
  clear SV RX V6 X6 G6 R6
  obtain ⟨_, z0, z1, z2⟩ := V8.out.cells
  have M8 := hide1 (markTable_own b4 d4 l o c4 e4 1 w3.heap.size mv w8 hn hn' (by omega) (by omega) X8.out)
  unfold tbV at M8
  go_wp2_with fail
  refine M8.out.mono ?_
  rintro e w9 ⟨rfl, _, _, hg9⟩
  have e9 : ∀ g, ((Value.slice b4 l.length c4).ownBlock = some g ∨ (Value.slice d4 o.length e4).ownBlock = some g) → w3.heap.size ≤ g ∧ g < w4.heap.size := fun g hg => O4.out.lt g hg
  have hB3 : Below w3.heap.size w8 w9 := hg9.below (fun g hg => (e9 g hg).1) (by omega)
  have S9 := hide1 (S8.out.below hB3 hs3)
  have R9 := hide1 (R8.out.blw hB3 P3.out)
  have G9 : Hid (w9.ownsRow (w4.heap.size + 1) 9 1 (.slice qo ks'.length qc) ks'.length (sc ks')) := hg9.ownS G8.out (fun k h1 h2 => by have := (G5.out.lt k h1).1; have := e9 k (.inl h2); omega) (fun k h1 h2 => by have := (G5.out.lt k h1).1; have := e9 k (.inr h2); omega)
  have B9 := hide1 (B8.out.trans (hB3.mono B3.out.size))
  have s9 : w8.heap.size ≤ w9.heap.size := hg9.size
  clear hg9 M8 z0 z1 z2 V8 S8 X8 G8 R8 hB3
  have ql : decide ((1 : Int) + 2 * (l.length : Int) + 2 * (o.length : Int) < 0) = false := by simp; omega
  have E9 := hide1 (eqS_same qo po ks'.length qc pc (txt ks') w9 (by omega) (rds_sc G9.out) R9.out)
  go_wp2_with fail
  refine E9.out.mono ?_
  rintro e w10 ⟨rfl, hb10, _⟩
  have S10 := hide1 (S9.out.later hb10)
  have R10 := hide1 (R9.out.below hb10 (Nat.le_refl _))
  have G10 := hide1 (own_below G9.out hb10)
  have B10 := hide1 (B9.out.trans (hb10.mono B9.out.size))
  have s10 : w9.heap.size ≤ w10.heap.size := hb10.size
  clear hb10 E9 S9 R9 G9
  have M10 := hide1 (markS_any (.slice qo ks'.length qc) ks'.length 1 (sc ks') (w4.heap.size + 1) w10 (by omega) (by omega) (by omega) G10.out (by omega))
  go_wp2_with fail
  refine M10.out.mono ?_
  rintro e w11 ⟨rfl, ho11, hb11⟩
  have S11 := hide1 (S10.out.below hb11 (by omega))
  have R11 := hide1 (R10.out.blw hb11 (fun b hb => by have := P3.out b hb; omega))
  have G11 := hide1 (show RdS w11 qo ks'.length (fun j => mkT (1 + j)) from rds_of_own ho11 (fun j hj => mkRow_at 1 (sc ks') ks'.length (by rw [sc_length]; omega) j hj))
  have B11 := hide1 (B10.out.trans (hb11.mono (by have := B4.out.size; omega)))
  have s11 : w10.heap.size ≤ w11.heap.size := hb11.size
  clear ho11 hb11 M10 S10 R10 G10
  have H11 := hide1 (heldS_any qo ks'.length qc 1 w11 (by omega) (by omega) (by omega) G11.out)
  have qm : ((1 : Int) + (ks'.length : Int) != (1 : Int) + (ks'.length : Int)) = false := by simp
  have qn : decide ((1 : Int) + (ks'.length : Int) < 0) = false := by simp; omega
  go_wp2_with fail
  refine H11.out.mono ?_
  rintro e w12 ⟨rfl, hb12⟩
  have S12 := hide1 (S11.out.later hb12)
  have R12 := hide1 (R11.out.below hb12 (Nat.le_refl _))
  have G12 := hide1 (G11.out.below hb12 (Nat.le_refl _))
  have B12 := hide1 (B11.out.trans (hb12.mono B11.out.size))
  clear hb12 H11 S11 R11 G11
  obtain ⟨_, x0, x1, x2⟩ := S12.out.cells
  have T13 := hide1 (toTable_own ao a' l o ca ca' mv w12 hn hn' (HR.out.later B12.out) (HQ.out.later B12.out))
  unfold tbV at T13
  go_wp2_with fail
  refine T13.out.mono ?_
  rintro e w13 ⟨b13, c13, d13, e13, rfl, ho13, hb13⟩
  have L14 := hide1 (implKeys_any b13 d13 l o c13 e13 mv w13 hn hn' ho13.rd.1.toJ ho13.rd.2.toJ)
  have R13 := hide1 (R12.out.below hb13 (Nat.le_refl _))
  have G13 := hide1 (G12.out.below hb13 (Nat.le_refl _))
  have B13 := hide1 (B12.out.trans (hb13.mono B12.out.size))
  clear ho13 hb13 T13 x0 x1 x2 S12 R12 G12
  unfold tbV at L14
  go_wp2_with fail
  refine L14.out.mono ?_
  rintro e w14 ⟨ro, ks2, rc, rfl, hK2, ho14, hb14⟩
  obtain rfl := hK2.det HK.out
  have R14 := hide1 (R13.out.below hb14 (Nat.le_refl _))
  have G14 := hide1 (G13.out.below hb14 (Nat.le_refl _))
  have Q14 := hide1 (rds_sc ho14)
  have B14 := hide1 (B13.out.trans (hb14.mono B13.out.size))
  clear hK2 ho14 hb14 L14 R13 G13
  have E15 := hide1 (eqS_same ro po ks2.length rc pc (txt ks2) w14 (by omega) Q14.out R14.out)
  go_wp2_with fail
  refine E15.out.mono ?_
  rintro e w15 ⟨rfl, hb15, _⟩
  have G15 := hide1 (G14.out.below hb15 (Nat.le_refl _))
  have B15 := hide1 (B14.out.trans (hb15.mono B14.out.size))
  clear hb15 E15 G14
  have H16 := hide1 (heldS_any qo ks2.length qc 1 w15 (by omega) (by omega) (by omega) G15.out)
  go_wp2_with fail
  refine H16.out.mono ?_
  rintro e w16 ⟨rfl, hb16⟩
  have B16 := hide1 (B15.out.trans (hb16.mono B15.out.size))
  clear hb16
  go_wp2
  go_ret
  exact ⟨rfl, B16.out⟩

set_option maxRecDepth 100000 in
theorem lifted_FnExactKeysOf (os : Os) (started : os.Started) (H : Type) (enc : TypeId × Value → H) :
    ReturnsInHanded {} Try.checked os 12 .any (Rows.fnExactKeysOfSpec.pre6 enc Try.prog Try.f12 Rows.fnExactKeysOfRow.domain false) (Rows.fnExactKeysOfSpec.post enc Try.prog Try.f12 false true false false) := by
  refine returnsInHanded_of_change (C := Try.checked) (show ownKnob Try.prog.godebug = none by kernel_rfl) started (by kernel_rfl) Try.func12
    (ChangeSpec.witness6 (enc := enc) (C := Try.checked) false ⟨#[], #[.agg #[.slice none 0 0, .slice none 0 0, .int .i64 0]], []⟩ 8 (by kernel_rfl) (by kernel_rfl) (by kernel_rfl) (by kernel_rfl)) ?_
  intro W base args ds gs before hval0 hW hcnd _
  have hval : ∀ (j : Nat) t v, Try.f12.params[j]? = some t → args[j]? = some v → Value.okWide Try.prog W .any base t v := hval0
  have hW' := hW
  obtain ⟨p, q, hA0, hV, rfl, hfz, hnd⟩ := hW
  have hA : DataW.TrodAll enc Try.prog W 0 (fun _ => true) true Try.f12.params.toList args.toList ds p := hA0
  rw [Try.params12] at hA hval
  obtain ⟨v0, vs0, d0, ds0, p0, q0, hargs, rfl, rfl, h0, r0⟩ := trodAll_cons hA
  obtain ⟨rfl, rfl, rfl⟩ := trodAll_nil r0
  obtain rfl : args = #[v0] := by cases args; simp_all
  obtain ⟨rfl, rfl⟩ := trodVars_none hV
  have k0 := h0
  have lt0 : ∀ x ∈ p0, x.block < W.heap.size := by obtain ⟨m, hm⟩ := k0; exact DataW.trod_lt m _ _ _ hm
  obtain ⟨ao0, l0, ca0, b0, o0, cb0, m0, rfl, hR0, hQ0, hl0, hm0⟩ := open_table (hval 0 34 v0 rfl rfl) h0
  clear hA0 hval0
  try simp only [List.append_nil] at hW'
  refine (walk_FnExactKeysOf ao0 b0 l0 o0 ca0 cb0 m0 W hR0 hQ0 hl0 hm0).mono fun e W' ⟨he, bel⟩ => ?_
  subst he
  exact ⟨_, rfl, _, _, _, [], _, [], hW', trodAll_mk1 (shut_bool Try.underlying4 _), (trodAll_cons_mk (Below.trod (show laidOutB Try.prog = true by kernel_rfl) (by kernel_rfl) (of_decide_eq_true (by kernel_rfl)) k0 bel lt0) trodAll_mk0), rfl, bel.frame _, fun h => by cases h⟩

theorem proved_FnExactKeysOf : Rows.FnExactKeysOfSaid :=
  OpenClaim.holds_of_wide 12 Try.f12 rfl rfl rfl rfl rfl rfl rfl ⟨rfl, rfl, rfl, rfl, rfl⟩ rfl rfl rfl rfl rfl (by kernel_rfl) Try.func12 (by kernel_rfl)
    (of_decide_eq_true (by kernel_rfl)) (by unfold Func.isWrapper; first | (rw [if_pos (by decide +kernel)]; kernel_rfl) | (rw [if_neg (by decide +kernel)]; exact ⟨rfl, rfl⟩))
    (fun os started H enc _ => lifted_FnExactKeysOf os started H enc)
#print axioms proved_FnExactKeysOf
end Go.Proofs.Ytahglnojllkjdaa
