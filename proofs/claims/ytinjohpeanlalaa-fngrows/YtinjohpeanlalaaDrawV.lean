/- The contract of the draw of a right table, walked. -/
import Derived.Test.YtinjohpeanlalaaDrawU
namespace Go.Proofs.Ytinjohpeanlalaa
open Go.RowKit

set_option maxHeartbeats 400000 in
theorem pickInt2_any {B : Nat} {w : World} {a : Option Addr} {len cap g : Nat} (h : Drw B w a len cap g) (lg n c : Nat) (hn : 0 < n) (hn2 : n ≤ 1000) (hne : ¬ lg = g) (f : Nat → Int) (hc : ∀ j, j < n → w.cell? ⟨lg, j, none⟩ = some (.int .i64 (f j))) (hlg : lg < w.heap.size) :
    Calls Try.prog 58 #[.pointer (some ⟨g, 0, none⟩), .slice (some ⟨lg, 0, none⟩) n c] w fun e w' => ∃ j : Nat, j < n ∧ e = .returned (.int .i64 (f j)) ∧ Drw B w' a len cap g ∧ w.grownBy w' (some g) := by
  have HC := hide1 hc
  clear hc
  go_enter Try.func58, Try.ntmps58
  go_wp2_with (go_at_call 32; refine (below_any h (n : Int) (by omega)).mono ?_; rintro e w1 ⟨x, rfl, hx, _, h1, hb1⟩; have hx' : x < n := (by have := hx (by omega); omega); have hxi : (x : Int) < (n : Int) := (by omega); have x1 : w1.cell? ⟨lg, x, none⟩ = some (.int .i64 (f x)) := (World.cell?_of_block (w := w) (hb1.block lg hlg (fun e => hne (by simpa using e)))).trans (HC.out x hx'); clear hx)
  go_ret
  exact ⟨x, hx', rfl, h1, hb1⟩

def szL : List Nat := [4, 8, 16]
theorem szL_at (j : Nat) (h : j < 3) : (#[Value.int .i64 4, .int .i64 8, .int .i64 16] : Array Value)[j]? = some (.int .i64 ((szL.getD j 0 : Nat) : Int)) := by
  match j, h with
  | 0, _ => rfl
  | 1, _ => rfl
  | 2, _ => rfl
theorem szL_in : ∀ j : Fin 3, szL.getD j.1 0 = 4 ∨ szL.getD j.1 0 = 8 ∨ szL.getD j.1 0 = 16 := by decide

set_option maxRecDepth 100000 in
set_option maxHeartbeats 20000000 in
theorem tableD_any {B : Nat} {w : World} {a : Option Addr} {len cap g : Nat} (h : Drw B w a len cap g) :
    Calls Try.prog 35 #[.pointer (some ⟨g, 0, none⟩)] w fun e w' => ∃ (l o : List Ce) (m : Nat) (ao : Option Addr) (ca : Nat) (a' : Option Addr) (ca' : Nat), e = .returned (tbV ao l.length ca a' o.length ca' (m : Int)) ∧ OkN l o (m : Int) ∧ (KIn l ∧ KIn o) ∧ w'.ownsRow w.heap.size 47 2 (.slice ao l.length ca) l.length (ces l) ∧ w'.ownsRow w.heap.size 47 2 (.slice a' o.length ca') o.length (ces o) ∧ Drw B w' a len cap g ∧ w.grownBy w' (some g) := by
  have hgl := h.lt
  have HD := hide1 h
  clear h
  unfold tbV
  go_enter Try.func35, Try.ntmps35
  go_wp2_with fail
  have F0 : Hid (Blk ((w.alloc (.cells #[.slice none 0 0, .slice none 0 0, .int .i64 0] 29)).alloc (.cells #[.int .i64 4, .int .i64 8, .int .i64 16] 3)) w.heap.size 29 [.slice none 0 0, .slice none 0 0, .int .i64 0] ∧ (∀ j, j < 3 → ((w.alloc (.cells #[.slice none 0 0, .slice none 0 0, .int .i64 0] 29)).alloc (.cells #[.int .i64 4, .int .i64 8, .int .i64 16] 3)).cell? ⟨w.heap.size + 1, j, none⟩ = some (.int .i64 ((szL.getD j 0 : Nat) : Int))) ∧ Below w.heap.size w ((w.alloc (.cells #[.slice none 0 0, .slice none 0 0, .int .i64 0] 29)).alloc (.cells #[.int .i64 4, .int .i64 8, .int .i64 16] 3)) ∧ w.heap.size + 1 < ((w.alloc (.cells #[.slice none 0 0, .slice none 0 0, .int .i64 0] 29)).alloc (.cells #[.int .i64 4, .int .i64 8, .int .i64 16] 3)).heap.size) := by
    refine ⟨Blk.more (Blk.new w _ _) _, fun j hj => ?_, below2 w _ _, by rw [World.size_alloc, World.size_alloc]; omega⟩
    rw [World.cell?_alloc_at _ _ _ _ (by rw [World.size_alloc])]
    exact szL_at j hj
  generalize ((w.alloc (.cells #[.slice none 0 0, .slice none 0 0, .int .i64 0] 29)).alloc (.cells #[.int .i64 4, .int .i64 8, .int .i64 16] 3)) = w0 at F0 ⊢
  obtain ⟨R0, C0, B0, s0⟩ := F0.out
  have P1 := hide1 (pickInt2_any (HD.out.later B0) (w.heap.size + 1) 3 3 (by omega) (by omega) (by omega) (fun j => ((szL.getD j 0 : Nat) : Int)) C0 s0)
  have R0 := hide1 R0
  have B0 := hide1 B0
  clear F0 C0
  refine P1.out.mono ?_
  rintro e w1 ⟨j, hj, rfl, hD1, hg1⟩
  have hsz := szL_in ⟨j, hj⟩
  dsimp only at hsz
  have R1 := hide1 (R0.out.grw hg1 (by omega))
  have D1 := hide1 hD1
  have G1 := hide1 ((gnew B0.out : w.grownBy w0 (some g)).trans hg1)
  generalize szL.getD j 0 = n at *
  have C2 := hide1 (specNewT_any (n : Int) w1)
  clear hD1 hg1 P1 B0 R0 hj
  go_wp2_with fail
  refine C2.out.mono ?_
  rintro e w2 ⟨p, L0, c, p', O0, c', M0, t0, rfl, ha, o1, o2, _, hb2⟩
  have hans : L0 = List.replicate n nC ∧ O0 = [] ∧ M0 = 0 := by
    rcases ha with ⟨_, h2, _⟩ | ⟨h1, _⟩
    · unfold newR at h2
      injection h2 with h2
      injection h2 with e1 e2
      injection e2 with e2 e3
      exact ⟨e1.symm, e2.symm, e3.symm⟩
    · exact absurd ⟨show szOk (n : Int) by unfold szOk; omega, _, rfl⟩ h1
  obtain ⟨rfl, rfl, rfl⟩ := hans
  have S0 : Hid (StT B g w2.heap.size w (w2.alloc (.cells #[.slice p n c, .slice p' 0 c', .int .i64 0] 29)) a len cap (List.replicate n nC) [] 0 p c p' c') := by
    have hs2 := hb2.size
    have hs1 := R1.out.lt
    refine ⟨OkN.new (by omega), ⟨KIn.rep n, KIn.nil⟩, by rw [List.length_replicate]; exact Blk.new w2 29 #[.slice p n c, .slice p' 0 c', .int .i64 0], own_base (o1.alloc _) (by omega), own_base (o2.alloc _) (by omega), fun k hk => by have := (o1.lt k hk).2; omega, fun k hk => by have := (o2.lt k hk).2; omega, (R1.out.below hb2 R1.out.lt).more _, (D1.out.later hb2).later ((Below.refl _ _).alloc (Nat.le_refl _) _), grow_tr G1.out (gnew (hb2.alloc hs2 _)), hgl, by omega⟩
  clear ha o1 o2 hb2 D1 G1 R1 C2
  unfold tbV
  go_wp2
  generalize (w2.alloc (.cells #[.slice p n c, .slice p' 0 c', .int .i64 0] 29)) = w3 at S0 ⊢
  generalize w2.heap.size = A at S0 ⊢
  go_loopw [5] (fun iv wr => ∃ (i : Nat) (l o : List Ce) (m : Nat) (ao : Option Addr) (ca : Nat) (a' : Option Addr) (ca' : Nat), i ≤ 24 ∧ iv = .int .i64 (i : Int) ∧ Hid (StT B g A w wr a len cap l o m ao ca a' ca')) (fun iv _ => 24 - (intOf iv).toNat)
  case atStart => exact ⟨0, _, _, _, _, _, _, _, by omega, rfl, S0⟩
  case round =>
    clear S0 hsz
    obtain ⟨i, l, o, m, ao, ca, a', ca', hi, rfl, hS⟩ := hrel
    have C3 := hide1 (below_any hS.out.drw 24 (by omega))
    go_wp2_with fail
    refine C3.out.mono ?_
    rintro e w4 ⟨y, rfl, hy, _, hD4, hg4⟩
    have hy24 : (y : Int) < 24 := hy (by omega)
    have S4 := hide1 (hS.out.draw hD4 hg4)
    clear hy hD4 hg4 C3 hS
    by_cases c1 : i < y
    · have q1 : (i : Int) < (y : Int) := by omega
      have C5 := hide1 (below_any S4.out.drw 8 (by omega))
      go_wp2_with fail
      refine C5.out.mono ?_
      rintro e w5 ⟨x, rfl, hx, _, hD5, hg5⟩
      have S5 := hide1 (S4.out.draw hD5 hg5)
      clear hx hD5 hg5 C5 S4
      by_cases x0 : x = 0
      · have b0 : ((x : Int) == 0) = true := by simp [x0]
        have C6 := hide1 S5.out.growC
        unfold tbV at C6
        have v0 := S5.out.v0
        have v1 := S5.out.v1
        have v2 := S5.out.v2
        clear x0
        go_wp2_with fail
        refine C6.out.mono ?_
        rintro e w8 ⟨po, pn, pc, p', pm, pc', F, t, rfl, ht, hb8⟩
        have hbA := S5.out.var.lt
        have SX := S5.out.later hb8
        clear v0 v1 v2 hb8 C6
        go_upto_region 11 with fail
        first
        | (have S9 := hide1 (SX.new (.cells #[.slice po pn pc, .slice p' pm pc', .int .i64 F] 29)); have XF := hide1 (Blk.new w8 29 #[.slice po pn pc, .slice p' pm pc', .int .i64 F]); have HT9 : Hid (t = true → ∃ (L O : List Ce) (M : Nat), pn = L.length ∧ pm = O.length ∧ F = (M : Int) ∧ OkN L O (M : Int) ∧ (KIn L ∧ KIn O) ∧ ∃ base, A < base ∧ (w8.alloc (.cells #[.slice po pn pc, .slice p' pm pc', .int .i64 F] 29)).ownsRow base 47 2 (.slice po L.length pc) L.length (ces L) ∧ (w8.alloc (.cells #[.slice po pn pc, .slice p' pm pc', .int .i64 F] 29)).ownsRow base 47 2 (.slice p' O.length pc') O.length (ces O)) := (fun e => by obtain ⟨L, O, M, e1, e2, e3, hok, hkk, ho1, ho2⟩ := ht e; exact ⟨L, O, M, e1, e2, e3, hok, hkk, _, hbA, own_kept ho1 ((Below.refl _ _).alloc (Nat.le_refl _) _), own_kept ho2 ((Below.refl _ _).alloc (Nat.le_refl _) _)⟩); clear ht; generalize (w8.alloc (.cells #[.slice po pn pc, .slice p' pm pc', .int .i64 F] 29)) = w9 at S9 XF HT9 ⊢)
        have z0 : w9.cell? _ = some (.slice po pn pc) := XF.out.cell 0
        have z1 : w9.cell? _ = some (.slice p' pm pc') := XF.out.cell 1
        have z2 : w9.cell? _ = some (.int .i64 F) := XF.out.cell 2
        clear XF
        rcases t with _ | _
        · clear HT9
          go_wp2
          go_roundw
          case rel => exact ⟨i + 1, l, o, m, ao, ca, a', ca', by omega, by go_num, S9⟩
          case measure => simp [intOf]; omega
        · obtain ⟨L, O, M, rfl, rfl, rfl, hok', hkk', base, hba, ho1, ho2⟩ := HT9.out rfl
          have S10 := hide1 (S9.out.put hok' hkk' ho1 ho2 hba)
          unfold put3 at S10
          have t0 := S9.out.v0
          have t1 := S9.out.v1
          have t2 := S9.out.v2
          have ft : ∀ j, w9.frozen? ⟨A, j, none⟩ = false := fun j => S9.out.var.froz j
          clear HT9 hok' hkk' ho1 ho2 S9
          go_wp2
          go_roundw
          case rel => exact ⟨i + 1, L, O, M, po, pc, p', pc', by omega, by go_num, S10⟩
          case measure => simp [intOf]; omega
      · have b0 : ((x : Int) == 0) = false := beq_eq_false_iff_ne.2 (by omega)
        by_cases x1 : x = 1
        · have b1 : ((x : Int) == 1) = true := by simp [x1]
          clear x0
          clear x1
          go_upto_region 15 with fail
          go_region_held3 (fun w' => w'.cell? ⟨A, 0, none⟩ = some (.slice ao l.length ca) ∧ w'.cell? ⟨A, 1, none⟩ = some (.slice a' o.length ca') ∧ w'.cell? ⟨A, 2, none⟩ = some (.int .i64 (m : Int))) (first | exact ⟨(SX.fillX XB _ _ _).v0, (SX.fillX XB _ _ _).v1, (SX.fillX XB _ _ _).v2⟩ | exact ⟨(SX.new _).v0, (SX.new _).v1, (SX.new _).v2⟩ | exact ⟨SX.v0, SX.v1, SX.v2⟩ | exact ⟨(S5.out.drewS.new _).v0, (S5.out.drewS.new _).v1, (S5.out.drewS.new _).v2⟩ | exact ⟨S5.out.v0, S5.out.v1, S5.out.v2⟩) ((first | (go_at_call 36; refine (key2_any S5.out.drewS.drw).mono ?_; rintro e w6 ⟨ky, rfl, hik, hD6, hg6⟩; have SX := S5.out.drewS.draw hD6 hg6) | (go_at_call 36; refine (key2_any (S5.out.drewS.new _).drw).mono ?_; rintro e w6 ⟨ky, rfl, hik, hD6, hg6⟩; have XB : XtT w6 A w5.heap.size _ _ := (XtT.new S5.out.drewS).grow hg6 S5.out.gA; have SX := (S5.out.drewS.new _).draw hD6 hg6) | (go_at_call 61; refine (SX.takeC hik).mono ?_; rintro e w8 ⟨po, pn, pc, p', pm, pc', F, t, rfl, ht, hb8⟩; have hbA := SX.var.lt; (try have hbX := XB.blk.lt); (try (have XB := XB.later hb8; have xc0 := XB.c0; have xc1 := XB.c1; have xc2 := XB.c2; have xcf := XB.fr)); have SX := SX.later hb8) | (go_at_call 61; refine ((SX.new _).takeC hik).mono ?_; rintro e w8 ⟨po, pn, pc, p', pm, pc', F, t, rfl, ht, hb8⟩; have XB := XtT.new SX; have SX := SX.new (.cells #[.slice none 0 0, .slice none 0 0, .int .i64 0] 29); have hbA := SX.var.lt; have hbX := XB.blk.lt; have XB := XB.later hb8; have xc0 := XB.c0; have xc1 := XB.c1; have xc2 := XB.c2; have xcf := XB.fr; have SX := SX.later hb8)))
          all_goals
            first
            | (have S9 := hide1 (SX.fillX XB (.slice po pn pc) (.slice p' pm pc') (.int .i64 F)); have XF := hide1 (put3_blk XB.blk (.slice po pn pc) (.slice p' pm pc') (.int .i64 F)); have HT9 : Hid (t = true → ∃ (L O : List Ce) (M : Nat), pn = L.length ∧ pm = O.length ∧ F = (M : Int) ∧ OkN L O (M : Int) ∧ (KIn L ∧ KIn O) ∧ ∃ base, A < base ∧ (put3 w8 _ (.slice po pn pc) (.slice p' pm pc') (.int .i64 F)).ownsRow base 47 2 (.slice po L.length pc) L.length (ces L) ∧ (put3 w8 _ (.slice po pn pc) (.slice p' pm pc') (.int .i64 F)).ownsRow base 47 2 (.slice p' O.length pc') O.length (ces O)) := (fun e => by obtain ⟨L, O, M, e1, e2, e3, hok, hkk, ho1, ho2⟩ := ht e; exact ⟨L, O, M, e1, e2, e3, hok, hkk, _, hbA, own_fill3 ho1 hbX _ _ _, own_fill3 ho2 hbX _ _ _⟩); unfold put3 at S9 XF HT9; clear hbX XB xc0 xc1 xc2 xcf ht; generalize (((w8.setCell ⟨_, 0, none⟩ (.slice po pn pc)).setCell ⟨_, 1, none⟩ (.slice p' pm pc')).setCell ⟨_, 2, none⟩ (.int .i64 F)) = w9 at S9 XF HT9 ⊢)
            | (have S9 := hide1 (SX.new (.cells #[.slice po pn pc, .slice p' pm pc', .int .i64 F] 29)); have XF := hide1 (Blk.new w8 29 #[.slice po pn pc, .slice p' pm pc', .int .i64 F]); have HT9 : Hid (t = true → ∃ (L O : List Ce) (M : Nat), pn = L.length ∧ pm = O.length ∧ F = (M : Int) ∧ OkN L O (M : Int) ∧ (KIn L ∧ KIn O) ∧ ∃ base, A < base ∧ (w8.alloc (.cells #[.slice po pn pc, .slice p' pm pc', .int .i64 F] 29)).ownsRow base 47 2 (.slice po L.length pc) L.length (ces L) ∧ (w8.alloc (.cells #[.slice po pn pc, .slice p' pm pc', .int .i64 F] 29)).ownsRow base 47 2 (.slice p' O.length pc') O.length (ces O)) := (fun e => by obtain ⟨L, O, M, e1, e2, e3, hok, hkk, ho1, ho2⟩ := ht e; exact ⟨L, O, M, e1, e2, e3, hok, hkk, _, hbA, own_kept ho1 ((Below.refl _ _).alloc (Nat.le_refl _) _), own_kept ho2 ((Below.refl _ _).alloc (Nat.le_refl _) _)⟩); clear ht; generalize (w8.alloc (.cells #[.slice po pn pc, .slice p' pm pc', .int .i64 F] 29)) = w9 at S9 XF HT9 ⊢)
            have z0 : w9.cell? _ = some (.slice po pn pc) := XF.out.cell 0
            have z1 : w9.cell? _ = some (.slice p' pm pc') := XF.out.cell 1
            have z2 : w9.cell? _ = some (.int .i64 F) := XF.out.cell 2
            clear XF
            rcases t with _ | _
            · clear HT9
              go_wp2
              go_roundw
              case rel => exact ⟨i + 1, l, o, m, ao, ca, a', ca', by omega, by go_num, S9⟩
              case measure => simp [intOf]; omega
            · obtain ⟨L, O, M, rfl, rfl, rfl, hok', hkk', base, hba, ho1, ho2⟩ := HT9.out rfl
              have S10 := hide1 (S9.out.put hok' hkk' ho1 ho2 hba)
              unfold put3 at S10
              have t0 := S9.out.v0
              have t1 := S9.out.v1
              have t2 := S9.out.v2
              have ft : ∀ j, w9.frozen? ⟨A, j, none⟩ = false := fun j => S9.out.var.froz j
              clear HT9 hok' hkk' ho1 ho2 S9
              go_wp2
              go_roundw
              case rel => exact ⟨i + 1, L, O, M, po, pc, p', pc', by omega, by go_num, S10⟩
              case measure => simp [intOf]; omega
        · have b1 : ((x : Int) == 1) = false := beq_eq_false_iff_ne.2 (by omega)
          by_cases x2 : x = 2
          · have b2 : ((x : Int) == 2) = true := by simp [x2]
            clear x0 x2
            clear x1
            go_upto_region 15 with fail
            go_region_held3 (fun w' => w'.cell? ⟨A, 0, none⟩ = some (.slice ao l.length ca) ∧ w'.cell? ⟨A, 1, none⟩ = some (.slice a' o.length ca') ∧ w'.cell? ⟨A, 2, none⟩ = some (.int .i64 (m : Int))) (first | exact ⟨(SX.fillX XB _ _ _).v0, (SX.fillX XB _ _ _).v1, (SX.fillX XB _ _ _).v2⟩ | exact ⟨(SX.new _).v0, (SX.new _).v1, (SX.new _).v2⟩ | exact ⟨SX.v0, SX.v1, SX.v2⟩ | exact ⟨(S5.out.drewS.new _).v0, (S5.out.drewS.new _).v1, (S5.out.drewS.new _).v2⟩ | exact ⟨S5.out.v0, S5.out.v1, S5.out.v2⟩) ((first | (go_at_call 36; refine (key2_any S5.out.drewS.drw).mono ?_; rintro e w6 ⟨ky, rfl, hik, hD6, hg6⟩; have SX := S5.out.drewS.draw hD6 hg6) | (go_at_call 36; refine (key2_any (S5.out.drewS.new _).drw).mono ?_; rintro e w6 ⟨ky, rfl, hik, hD6, hg6⟩; have XB : XtT w6 A w5.heap.size _ _ := (XtT.new S5.out.drewS).grow hg6 S5.out.gA; have SX := (S5.out.drewS.new _).draw hD6 hg6) | (go_at_call 61; refine (SX.takeC hik).mono ?_; rintro e w8 ⟨po, pn, pc, p', pm, pc', F, t, rfl, ht, hb8⟩; have hbA := SX.var.lt; (try have hbX := XB.blk.lt); (try (have XB := XB.later hb8; have xc0 := XB.c0; have xc1 := XB.c1; have xc2 := XB.c2; have xcf := XB.fr)); have SX := SX.later hb8) | (go_at_call 61; refine ((SX.new _).takeC hik).mono ?_; rintro e w8 ⟨po, pn, pc, p', pm, pc', F, t, rfl, ht, hb8⟩; have XB := XtT.new SX; have SX := SX.new (.cells #[.slice none 0 0, .slice none 0 0, .int .i64 0] 29); have hbA := SX.var.lt; have hbX := XB.blk.lt; have XB := XB.later hb8; have xc0 := XB.c0; have xc1 := XB.c1; have xc2 := XB.c2; have xcf := XB.fr; have SX := SX.later hb8)))
            all_goals
              first
              | (have S9 := hide1 (SX.fillX XB (.slice po pn pc) (.slice p' pm pc') (.int .i64 F)); have XF := hide1 (put3_blk XB.blk (.slice po pn pc) (.slice p' pm pc') (.int .i64 F)); have HT9 : Hid (t = true → ∃ (L O : List Ce) (M : Nat), pn = L.length ∧ pm = O.length ∧ F = (M : Int) ∧ OkN L O (M : Int) ∧ (KIn L ∧ KIn O) ∧ ∃ base, A < base ∧ (put3 w8 _ (.slice po pn pc) (.slice p' pm pc') (.int .i64 F)).ownsRow base 47 2 (.slice po L.length pc) L.length (ces L) ∧ (put3 w8 _ (.slice po pn pc) (.slice p' pm pc') (.int .i64 F)).ownsRow base 47 2 (.slice p' O.length pc') O.length (ces O)) := (fun e => by obtain ⟨L, O, M, e1, e2, e3, hok, hkk, ho1, ho2⟩ := ht e; exact ⟨L, O, M, e1, e2, e3, hok, hkk, _, hbA, own_fill3 ho1 hbX _ _ _, own_fill3 ho2 hbX _ _ _⟩); unfold put3 at S9 XF HT9; clear hbX XB xc0 xc1 xc2 xcf ht; generalize (((w8.setCell ⟨_, 0, none⟩ (.slice po pn pc)).setCell ⟨_, 1, none⟩ (.slice p' pm pc')).setCell ⟨_, 2, none⟩ (.int .i64 F)) = w9 at S9 XF HT9 ⊢)
              | (have S9 := hide1 (SX.new (.cells #[.slice po pn pc, .slice p' pm pc', .int .i64 F] 29)); have XF := hide1 (Blk.new w8 29 #[.slice po pn pc, .slice p' pm pc', .int .i64 F]); have HT9 : Hid (t = true → ∃ (L O : List Ce) (M : Nat), pn = L.length ∧ pm = O.length ∧ F = (M : Int) ∧ OkN L O (M : Int) ∧ (KIn L ∧ KIn O) ∧ ∃ base, A < base ∧ (w8.alloc (.cells #[.slice po pn pc, .slice p' pm pc', .int .i64 F] 29)).ownsRow base 47 2 (.slice po L.length pc) L.length (ces L) ∧ (w8.alloc (.cells #[.slice po pn pc, .slice p' pm pc', .int .i64 F] 29)).ownsRow base 47 2 (.slice p' O.length pc') O.length (ces O)) := (fun e => by obtain ⟨L, O, M, e1, e2, e3, hok, hkk, ho1, ho2⟩ := ht e; exact ⟨L, O, M, e1, e2, e3, hok, hkk, _, hbA, own_kept ho1 ((Below.refl _ _).alloc (Nat.le_refl _) _), own_kept ho2 ((Below.refl _ _).alloc (Nat.le_refl _) _)⟩); clear ht; generalize (w8.alloc (.cells #[.slice po pn pc, .slice p' pm pc', .int .i64 F] 29)) = w9 at S9 XF HT9 ⊢)
              have z0 : w9.cell? _ = some (.slice po pn pc) := XF.out.cell 0
              have z1 : w9.cell? _ = some (.slice p' pm pc') := XF.out.cell 1
              have z2 : w9.cell? _ = some (.int .i64 F) := XF.out.cell 2
              clear XF
              rcases t with _ | _
              · clear HT9
                go_wp2
                go_roundw
                case rel => exact ⟨i + 1, l, o, m, ao, ca, a', ca', by omega, by go_num, S9⟩
                case measure => simp [intOf]; omega
              · obtain ⟨L, O, M, rfl, rfl, rfl, hok', hkk', base, hba, ho1, ho2⟩ := HT9.out rfl
                have S10 := hide1 (S9.out.put hok' hkk' ho1 ho2 hba)
                unfold put3 at S10
                have t0 := S9.out.v0
                have t1 := S9.out.v1
                have t2 := S9.out.v2
                have ft : ∀ j, w9.frozen? ⟨A, j, none⟩ = false := fun j => S9.out.var.froz j
                clear HT9 hok' hkk' ho1 ho2 S9
                go_wp2
                go_roundw
                case rel => exact ⟨i + 1, L, O, M, po, pc, p', pc', by omega, by go_num, S10⟩
                case measure => simp [intOf]; omega
          · have b2 : ((x : Int) == 2) = false := beq_eq_false_iff_ne.2 (by omega)
            by_cases x3 : x = 3
            · have b3 : ((x : Int) == 3) = true := by simp [x3]
              clear x0 x1 x2 x3
              have v0 := S5.out.v0
              have v1 := S5.out.v1
              have v2 := S5.out.v2
              go_upto_region 19 with fail
              go_region_with (first | (go_at_call 32; refine (below_any S5.out.drewS.drw 4 (by omega)).mono ?_; rintro e w6 ⟨z, rfl, hz, _, hD6, hg6⟩; have hz4 : z ≤ 1000 := (by have := hz (by omega); omega); have SX := S5.out.drewS.draw hD6 hg6; have sx0 := SX.v0; have sx1 := SX.v1; have sx2 := SX.v2) | (go_at_call 62; refine (SX.moveC z hz4).mono ?_; rintro e w8 ⟨b, c, b', c', L, O, M, rfl, hok', hkk', ho1, ho2, hb8⟩; have hbA := SX.var.lt; have SX := SX.later hb8; have sx0 := SX.v0; have sx1 := SX.v1; have sx2 := SX.v2; have sxf := SX.var.froz))
              all_goals
                have S9 := hide1 (SX.put hok' hkk' ho1 ho2 hbA)
                unfold put3 at S9
                clear sx0 sx1 sx2 sxf SX hok' hkk' ho1 ho2
                go_wp2
                go_roundw
                case rel => exact ⟨i + 1, L, O, M, _, c, _, c', by omega, by go_num, S9⟩
                case measure => simp [intOf]; omega
            · have b3 : ((x : Int) == 3) = false := beq_eq_false_iff_ne.2 (by omega)
              clear x0 x1 x2 x3
              go_upto_region 6 with fail
              go_region_held3 (fun w' => w'.cell? ⟨A, 0, none⟩ = some (.slice ao l.length ca) ∧ w'.cell? ⟨A, 1, none⟩ = some (.slice a' o.length ca') ∧ w'.cell? ⟨A, 2, none⟩ = some (.int .i64 (m : Int))) (first | exact ⟨(SX.fillX XB _ _ _).v0, (SX.fillX XB _ _ _).v1, (SX.fillX XB _ _ _).v2⟩ | exact ⟨(SX.new _).v0, (SX.new _).v1, (SX.new _).v2⟩ | exact ⟨SX.v0, SX.v1, SX.v2⟩ | exact ⟨(S5.out.drewS.new _).v0, (S5.out.drewS.new _).v1, (S5.out.drewS.new _).v2⟩ | exact ⟨S5.out.v0, S5.out.v1, S5.out.v2⟩) ((first | (go_at_call 36; refine (key2_any S5.out.drewS.drw).mono ?_; rintro e w6 ⟨ky, rfl, hik, hD6, hg6⟩; have SX := S5.out.drewS.draw hD6 hg6) | (go_at_call 36; refine (key2_any (S5.out.drewS.new _).drw).mono ?_; rintro e w6 ⟨ky, rfl, hik, hD6, hg6⟩; have XB : XtT w6 A w5.heap.size _ _ := (XtT.new S5.out.drewS).grow hg6 S5.out.gA; have SX := (S5.out.drewS.new _).draw hD6 hg6) | (go_at_call 32; refine (below_any SX.drw 50 (by omega)).mono ?_; rintro e w7 ⟨vl, rfl, _, _, hD7, hg7⟩; (try have XB := XB.grow hg7 SX.gA); have SX := SX.draw hD7 hg7) | (go_at_call 32; refine (below_any (SX.new _).drw 50 (by omega)).mono ?_; rintro e w7 ⟨vl, rfl, _, _, hD7, hg7⟩; have XB := (XtT.new SX).grow hg7 SX.gA; have SX := (SX.new _).draw hD7 hg7) | (go_at_call 14; refine (SX.putC hik vl).mono ?_; rintro e w8 ⟨po, pn, pc, p', pm, pc', F, t, rfl, ht, hb8⟩; have hbA := SX.var.lt; (try have hbX := XB.blk.lt); (try (have XB := XB.later hb8; have xc0 := XB.c0; have xc1 := XB.c1; have xc2 := XB.c2; have xcf := XB.fr)); have SX := SX.later hb8) | (go_at_call 14; refine ((SX.new _).putC hik vl).mono ?_; rintro e w8 ⟨po, pn, pc, p', pm, pc', F, t, rfl, ht, hb8⟩; have XB := XtT.new SX; have SX := SX.new (.cells #[.slice none 0 0, .slice none 0 0, .int .i64 0] 29); have hbA := SX.var.lt; have hbX := XB.blk.lt; have XB := XB.later hb8; have xc0 := XB.c0; have xc1 := XB.c1; have xc2 := XB.c2; have xcf := XB.fr; have SX := SX.later hb8)))
              all_goals
                first
                | (have S9 := hide1 (SX.fillX XB (.slice po pn pc) (.slice p' pm pc') (.int .i64 F)); have XF := hide1 (put3_blk XB.blk (.slice po pn pc) (.slice p' pm pc') (.int .i64 F)); have HT9 : Hid (t = true → ∃ (L O : List Ce) (M : Nat), pn = L.length ∧ pm = O.length ∧ F = (M : Int) ∧ OkN L O (M : Int) ∧ (KIn L ∧ KIn O) ∧ ∃ base, A < base ∧ (put3 w8 _ (.slice po pn pc) (.slice p' pm pc') (.int .i64 F)).ownsRow base 47 2 (.slice po L.length pc) L.length (ces L) ∧ (put3 w8 _ (.slice po pn pc) (.slice p' pm pc') (.int .i64 F)).ownsRow base 47 2 (.slice p' O.length pc') O.length (ces O)) := (fun e => by obtain ⟨L, O, M, e1, e2, e3, hok, hkk, ho1, ho2⟩ := ht e; exact ⟨L, O, M, e1, e2, e3, hok, hkk, _, hbA, own_fill3 ho1 hbX _ _ _, own_fill3 ho2 hbX _ _ _⟩); unfold put3 at S9 XF HT9; clear hbX XB xc0 xc1 xc2 xcf ht; generalize (((w8.setCell ⟨_, 0, none⟩ (.slice po pn pc)).setCell ⟨_, 1, none⟩ (.slice p' pm pc')).setCell ⟨_, 2, none⟩ (.int .i64 F)) = w9 at S9 XF HT9 ⊢)
                | (have S9 := hide1 (SX.new (.cells #[.slice po pn pc, .slice p' pm pc', .int .i64 F] 29)); have XF := hide1 (Blk.new w8 29 #[.slice po pn pc, .slice p' pm pc', .int .i64 F]); have HT9 : Hid (t = true → ∃ (L O : List Ce) (M : Nat), pn = L.length ∧ pm = O.length ∧ F = (M : Int) ∧ OkN L O (M : Int) ∧ (KIn L ∧ KIn O) ∧ ∃ base, A < base ∧ (w8.alloc (.cells #[.slice po pn pc, .slice p' pm pc', .int .i64 F] 29)).ownsRow base 47 2 (.slice po L.length pc) L.length (ces L) ∧ (w8.alloc (.cells #[.slice po pn pc, .slice p' pm pc', .int .i64 F] 29)).ownsRow base 47 2 (.slice p' O.length pc') O.length (ces O)) := (fun e => by obtain ⟨L, O, M, e1, e2, e3, hok, hkk, ho1, ho2⟩ := ht e; exact ⟨L, O, M, e1, e2, e3, hok, hkk, _, hbA, own_kept ho1 ((Below.refl _ _).alloc (Nat.le_refl _) _), own_kept ho2 ((Below.refl _ _).alloc (Nat.le_refl _) _)⟩); clear ht; generalize (w8.alloc (.cells #[.slice po pn pc, .slice p' pm pc', .int .i64 F] 29)) = w9 at S9 XF HT9 ⊢)
                have z0 : w9.cell? _ = some (.slice po pn pc) := XF.out.cell 0
                have z1 : w9.cell? _ = some (.slice p' pm pc') := XF.out.cell 1
                have z2 : w9.cell? _ = some (.int .i64 F) := XF.out.cell 2
                clear XF
                rcases t with _ | _
                · clear HT9
                  go_wp2
                  go_roundw
                  case rel => exact ⟨i + 1, l, o, m, ao, ca, a', ca', by omega, by go_num, S9⟩
                  case measure => simp [intOf]; omega
                · obtain ⟨L, O, M, rfl, rfl, rfl, hok', hkk', base, hba, ho1, ho2⟩ := HT9.out rfl
                  have S10 := hide1 (S9.out.put hok' hkk' ho1 ho2 hba)
                  unfold put3 at S10
                  have t0 := S9.out.v0
                  have t1 := S9.out.v1
                  have t2 := S9.out.v2
                  have ft : ∀ j, w9.frozen? ⟨A, j, none⟩ = false := fun j => S9.out.var.froz j
                  clear HT9 hok' hkk' ho1 ho2 S9
                  go_wp2
                  go_roundw
                  case rel => exact ⟨i + 1, L, O, M, po, pc, p', pc', by omega, by go_num, S10⟩
                  case measure => simp [intOf]; omega
    · have q1 : decide ((i : Int) < (y : Int)) = false := decide_eq_false (by omega)
      have v0 := S4.out.v0
      have v1 := S4.out.v1
      have v2 := S4.out.v2
      have r0 : w4.cell? ⟨w.heap.size, 0, none⟩ = some (.slice none 0 0) := S4.out.res.cell 0
      have r1 : w4.cell? ⟨w.heap.size, 1, none⟩ = some (.slice none 0 0) := S4.out.res.cell 1
      have r2 : w4.cell? ⟨w.heap.size, 2, none⟩ = some (.int .i64 0) := S4.out.res.cell 2
      have rf : ∀ j, w4.frozen? ⟨w.heap.size, j, none⟩ = false := fun j => S4.out.res.froz j
      have HH := hide1 (put3_blk S4.out.res (.slice ao l.length ca) (.slice a' o.length ca') (.int .i64 (m : Int)))
      have HN := hide1 (S4.out.done (.slice ao l.length ca) (.slice a' o.length ca') (.int .i64 (m : Int)))
      have HK := hide1 (And.intro S4.out.ok S4.out.kin)
      unfold put3 at HH HN
      clear S4
      go_wp2
      refine bodyPost_ret (results_cell_row Try.results35 _ _ w.heap.size 29 #[.slice ao l.length ca, .slice a' o.length ca', .int .i64 (m : Int)] (0, 0) _ rfl HH.out Try.underlying29 rfl (by kernel_rfl)) rfl ?_
      exact ⟨l, o, m, ao, ca, a', ca', rfl, HK.out.1, HK.out.2, HN.out⟩
end Go.Proofs.Ytinjohpeanlalaa
