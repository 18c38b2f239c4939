/- What the laws mark and hold of a member. -/
import Derived.Test.YtpjgplohlchpoaaGreatDoorToMb
import Derived.Test.YtpjgplohlchpoaaGreatDoorUAJ
import Derived.Test.YtpjgplohlchpoaaGreatDoorUAD
import Derived.Laws.Rows
import Derived.Laws.Tables
import Derived.Deep.RegionHeld3
namespace Go.Proofs.YtpjgplohlchpoaaGreatDoor
open Go.RowKit
set_option linter.unusedVariables false

/-- A member whose rows are marked from q on. -/
def mkMb (m : Mb) (q : Nat) : Mb := { m with wa := patZ q m.wa.length, is := patG mIm 3 (q + m.wa.length) m.is.length, tk := { m.tk with lf := patZ (q + m.wa.length + 3 * m.is.length) m.tk.lf.length } }
/-- A block that holds none of a member's rows. -/
def OffMb (m : Mb) (A : MA) (g : Nat) : Prop := (Value.slice A.wa m.wa.length A.wc).ownBlock ≠ some g ∧ (Value.slice A.ia m.is.length A.ic).ownBlock ≠ some g ∧ (Value.slice A.la m.tk.lf.length A.lc).ownBlock ≠ some g
theorem OwnMb.off {w : World} {B g : Nat} {m : Mb} {A : MA} (h : OwnMb w B m A) (hg : g < B ∨ w.heap.size ≤ g) : OffMb m A g := ⟨fun e => by have := h.wo.lt g e; omega, fun e => by have := h.io.lt g e; omega, fun e => by have := h.lo.lt g e; omega⟩
def mkN (m : Mb) (q : Nat) : Nat := q + m.wa.length + 3 * m.is.length + m.tk.lf.length
theorem own_blk {w : World} {B n k : Nat} {e : TypeId} {v : Value} {xs : List Value} (h : w.ownsRow B e k v n xs) : ∀ g, v.ownBlock = some g → B ≤ g := fun g hg => (h.lt g hg).1
set_option maxRecDepth 100000 in
set_option maxHeartbeats 2000000 in
theorem markTask_any (t : Tk) (a : Option Addr) (ca q B : Nat) (w : World) (hn : t.lf.length ≤ 1048576) (hq : q ≤ 67108864) (hown : w.ownsRow B 3 1 (.slice a t.lf.length ca) t.lf.length (iz t.lf)) :
    Calls Tryz.prog 40 #[.agg #[.int .i64 t.op, .int .i64 t.cl, .int .i64 t.nu, .string t.it.k, .string t.it.v, .int .i64 t.it.n, .slice a t.lf.length ca], .int .i64 (q : Int)] w fun r w' => r = .returned (.int .i64 ((q : Int) + (t.lf.length : Int))) ∧ w'.ownsRow B 3 1 (.slice a t.lf.length ca) t.lf.length (iz (patZ q t.lf.length)) ∧ w.grownBy w' (Value.slice a t.lf.length ca).ownBlock := by
  have F0 := hide1 (And.intro (Blk.new w 36 #[.int .i64 t.op, .int .i64 t.cl, .int .i64 t.nu, .string t.it.k, .string t.it.v, .int .i64 t.it.n, .slice a t.lf.length ca]) ((Below.refl w.heap.size w).alloc (Nat.le_refl _) (.cells #[.int .i64 t.op, .int .i64 t.cl, .int .i64 t.nu, .string t.it.k, .string t.it.v, .int .i64 t.it.n, .slice a t.lf.length ca] 36)))
  have HO := hide1 hown
  clear hown
  go_enter Tryz.func40, Tryz.ntmps40
  go_upto_region 1 with fail
  generalize (w.alloc (.cells #[.int .i64 t.op, .int .i64 t.cl, .int .i64 t.nu, .string t.it.k, .string t.it.v, .int .i64 t.it.n, .slice a t.lf.length ca] 36)) = u at F0 ⊢
  have y6 : u.cell? ⟨w.heap.size, 6, none⟩ = some (.slice a t.lf.length ca) := F0.out.1.cell 6
  have O1 := hide1 (own_kept HO.out F0.out.2)
  go_wp2_with fail
  refine (markIntS_any a ca q B t.lf u hn hq O1.out).mono ?_
  rintro r w1 ⟨rfl, ho, hg⟩
  have H1 := hide1 ho
  have G1 := hide1 (gtrans (gnew F0.out.2) hg)
  clear ho hg y6
  go_wp2
  go_ret
  exact ⟨rfl, H1.out, G1.out⟩
set_option maxRecDepth 100000 in
set_option maxHeartbeats 2000000 in
theorem heldTask_any (t : Tk) (a : Option Addr) (n ca q : Nat) (w : World) (hn : n ≤ 1048576) (hq : q ≤ 67108864) (hA : RdZ w a (patZ q n)) :
    Calls Tryz.prog 43 #[.agg #[.int .i64 t.op, .int .i64 t.cl, .int .i64 t.nu, .string t.it.k, .string t.it.v, .int .i64 t.it.n, .slice a n ca], .int .i64 (q : Int)] w fun r w' => r = .returned (.int .i64 ((q : Int) + (n : Int))) ∧ Below w.heap.size w w' := by
  have F0 := hide1 (And.intro (Blk.new w 36 #[.int .i64 t.op, .int .i64 t.cl, .int .i64 t.nu, .string t.it.k, .string t.it.v, .int .i64 t.it.n, .slice a n ca]) ((Below.refl w.heap.size w).alloc (Nat.le_refl _) (.cells #[.int .i64 t.op, .int .i64 t.cl, .int .i64 t.nu, .string t.it.k, .string t.it.v, .int .i64 t.it.n, .slice a n ca] 36)))
  have HO := hide1 hA
  have q1 : ¬ ((q : Int) + (n : Int) < 0) := by omega
  clear hA
  go_enter Tryz.func43, Tryz.ntmps43
  go_upto_region 1 with fail
  generalize (w.alloc (.cells #[.int .i64 t.op, .int .i64 t.cl, .int .i64 t.nu, .string t.it.k, .string t.it.v, .int .i64 t.it.n, .slice a n ca] 36)) = u at F0 ⊢
  have y6 : u.cell? ⟨w.heap.size, 6, none⟩ = some (.slice a n ca) := F0.out.1.cell 6
  have HU := hide1 (HO.out.later F0.out.2)
  have B1 := hide1 F0.out.2
  clear F0
  go_wp2_with fail
  refine (heldIntS_any a n ca q u hn hq HU.out).mono ?_
  rintro r w1 ⟨rfl, rfl⟩
  clear y6
  go_wp2
  go_ret
  exact ⟨rfl, B1.out⟩
set_option maxRecDepth 100000 in
set_option maxHeartbeats 2000000 in
theorem markMember_own (m : Mb) (A : MA) (q B : Nat) (w : World) (hl : SzMb m) (hq : q ≤ 16777216) (hq0 : 0 < q) (hB : B ≤ w.heap.size) (hown : OwnMb w B m A) :
    Calls Tryz.prog 13 #[.agg #[.int .i64 m.id, .int .i64 m.ep, .bool m.fe, .bool m.ba, .bool m.le, .bool m.se, .slice A.wa m.wa.length A.wc, .slice A.ia m.is.length A.ic, .int .i64 m.cn, .int .i64 m.tk.op, .int .i64 m.tk.cl, .int .i64 m.tk.nu, .string m.tk.it.k, .string m.tk.it.v, .int .i64 m.tk.it.n, .slice A.la m.tk.lf.length A.lc], .int .i64 (q : Int)] w fun r w' => r = .returned (.int .i64 (mkN m q : Int)) ∧ OwnMb w' B (mkMb m q) A ∧ Below B w w' ∧ (∀ g t cs, Blk w g t cs → OffMb m A g → Blk w' g t cs) := by
  have F0 := hide1 (And.intro (Blk.new w 38 #[.int .i64 m.id, .int .i64 m.ep, .bool m.fe, .bool m.ba, .bool m.le, .bool m.se, .slice A.wa m.wa.length A.wc, .slice A.ia m.is.length A.ic, .int .i64 m.cn, .int .i64 m.tk.op, .int .i64 m.tk.cl, .int .i64 m.tk.nu, .string m.tk.it.k, .string m.tk.it.v, .int .i64 m.tk.it.n, .slice A.la m.tk.lf.length A.lc]) ((Below.refl w.heap.size w).alloc (Nat.le_refl _) (.cells #[.int .i64 m.id, .int .i64 m.ep, .bool m.fe, .bool m.ba, .bool m.le, .bool m.se, .slice A.wa m.wa.length A.wc, .slice A.ia m.is.length A.ic, .int .i64 m.cn, .int .i64 m.tk.op, .int .i64 m.tk.cl, .int .i64 m.tk.nu, .string m.tk.it.k, .string m.tk.it.v, .int .i64 m.tk.it.n, .slice A.la m.tk.lf.length A.lc] 38)))
  obtain ⟨h1, h2, h3⟩ := hl
  obtain ⟨Ow, Oi, Ol, d1, d2, d3⟩ := hown
  have bw := own_blk Ow
  have bi := own_blk Oi
  have bl := own_blk Ol
  have lw := fun g hg => (Ow.lt g hg).2
  have li := fun g hg => (Oi.lt g hg).2
  have ll := fun g hg => (Ol.lt g hg).2
  have OW := hide1 Ow
  have OI := hide1 Oi
  have OL := hide1 Ol
  have DD := hide1 (And.intro d1 (And.intro d2 d3))
  have BBB := hide1 (And.intro bw (And.intro bi bl))
  have LLL := hide1 (And.intro lw (And.intro li ll))
  obtain ⟨qa, hqa⟩ : ∃ z : Nat, z = q + m.wa.length := ⟨_, rfl⟩
  obtain ⟨qb, hqb⟩ : ∃ z : Nat, z = q + m.wa.length + 3 * m.is.length := ⟨_, rfl⟩
  have e1 : (q : Int) + (m.wa.length : Int) = (qa : Int) := by omega
  have e2 : (qa : Int) + 3 * (m.is.length : Int) = (qb : Int) := by omega
  have ba : qa ≤ 33554432 := by omega
  have bb : qb ≤ 67108864 := by omega
  have b0 : 0 < qa := by omega
  have HE := hide1 (And.intro hqa hqb)
  have E1h := hide1 e1
  have E2h := hide1 e2
  clear hqa hqb e1 e2
  clear Ow Oi Ol d1 d2 d3 bw bi bl lw li ll
  go_enter Tryz.func13, Tryz.ntmps13
  go_upto_region 1 with fail
  generalize (w.alloc (.cells #[.int .i64 m.id, .int .i64 m.ep, .bool m.fe, .bool m.ba, .bool m.le, .bool m.se, .slice A.wa m.wa.length A.wc, .slice A.ia m.is.length A.ic, .int .i64 m.cn, .int .i64 m.tk.op, .int .i64 m.tk.cl, .int .i64 m.tk.nu, .string m.tk.it.k, .string m.tk.it.v, .int .i64 m.tk.it.n, .slice A.la m.tk.lf.length A.lc] 38)) = u at F0 ⊢
  obtain ⟨X, hX⟩ : ∃ G, G = w.heap.size := ⟨_, rfl⟩
  have KX := hide1 F0.out.1
  rw [← hX] at KX ⊢
  have BU := hide1 F0.out.2
  have HX := hide1 hX
  clear F0 hX
  have y6 : u.cell? ⟨X, 6, none⟩ = some (.slice A.wa m.wa.length A.wc) := KX.out.cell 6
  have O1 := hide1 (own_kept OW.out BU.out)
  have O2 := hide1 (own_kept OI.out BU.out)
  have O3 := hide1 (own_kept OL.out BU.out)
  have CM := hide1 (markIntS_any A.wa A.wc q B m.wa u h1 (by omega) O1.out)
  rw [E1h.out] at CM
  go_wp2_with fail
  refine CM.out.mono ?_
  rintro r w1 ⟨rfl, ho, hg⟩
  clear CM
  have P1 := hide1 ho
  have P2 := hide1 (gown hg O2.out (fun k hk e => DD.out.1 k e hk))
  have P3 := hide1 (gown hg O3.out (fun k hk e => DD.out.2.1 k e hk))
  have K1 := hide1 (gblk hg KX.out (fun e => by have := LLL.out.1 X e; have := HX.out; omega))
  have B1 := hide1 ((BU.out.mono hB).trans (gbelow hg (fun g hg => BBB.out.1 g hg) (by have := BU.out.size; omega)))
  have s1 : u.heap.size ≤ w1.heap.size := hg.size
  have Z1 := hide1 (fun g t cs (h : Blk w g t cs) (o : OffMb m A g) => gblk hg (h.below BU.out h.lt) (fun e => o.1 e))
  clear ho hg y6 O1 O2 O3 KX
  have y7 : w1.cell? ⟨X, 7, none⟩ = some (.slice A.ia m.is.length A.ic) := K1.out.cell 7
  have CM := hide1 (markItemS_any (.slice A.ia m.is.length A.ic) m.is.length qa (rowG imC m.is) B w1 h2 ba b0 P2.out)
  rw [E2h.out] at CM
  go_wp2_with fail
  refine CM.out.mono ?_
  rintro r w2 ⟨rfl, ho, hg⟩
  clear CM
  have R1 := hide1 (gown hg P1.out (fun k hk e => DD.out.1 k hk e))
  have R2 := hide1 ho
  have R3 := hide1 (gown hg P3.out (fun k hk e => DD.out.2.2 k e hk))
  have K2 := hide1 (gblk hg K1.out (fun e => by have := LLL.out.2.1 X e; have := HX.out; omega))
  have B2 := hide1 (B1.out.trans (gbelow hg (fun g hg => BBB.out.2.1 g hg) (by have := BU.out.size; omega)))
  have s2 : w1.heap.size ≤ w2.heap.size := hg.size
  have Z2 := hide1 (fun g t cs (h : Blk w g t cs) (o : OffMb m A g) => gblk hg (Z1.out g t cs h o) (fun e => o.2.1 e))
  clear ho hg y7 P1 P2 P3 K1 B1
  have y9 : w2.cell? ⟨X, 9, none⟩ = some (.int .i64 m.tk.op) := K2.out.cell 9
  have y10 : w2.cell? ⟨X, 10, none⟩ = some (.int .i64 m.tk.cl) := K2.out.cell 10
  have y11 : w2.cell? ⟨X, 11, none⟩ = some (.int .i64 m.tk.nu) := K2.out.cell 11
  have y12 : w2.cell? ⟨X, 12, none⟩ = some (.string m.tk.it.k) := K2.out.cell 12
  have y13 : w2.cell? ⟨X, 13, none⟩ = some (.string m.tk.it.v) := K2.out.cell 13
  have y14 : w2.cell? ⟨X, 14, none⟩ = some (.int .i64 m.tk.it.n) := K2.out.cell 14
  have y15 : w2.cell? ⟨X, 15, none⟩ = some (.slice A.la m.tk.lf.length A.lc) := K2.out.cell 15
  go_wp2_with fail
  refine (markTask_any m.tk A.la A.lc qb B w2 h3 bb R3.out).mono ?_
  rintro r w3 ⟨rfl, ho, hg⟩
  have S1 := hide1 (gown hg R1.out (fun k hk e => DD.out.2.1 k hk e))
  have S2 := hide1 (gown hg R2.out (fun k hk e => DD.out.2.2 k hk e))
  have S3 := hide1 ho
  have B3 := hide1 (B2.out.trans (gbelow hg (fun g hg => BBB.out.2.2 g hg) (by have := BU.out.size; omega)))
  have Z3 := hide1 (fun g t cs (h : Blk w g t cs) (o : OffMb m A g) => gblk hg (Z2.out g t cs h o) (fun e => o.2.2 e))
  clear ho hg R1 R2 R3 K2 B2 y9 y10 y11 y12 y13 y14 y15
  go_wp2
  go_ret
  obtain ⟨hqa, hqb⟩ := HE.out
  rw [hqa] at S2
  rw [hqb] at S3
  have E1 : (patZ q m.wa.length).length = m.wa.length := patZ_length _ _
  have E2 : (patG mIm 3 (q + m.wa.length) m.is.length).length = m.is.length := patG_length _ _ _ _
  have E3 : (patZ (q + m.wa.length + 3 * m.is.length) m.tk.lf.length).length = m.tk.lf.length := patZ_length _ _
  refine ⟨by unfold mkN; show Ending.returned (.int .i64 ((qb : Int) + (m.tk.lf.length : Int))) = _; rw [hqb]; congr 2, ⟨?_, ?_, ?_, ?_, ?_, ?_⟩, B3.out, Z3.out⟩
  · unfold mkMb; dsimp only; rw [E1]; exact S1.out
  · unfold mkMb; dsimp only; rw [E2]; exact S2.out
  · unfold mkMb; dsimp only; rw [E3]; exact S3.out
  · unfold mkMb; dsimp only; rw [E1, E2]; exact DD.out.1
  · unfold mkMb; dsimp only; rw [E1, E3]; exact DD.out.2.1
  · unfold mkMb; dsimp only; rw [E2, E3]; exact DD.out.2.2
set_option maxRecDepth 100000 in
set_option maxHeartbeats 2000000 in
theorem heldMember_own (m : Mb) (A : MA) (q : Nat) (w : World) (hl : SzMb m) (hq : q ≤ 16777216) (hq0 : 0 < q) (hA : RdMb w (mkMb m q) A) :
    Calls Tryz.prog 16 #[.agg #[.int .i64 m.id, .int .i64 m.ep, .bool m.fe, .bool m.ba, .bool m.le, .bool m.se, .slice A.wa m.wa.length A.wc, .slice A.ia m.is.length A.ic, .int .i64 m.cn, .int .i64 m.tk.op, .int .i64 m.tk.cl, .int .i64 m.tk.nu, .string m.tk.it.k, .string m.tk.it.v, .int .i64 m.tk.it.n, .slice A.la m.tk.lf.length A.lc], .int .i64 (q : Int)] w fun r w' => r = .returned (.int .i64 (mkN m q : Int)) ∧ Below w.heap.size w w' := by
  have F0 := hide1 (And.intro (Blk.new w 38 #[.int .i64 m.id, .int .i64 m.ep, .bool m.fe, .bool m.ba, .bool m.le, .bool m.se, .slice A.wa m.wa.length A.wc, .slice A.ia m.is.length A.ic, .int .i64 m.cn, .int .i64 m.tk.op, .int .i64 m.tk.cl, .int .i64 m.tk.nu, .string m.tk.it.k, .string m.tk.it.v, .int .i64 m.tk.it.n, .slice A.la m.tk.lf.length A.lc]) ((Below.refl w.heap.size w).alloc (Nat.le_refl _) (.cells #[.int .i64 m.id, .int .i64 m.ep, .bool m.fe, .bool m.ba, .bool m.le, .bool m.se, .slice A.wa m.wa.length A.wc, .slice A.ia m.is.length A.ic, .int .i64 m.cn, .int .i64 m.tk.op, .int .i64 m.tk.cl, .int .i64 m.tk.nu, .string m.tk.it.k, .string m.tk.it.v, .int .i64 m.tk.it.n, .slice A.la m.tk.lf.length A.lc] 38)))
  obtain ⟨h1, h2, h3⟩ := hl
  obtain ⟨r1, r2, r3⟩ := hA
  unfold mkMb at r1 r2 r3
  dsimp only at r1 r2 r3
  have R1 := hide1 r1
  have R2 := hide1 r2
  have R3 := hide1 r3
  obtain ⟨qa, hqa⟩ : ∃ z : Nat, z = q + m.wa.length := ⟨_, rfl⟩
  obtain ⟨qb, hqb⟩ : ∃ z : Nat, z = q + m.wa.length + 3 * m.is.length := ⟨_, rfl⟩
  have e1 : (q : Int) + (m.wa.length : Int) = (qa : Int) := by omega
  have e2 : (qa : Int) + 3 * (m.is.length : Int) = (qb : Int) := by omega
  have ba : qa ≤ 33554432 := by omega
  have bb : qb ≤ 67108864 := by omega
  have b0 : 0 < qa := by omega
  have HE := hide1 (And.intro hqa hqb)
  have E1h := hide1 e1
  have E2h := hide1 e2
  have q1 : ¬ ((qa : Int) < 0) := by omega
  have q2 : ¬ ((qb : Int) < 0) := by omega
  have q3 : ¬ ((qb : Int) + (m.tk.lf.length : Int) < 0) := by omega
  rw [← hqa] at R2
  rw [← hqb] at R3
  clear r1 r2 r3 hqa hqb e1 e2
  go_enter Tryz.func16, Tryz.ntmps16
  go_upto_region 1 with fail
  generalize (w.alloc (.cells #[.int .i64 m.id, .int .i64 m.ep, .bool m.fe, .bool m.ba, .bool m.le, .bool m.se, .slice A.wa m.wa.length A.wc, .slice A.ia m.is.length A.ic, .int .i64 m.cn, .int .i64 m.tk.op, .int .i64 m.tk.cl, .int .i64 m.tk.nu, .string m.tk.it.k, .string m.tk.it.v, .int .i64 m.tk.it.n, .slice A.la m.tk.lf.length A.lc] 38)) = u at F0 ⊢
  obtain ⟨X, hX⟩ : ∃ G, G = w.heap.size := ⟨_, rfl⟩
  have KX := hide1 F0.out.1
  rw [← hX] at KX ⊢
  have BU := hide1 F0.out.2
  clear F0 hX
  have y6 : u.cell? ⟨X, 6, none⟩ = some (.slice A.wa m.wa.length A.wc) := KX.out.cell 6
  have S1 := hide1 (R1.out.later BU.out)
  have S2 := hide1 (R2.out.later BU.out)
  have S3 := hide1 (R3.out.later BU.out)
  have CM := hide1 (heldIntS_any A.wa m.wa.length A.wc q u h1 (by omega) S1.out)
  rw [E1h.out] at CM
  go_wp2_with fail
  refine CM.out.mono ?_
  rintro r w1 ⟨rfl, rfl⟩
  clear y6 CM
  have y7 : w1.cell? ⟨X, 7, none⟩ = some (.slice A.ia m.is.length A.ic) := KX.out.cell 7
  have CM := hide1 (heldItemS_any A.ia m.is.length A.ic qa w1 h2 ba b0 S2.out)
  rw [E2h.out] at CM
  go_wp2_with fail
  refine CM.out.mono ?_
  rintro r w2 ⟨rfl, hb⟩
  clear CM
  have K2 := hide1 (KX.out.below hb KX.out.lt)
  have T3 := hide1 (S3.out.later hb)
  have B2 := hide1 (BU.out.trans (hb.mono BU.out.size))
  clear hb y7 KX S1 S2 S3 BU
  have y9 : w2.cell? ⟨X, 9, none⟩ = some (.int .i64 m.tk.op) := K2.out.cell 9
  have y10 : w2.cell? ⟨X, 10, none⟩ = some (.int .i64 m.tk.cl) := K2.out.cell 10
  have y11 : w2.cell? ⟨X, 11, none⟩ = some (.int .i64 m.tk.nu) := K2.out.cell 11
  have y12 : w2.cell? ⟨X, 12, none⟩ = some (.string m.tk.it.k) := K2.out.cell 12
  have y13 : w2.cell? ⟨X, 13, none⟩ = some (.string m.tk.it.v) := K2.out.cell 13
  have y14 : w2.cell? ⟨X, 14, none⟩ = some (.int .i64 m.tk.it.n) := K2.out.cell 14
  have y15 : w2.cell? ⟨X, 15, none⟩ = some (.slice A.la m.tk.lf.length A.lc) := K2.out.cell 15
  go_wp2_with fail
  refine (heldTask_any m.tk A.la m.tk.lf.length A.lc qb w2 h3 bb T3.out).mono ?_
  rintro r w3 ⟨rfl, hb⟩
  have B3 := hide1 (B2.out.trans (hb.mono B2.out.size))
  clear hb K2 B2 y9 y10 y11 y12 y13 y14 y15
  go_wp2
  go_ret
  exact ⟨by unfold mkN; show Ending.returned (.int .i64 ((qb : Int) + (m.tk.lf.length : Int))) = _; rw [HE.out.2]; congr 2, B3.out⟩
/-- A member without rows, count or task. -/
def bareB (i e : Int) (f b l s : Bool) : Mb := ⟨i, e, f, b, l, s, [], [], 0, zeroTk⟩
theorem sz_bare (i e : Int) (f b l s : Bool) : SzMb (bareB i e f b l s) := ⟨by simp [bareB], by simp [bareB], by simp [bareB, zeroTk]⟩
theorem rd_bare (w : World) (i e : Int) (f b l s : Bool) : RdMb w (bareB i e f b l s) noMA := ⟨fun i hi => by simp [bareB] at hi, fun i hi => by simp [bareB] at hi, fun i hi => by simp [bareB, zeroTk] at hi⟩
theorem rd_bare2 (w : World) (i e : Int) (f b l s : Bool) (q : Nat) : RdMb w (mkMb (bareB i e f b l s) q) noMA := ⟨fun i hi => by simp [bareB, mkMb, patZ] at hi, fun i hi => by simp [bareB, mkMb, patG] at hi, fun i hi => by simp [bareB, zeroTk, mkMb, patZ] at hi⟩
theorem own_bare (w : World) (B : Nat) (i e : Int) (f b l s : Bool) : OwnMb w B (bareB i e f b l s) noMA := ⟨World.ownsRow_nil _ _ _ _, World.ownsRow_nil _ _ _ _, World.ownsRow_nil _ _ _ _, fun g h => by simp [noMA, Value.ownBlock] at h, fun g h => by simp [noMA, Value.ownBlock] at h, fun g h => by simp [noMA, Value.ownBlock] at h⟩
theorem off_bare (i e : Int) (f b l s : Bool) (g : Nat) : OffMb (bareB i e f b l s) noMA g := ⟨fun h => by simp [noMA, Value.ownBlock] at h, fun h => by simp [noMA, Value.ownBlock] at h, fun h => by simp [noMA, Value.ownBlock] at h⟩
theorem eqBare_any (i e : Int) (f b l s : Bool) (w : World) : Calls Tryz.prog 10 #[.agg #[.int .i64 i, .int .i64 e, .bool f, .bool b, .bool l, .bool s, .slice none 0 0, .slice none 0 0, .int .i64 0, .int .i64 0, .int .i64 0, .int .i64 0, .string ⟨#[]⟩, .string ⟨#[]⟩, .int .i64 0, .slice none 0 0], .agg #[.int .i64 i, .int .i64 e, .bool f, .bool b, .bool l, .bool s, .slice none 0 0, .slice none 0 0, .int .i64 0, .int .i64 0, .int .i64 0, .int .i64 0, .string ⟨#[]⟩, .string ⟨#[]⟩, .int .i64 0, .slice none 0 0]] w fun r w' => r = .returned (.bool true) ∧ Below w.heap.size w w' := eqMember_same (bareB i e f b l s) noMA noMA w (sz_bare i e f b l s) (rd_bare w i e f b l s) (rd_bare w i e f b l s)
theorem markBare_any (i e : Int) (f b l s : Bool) (w : World) : Calls Tryz.prog 13 #[.agg #[.int .i64 i, .int .i64 e, .bool f, .bool b, .bool l, .bool s, .slice none 0 0, .slice none 0 0, .int .i64 0, .int .i64 0, .int .i64 0, .int .i64 0, .string ⟨#[]⟩, .string ⟨#[]⟩, .int .i64 0, .slice none 0 0], .int .i64 1] w fun r w' => r = .returned (.int .i64 1) ∧ (∀ g t cs, Blk w g t cs → Blk w' g t cs) ∧ Below w.heap.size w w' :=
  (markMember_own (bareB i e f b l s) noMA 1 w.heap.size w (sz_bare i e f b l s) (by omega) (by omega) (Nat.le_refl _) (own_bare w _ i e f b l s)).mono (fun r w' h => ⟨h.1.trans rfl, fun g t cs hb => h.2.2.2 g t cs hb (off_bare i e f b l s g), h.2.2.1⟩)
theorem heldBare_any (i e : Int) (f b l s : Bool) (w : World) : Calls Tryz.prog 16 #[.agg #[.int .i64 i, .int .i64 e, .bool f, .bool b, .bool l, .bool s, .slice none 0 0, .slice none 0 0, .int .i64 0, .int .i64 0, .int .i64 0, .int .i64 0, .string ⟨#[]⟩, .string ⟨#[]⟩, .int .i64 0, .slice none 0 0], .int .i64 1] w fun r w' => r = .returned (.int .i64 1) ∧ Below w.heap.size w w' :=
  (heldMember_own (bareB i e f b l s) noMA 1 w (sz_bare i e f b l s) (by omega) (by omega) (rd_bare2 w i e f b l s 1)).mono (fun r w' h => ⟨h.1.trans rfl, h.2⟩)
end Go.Proofs.YtpjgplohlchpoaaGreatDoor
namespace Go.Proofs.YtpjgplohlchpoaaGreatDoor
open Go.RowKit
set_option linter.unusedVariables false

/-- A block that holds these cells. -/
def BlkA (w : World) (g : Nat) (t : TypeId) (cs : Array Value) : Prop := w.heap[g]? = some (.cells cs t (0, 0))
theorem BlkA.lt {w : World} {g : Nat} {t : TypeId} {cs : Array Value} (h : BlkA w g t cs) : g < w.heap.size := by
  by_cases c : g < w.heap.size
  · exact c
  · unfold BlkA at h
    rw [Array.getElem?_eq_none (by omega)] at h
    simp at h
theorem BlkA.below {w w' : World} {g B : Nat} {t : TypeId} {cs : Array Value} (h : BlkA w g t cs) (hb : Below B w w') (hB : g < B) : BlkA w' g t cs := (hb.block g hB).trans h
theorem BlkA.new (w : World) (t : TypeId) (cs : Array Value) : BlkA (w.alloc (.cells cs t)) w.heap.size t cs := heap_alloc_last _ _
theorem BlkA.blk {w : World} {g : Nat} {t : TypeId} {cs : Array Value} (h : BlkA w g t cs) : Blk w g t cs.toList := by unfold Blk; simpa [BlkA] using h
theorem Blk.arr {w : World} {g : Nat} {t : TypeId} {cs : List Value} (h : Blk w g t cs) : BlkA w g t cs.toArray := h
theorem BlkA.cell {w : World} {g : Nat} {t : TypeId} {cs : Array Value} (h : BlkA w g t cs) (j : Nat) {v : Value} (hj : cs.toList[j]? = some v) : w.cell? ⟨g, j, none⟩ = some v := by
  have := (Blk.cell h.blk j)
  rw [hj] at this
  exact this
theorem BlkA.froz {w : World} {g : Nat} {t : TypeId} {cs : Array Value} (h : BlkA w g t cs) (j : Nat) : w.frozen? ⟨g, j, none⟩ = false := h.blk.froz j
theorem BlkA.setc {w : World} {g : Nat} {t : TypeId} {cs : Array Value} (h : BlkA w g t cs) (j : Nat) (u : Value) : BlkA (w.setCell ⟨g, j, none⟩ u) g t (cs.toList.set j u).toArray := (Blk.set h.blk j u).arr
theorem BlkA.far {w : World} {g g' : Nat} {t : TypeId} {cs : Array Value} (h : BlkA w g t cs) (j : Nat) (u : Value) (hn : g' ≠ g) : BlkA (w.setCell ⟨g', j, none⟩ u) g t cs := by
  have := (Blk.far h.blk ⟨g', j, none⟩ u (by dsimp only; omega)).arr
  simpa using this
theorem heap_alloc_two (w : World) (o p : Obj) : ((w.alloc o).alloc p).heap[w.heap.size + 1]? = some p := by
  have := heap_alloc_last (w.alloc o) p
  rwa [World.size_alloc] at this
theorem setRow_alloc_two (w : World) (o : Obj) (c c' : Array Value) (t : TypeId) : ((w.alloc o).alloc (.cells c t)).setRow (w.heap.size + 1) c' = (w.alloc o).alloc (.cells c' t) := by
  have := World.setRow_alloc_new (w.alloc o) c c' t
  rwa [World.size_alloc] at this
theorem two_newT (w : World) (t : TypeId) (cx cy : Array Value) : BlkA ((w.alloc (.cells cx t)).alloc (.cells cy t)) w.heap.size t cx ∧ BlkA ((w.alloc (.cells cx t)).alloc (.cells cy t)) (w.heap.size + 1) t cy ∧ Below w.heap.size w ((w.alloc (.cells cx t)).alloc (.cells cy t)) := by
  have b1 := (Below.refl w.heap.size w).alloc (Nat.le_refl _) (.cells cx t)
  have b2 := (Below.refl (w.alloc (.cells cx t)).heap.size (w.alloc (.cells cx t))).alloc (Nat.le_refl _) (.cells cy t)
  have k1 := BlkA.new w t cx
  have k2 := BlkA.new (w.alloc (.cells cx t)) t cy
  rw [World.size_alloc] at k2
  exact ⟨k1.below b2 k1.lt, k2, b1.trans (b2.mono b1.size)⟩
theorem step_loadR {P : Program} {ops : Array Oper} {o : Oper} {a : Act} {w : World} {K : Act → World → Prop} {Q : Exit → Act → World → Prop} {D : Prop} (hgd : o.guard = none) (ty : TypeId) (x : Operand) (ho : o.op = .load ty x)
    (g : Nat) (hx : a.eval x = .pointer (some ⟨g, 0, none⟩)) (t : TypeId) (cs : Array Value) (d : TypeDesc) (hg : BlkA w g t cs)
    (hu : P.underlying ty = some d) (hd : (match d with | .struct _ | .array _ _ => true | _ => false) = true) (hi : (P.info? ty).map (·.size) = some cs.size)
    (h : K (a.put o.dst (.agg cs)) w) : if Region.wanted o (yielded ops a.tmps) = true then Oper.wp P o a w K Q else D := by
  rw [if_pos (by unfold Region.wanted; rw [hgd])]
  exact wp_load_row ty x ho g hx t cs (0, 0) d hg hu hd hi h
/-- A whole struct is loaded. -/
theorem BlkA.load {P : Program} {w : World} {g : Nat} {t ty : TypeId} {cs : Array Value} {d : TypeDesc} (h : BlkA w g t cs) (hu : P.underlying ty = some d) (hd : (match d with | .struct _ | .array _ _ => true | _ => false) = true) (hi : (P.info? ty).map (·.size) = some cs.size) :
    (Instr.loadAt ty (.pointer (some ⟨g, 0, none⟩))).run P w = .ok (.agg cs) w := by
  simp only [Instr.loadAt, Instr.sureAddr, Sem.run_bind, Sem.run_pure, Result.andThen_ok, run_loadVar_row w g t ty cs (0, 0) d h hu hd hi]
theorem yieldsIf_loadA {P : Program} {ops : Array Oper} {S : World → Prop} {op : Oper} {a : Act} (hw : Region.wanted op (yielded ops a.tmps) = true) (ty : TypeId) (x : Operand) (ho : op.op = .load ty x)
    (g : Nat) (hx : a.eval x = .pointer (some ⟨g, 0, none⟩)) (cs : Array Value) (hS : ∀ w, S w → (Instr.loadAt ty (.pointer (some ⟨g, 0, none⟩))).run P w = .ok (.agg cs) w) : YieldsIf P ops S op (.agg cs) a :=
  .inl ⟨hw, fun w h => by
    unfold execOp
    simp only [ho, hx, Sem.run_bind, Sem.run_pure, Result.andThen_ok, hS w h]⟩
theorem wpList_load_rowG {P : Program} {ops : Array Oper} {rest : List Oper} {o : Oper} {a : Act} {w : World} {Q : Exit → Act → World → Prop} (hgd : Region.wanted o (yielded ops a.tmps) = true) (ty : TypeId) (x : Operand) (ho : o.op = .load ty x)
    (g : Nat) (hx : a.eval x = .pointer (some ⟨g, 0, none⟩)) (t : TypeId) (cs : Array Value) (d : TypeDesc) (hg : BlkA w g t cs)
    (hu : P.underlying ty = some d) (hd : (match d with | .struct _ | .array _ _ => true | _ => false) = true) (hi : (P.info? ty).map (·.size) = some cs.size)
    (h : wpList P ops Q rest (a.put o.dst (.agg cs)) w) : wpList P ops Q (o :: rest) a w :=
  wpList_step fun K hK => by rw [if_pos hgd]; exact wp_load_row ty x ho g hx t cs (0, 0) d hg hu hd hi (hK _ _ h)
end Go.Proofs.YtpjgplohlchpoaaGreatDoor
