import Derived.Laws.BitsAllLaws
import Derived.Lib.SmallJoins
import Derived.ProofKit
import Derived.OpenShut
import Derived.Lib.LaidTab
import Derived.Deep.Cut
import Derived.Test.YtigpjmmfelndkaaGreatDoorLXHH
namespace Go.Proofs.YtigpjmmfelndkaaGreatDoor
open Go.RowKit
theorem qfH (a : Nat) (ha : a < 4294967296) : (BitVec.ofInt 64 (a : Int)).toNat = a := by
 rw [BitVec.ofInt_natCast, BitVec.toNat_ofNat]; exact Nat.mod_eq_of_lt (by omega)
theorem quM (a b : Nat) (ha : a < 4294967296) (hb : b < 4294967296) : bits .or .i64 (a : Int) (b : Int) = ((a ||| b : Nat) : Int) := by
 have hx : a ||| b < 2 ^ 32 := Nat.or_lt_two_pow (by omega) (by omega)
 show IntKind.i64.wrap ((BitVec.ofInt 64 (a : Int) ||| BitVec.ofInt 64 (b : Int)).toNat : Int) = _
 rw [BitVec.toNat_or, qfH a ha, qfH b hb]
 exact IntWalk.i64_in _ ⟨by omega, by omega⟩
theorem qxV (a b : Nat) (ha : a < 4294967296) (hb : b < 4294967296) : bits .and .i64 (a : Int) (b : Int) = ((a &&& b : Nat) : Int) := by
 have hx : a &&& b < 2 ^ 32 := Nat.and_lt_two_pow _ (by omega)
 show IntKind.i64.wrap ((BitVec.ofInt 64 (a : Int) &&& BitVec.ofInt 64 (b : Int)).toNat : Int) = _
 rw [BitVec.toNat_and, qfH a ha, qfH b hb]
 exact IntWalk.i64_in _ ⟨by omega, by omega⟩
def kbP (s : ByteArray) (seed : Int) : Nat := qcK s seed % 32
def kbN (s : ByteArray) (seed : Int) : Nat := 2 ^ kbP s seed
def bsN (s : ByteArray) : Nat := kbN s 7 ||| kbN s 8
theorem quK (s : ByteArray) (seed : Int) : kbP s seed < 32 := Nat.mod_lt _ (by decide)
theorem qhZ (s : ByteArray) (seed : Int) : kbN s seed < 4294967296 := by
 have : (2 : Nat) ^ kbP s seed < 2 ^ 32 := Nat.pow_lt_pow_right (by decide) (quK s seed)
 simpa [kbN] using this
theorem qtE (s : ByteArray) (seed : Int) : 1 <= kbN s seed := Nat.pow_pos (by decide)
theorem qyO (s : ByteArray) : bsN s < 4294967296 := Nat.or_lt_two_pow (n := 32) (qhZ s 7) (qhZ s 8)
def okD (d : Int) : Bool := decide (0 <= d) && decide (d <= 4294967295)
theorem qlL {d : Int} (h : okD d = true) : ∃ n : Nat, d = (n : Int) /\ n < 4294967296 := by
 unfold okD at h
 simp only [Bool.and_eq_true, decide_eq_true_eq] at h
 exact ⟨d.toNat, by omega, by omega⟩
def quP (d b : Nat) : Bool := d / b % 2 == 1
theorem qoP (d i : Nat) : quP d (2 ^ i) = d.testBit i := by
 rw [Nat.testBit_eq_decide_div_mod_eq, quP]
 rfl
def qvO (d : Nat) (s : ByteArray) : Bool := quP d (kbN s 7) && quP d (kbN s 8)
def qqW (d : Nat) (s : ByteArray) : Nat := d ||| bsN s
def qhD (d : Int) (s : ByteArray) : Bool := okD d && qvO d.toNat s
def qeP (d : Int) (s : ByteArray) : Int := if okD d = true then (qqW d.toNat s : Int) else d
theorem qzQ (d : Nat) (s : ByteArray) (h : d < 4294967296) : qqW d s < 4294967296 := Nat.or_lt_two_pow (n := 32) h (qyO s)
theorem qwK (d m : Nat) : d &&& m = m ↔ ∀ i, m.testBit i = true -> d.testBit i = true := by
 constructor
 ·intro h i hi
  rw [<- h, Nat.testBit_and] at hi
  exact (Bool.and_eq_true _ _ ▸ hi).1
 ·intro h
  apply Nat.eq_of_testBit_eq
  intro i
  rw [Nat.testBit_and]
  cases e : m.testBit i with
  | false => simp
  | true => simp [h i e]
theorem zaT (d : Nat) (s : ByteArray) : ((d &&& bsN s) == bsN s) = qvO d s := by
 rw [Bool.eq_iff_iff, beq_iff_eq, qwK, qvO, kbN, kbN, qoP, qoP, Bool.and_eq_true]
 unfold bsN kbN
 constructor
 ·intro h
  exact ⟨h _ (by rw [Nat.testBit_or, Nat.testBit_two_pow]; simp), h _ (by rw [Nat.testBit_or, Nat.testBit_two_pow, Nat.testBit_two_pow]; simp)⟩
 ·rintro ⟨h1, h2⟩ i hi
  rw [Nat.testBit_or, Nat.testBit_two_pow, Nat.testBit_two_pow, Bool.or_eq_true, decide_eq_true_eq, decide_eq_true_eq] at hi
  rcases hi with rfl | rfl
  ·exact h1
  ·exact h2
theorem zdV {d i : Nat} (h : quP d (2 ^ i) = true) : d ||| 2 ^ i = d := by
 rw [qoP] at h
 apply Nat.eq_of_testBit_eq
 intro j
 rw [Nat.testBit_or, Nat.testBit_two_pow]
 by_cases e : i = j
 ·subst e; simp [h]
 ·simp [e]
theorem zdU {d i : Nat} (h : quP d (2 ^ i) = false) : d ||| 2 ^ i = d + 2 ^ i := by
 have hd : d = 2 ^ i * (d / 2 ^ i) + d % 2 ^ i := (Nat.div_add_mod d (2 ^ i)).symm
 have hr : d % 2 ^ i < 2 ^ i := Nat.mod_lt _ (Nat.pow_pos (by decide))
 have he : d / 2 ^ i % 2 = 0 := by
  have : ¬ d / 2 ^ i % 2 = 1 := by simpa [quP] using h
  omega
 have h1 : 2 ^ i * (d / 2 ^ i) + d % 2 ^ i = 2 ^ i * (d / 2 ^ i) ||| d % 2 ^ i := Nat.two_pow_add_eq_or_of_lt hr _
 have h2 : 2 ^ i * (d / 2 ^ i + 1) + d % 2 ^ i = 2 ^ i * (d / 2 ^ i + 1) ||| d % 2 ^ i := Nat.two_pow_add_eq_or_of_lt hr _
 have h3 : 2 ^ i * (d / 2 ^ i + 1) = 2 ^ i * (d / 2 ^ i) ||| 2 ^ i := by
  apply Nat.eq_of_testBit_eq
  intro j
  rw [Nat.testBit_or, Nat.testBit_two_pow_mul, Nat.testBit_two_pow_mul, Nat.testBit_two_pow]
  by_cases hj : i <= j
  ·simp only [hj, decide_true, Bool.true_and]
   obtain ⟨k, rfl⟩ : ∃ k, j = i + k := ⟨j - i, by omega⟩
   rw [show i + k - i = k by omega]
   cases k with
   | zero =>
    rw [Nat.testBit_zero, Nat.testBit_zero]
    simp
    omega
   | succ k =>
    rw [Nat.testBit_succ, Nat.testBit_succ, show (d / 2 ^ i + 1) / 2 = d / 2 ^ i / 2 by omega]
    simp
  ·simp only [hj, decide_false, Bool.false_and, Bool.false_or]
   simp
   omega
 calc d ||| 2 ^ i = (2 ^ i * (d / 2 ^ i) ||| d % 2 ^ i) ||| 2 ^ i := by rw [<- h1, <- hd]
  _ = 2 ^ i * (d / 2 ^ i + 1) ||| d % 2 ^ i := by rw [h3, Nat.or_assoc, Nat.or_assoc, Nat.or_comm (d % 2 ^ i)]
  _ = d + 2 ^ i := by rw [<- h2, Nat.mul_add, Nat.mul_one]; omega
def qsN (d b : Nat) : Nat := if quP d b = true then d else d + b
theorem qtR (d : Nat) (s : ByteArray) (seed : Int) : qsN d (kbN s seed) = d ||| kbN s seed := by
 unfold qsN kbN
 cases h : quP d (2 ^ kbP s seed) with
 | true => rw [if_pos rfl, zdV h]
 | false => rw [if_neg (by simp), zdU h]
theorem qzP (d : Nat) (s : ByteArray) : qsN (qsN d (kbN s 7)) (kbN s 8) = qqW d s := by
 rw [qtR, qtR, qqW, bsN, Nat.or_assoc]
theorem zcU {d : Nat} (s : ByteArray) (seed : Int) (h : d < 4294967296) : qsN d (kbN s seed) < 4294967296 := by
 rw [qtR]
 exact Nat.or_lt_two_pow (n := 32) h (qhZ s seed)
def tabB : List Int := [1, 2, 4, 8, 16, 32, 64, 128, 256, 512, 1024, 2048, 4096, 8192, 16384, 32768, 65536, 131072, 262144, 524288, 1048576, 2097152, 4194304, 8388608, 16777216, 33554432, 67108864, 134217728, 268435456, 536870912, 1073741824, 2147483648]
theorem zbN : ∀ r : Fin 32, tabB.getD r.1 0 = ((2 ^ r.1 : Nat) : Int) := by decide +kernel
end Go.Proofs.YtigpjmmfelndkaaGreatDoor
namespace Go.Proofs.YtigpjmmfelndkaaGreatDoor
open Go.ChangeShapes Go.WideShapes Go.ChangeAt Go.RowKit Go.Deep Go.Joins
theorem qeQ (d : Int) (w : World) :
  Calls Tryz.prog 106 #[.agg #[.int .i64 d]] w fun e w' => e = .returned (.bool (okD d)) /\ Below w.heap.size w w' := by
 by_cases h1 : 0 <= d
 ·by_cases h2 : d < 4294967296
  ·have e : okD d = true := by unfold okD; simp; omega
   rw [e]
   go_enter Tryz.func106, Tryz.ntmps106
   go_wp2
   go_ret
   exact ⟨rfl, bAl _ _⟩
  ·have e : okD d = false := by unfold okD; simp; omega
   rw [e]
   go_enter Tryz.func106, Tryz.ntmps106
   go_wp2
   go_ret
   exact ⟨rfl, bAl _ _⟩
 ·have e : okD d = false := by unfold okD; simp; omega
  rw [e]
  go_enter Tryz.func106, Tryz.ntmps106
  go_wp2
  go_ret
  exact ⟨rfl, bAl _ _⟩
theorem qdJ (d : Int) (w : World) :
  Calls Tryz.prog 113 #[.agg #[.int .i64 d]] w fun e w' => e = .returned (.bool (okD d)) /\ Below w.heap.size w w' := by
 have C := hI (fun w' => qdP d 0 4294967295 w')
 change Hid (∀ w', Calls _ _ _ _ fun e w'' => e = .returned (.bool (okD d)) /\ _) at C
 generalize okD d = b at *
 go_enter Tryz.func113, Tryz.ntmps113
 go_wp2_with fail
 refine (C.out _).mono ?_
 rintro e w1 ⟨rfl, rfl⟩
 go_wp2
 go_ret
 exact ⟨rfl, bAl _ _⟩
end Go.Proofs.YtigpjmmfelndkaaGreatDoor
namespace Go.Proofs.YtigpjmmfelndkaaGreatDoor
open Go.RowKit
set_option maxRecDepth 100000
set_option maxHeartbeats 1000000
def TabD (w : World) : Prop := Lib.TabIs Tryz.prog w "loop.example/g00180/impl.bitsByPlace" .i64 tabB
theorem zaG : Tryz.prog.globalNamed "loop.example/g00180/impl.bitsByPlace" = some 0 := by kernel_rfl
theorem TabD.pos {w : World} (h : TabD w) : 0 < w.heap.size := by
 unfold TabD Lib.TabIs World.var? at h
 rw [zaG] at h
 simp only [Option.bind_some] at h
 cases e : w.heap[0]? with
 | none => rw [e] at h; cases h
 | some x => exact (Array.getElem?_eq_some_iff.1 e).1
theorem TabD.below {w w' : World} {B : Nat} (h : TabD w) (hb : Below B w w') (hB : 0 < B) : TabD w' := var?_below hb zaG hB h
theorem TabD.later {w w' : World} (h : TabD w) (hb : Below w.heap.size w w') : TabD w' := TabD.below h hb (TabD.pos h)
theorem TabD.cell {w : World} (h : TabD w) (r : Nat) (hr : r < 32) : w.cell? ⟨0, r, none⟩ = some (.int .i64 ((2 ^ r : Nat) : Int)) := by
 rw [<- zbN ⟨r, hr⟩]
 exact Lib.TabIs.cell h zaG r hr
theorem qsJ (s : ByteArray) (hs : s.size <= 1048576) (seed : Int) (h1 : 0 <= seed) (h2 : seed <= 100) (w : World) (ht : TabD w) :
  Calls Tryz.prog 174 #[.string s, .int .i64 seed] w fun e w' => e = .returned (.int .i64 (kbN s seed : Int)) /\ w = w' := by
 have x1 := ht.cell (kbP s seed) (quK s seed)
 have C := hI (qfX s seed w hs (by omega) (by omega))
 have hlt := qfK s seed
 have hr : (qcK s seed : Int) % 32 = (kbP s seed : Int) := by unfold kbP; omega
 have hk := quK s seed
 change w.cell? _ = some (.int .i64 (kbN s seed : Int)) at x1
 generalize kbN s seed = b at *
 generalize kbP s seed = r at *
 generalize qcK s seed = n at *
 clear ht
 go_enter Tryz.func174, Tryz.ntmps174
 go_wp2_with fail
 refine C.out.mono ?_
 rintro e w1 ⟨rfl, rfl⟩
 go_wp2
 go_ret
 exact ⟨rfl, rfl⟩
theorem qnH (s : ByteArray) (hs : s.size <= 1048576) (w : World) (ht : TabD w) :
  Calls Tryz.prog 144 #[.string s] w fun e w' => e = .returned (.int .i64 (bsN s : Int)) /\ w = w' := by
 have C7 := hI (qsJ s hs 7 (by decide) (by decide) w ht)
 have C8 := hI (qsJ s hs 8 (by decide) (by decide) w ht)
 have ho := quM (kbN s 7) (kbN s 8) (qhZ s 7) (qhZ s 8)
 change _ = ((bsN s : Nat) : Int) at ho
 generalize kbN s 7 = a at *
 generalize kbN s 8 = b at *
 generalize bsN s = c at *
 clear ht
 go_enter Tryz.func144, Tryz.ntmps144
 go_wp2_with fail
 refine C7.out.mono ?_
 rintro e w1 ⟨rfl, rfl⟩
 go_wp2_with fail
 refine C8.out.mono ?_
 rintro e w1 ⟨rfl, rfl⟩
 go_wp2
 go_ret
 exact ⟨by rw [<- ho]; rfl, rfl⟩
theorem qiT (s : ByteArray) (hs : s.size <= 1048576) (seed : Int) (h1 : 0 <= seed) (h2 : seed <= 100) (w : World) :
  Calls Tryz.prog 149 #[.string s, .int .i64 seed] w fun e w' => e = .returned (.int .i64 (kbN s seed : Int)) /\ w = w' := by
 have C := hI (qeJ s seed w hs (by omega) (by omega))
 have hlt := qfK s seed
 have hr : (qcK s seed : Int) % 32 = (kbP s seed : Int) := by unfold kbP; omega
 have hk := quK s seed
 have HK : Hid (kbN s seed = 2 ^ kbP s seed) := hI rfl
 generalize kbN s seed = b at *
 generalize kbP s seed = r at *
 generalize qcK s seed = n at *
 go_enter Tryz.func149, Tryz.ntmps149
 go_wp2
 go_loop [5, 6] (fun bv iv => ∃ (i x : Nat), i <= r /\ iv = .int .i64 (i : Int) /\ bv = .int .i64 (x : Int) /\ x <= 4294967296 /\ Hid (x = 2 ^ i)) (fun _ iv => r - (intOf iv).toNat)
 case atStart => exact ⟨0, 1, by omega, rfl, rfl, by omega, rfl⟩
 case round =>
  obtain ⟨i, x, hi, rfl, rfl, hx, hxe⟩ := hrel
  by_cases hlt2 : i < r
  ·have k1 : (i : Int) < (r : Int) := by omega
   have hx2 : Hid (2 * x = 2 ^ (i + 1)) := by show 2 * x = _; rw [hxe.out, Nat.pow_succ]; omega
   have hx3 : 2 * x <= 4294967296 := by rw [hx2.out]; exact zaW (i + 1) (by omega)
   go_wp2_with fail
   refine C.out.mono ?_
   rintro e w1 ⟨rfl, rfl⟩
   go_wp2
   go_round
   case rel => exact ⟨i + 1, 2 * x, by omega, by go_num, by go_num, hx3, hx2⟩
   case measure => simp [intOf]; omega
  ·obtain rfl : i = r := by omega
   have k1 : ¬ (i : Int) < (i : Int) := by omega
   go_wp2_with fail
   refine C.out.mono ?_
   rintro e w1 ⟨rfl, rfl⟩
   go_wp2
   go_ret
   exact ⟨by rw [HK.out, <- hxe.out]; rfl, rfl⟩
theorem qiS (d b : Nat) (hd : d < 4294967296) (hb : 1 <= b) (hb2 : b < 4294967296) (w : World) :
  Calls Tryz.prog 148 #[.int .i64 (d : Int), .int .i64 (b : Int)] w fun e w' => e = .returned (.bool (quP d b)) /\ w = w' := by
 have hq : (d : Int).tdiv (b : Int) = ((d / b : Nat) : Int) := by rw [Int.ofNat_tdiv]
 have hq2 : (d : Int) / (b : Int) = ((d / b : Nat) : Int) := by rw [Int.natCast_ediv]
 have hl : d / b <= d := Nat.div_le_self _ _
 have h0 : ¬ (b : Int) = 0 := by omega
 have h01 : ((b : Int) == 0) = false := by simp; omega
 unfold quP
 generalize d / b = q at *
 by_cases ho : q % 2 = 1
 ·have q1 : ((q : Int) % 2 == 1) = true := by simp; omega
  have q2 : (q % 2 == 1) = true := by simp; omega
  rw [q2]
  go_enter Tryz.func148, Tryz.ntmps148
  go_wp2
  go_ret
  exact ⟨rfl, rfl⟩
 ·have q1 : ((q : Int) % 2 == 1) = false := by simp; omega
  have q2 : (q % 2 == 1) = false := by simp; omega
  rw [q2]
  go_enter Tryz.func148, Tryz.ntmps148
  go_wp2
  go_ret
  exact ⟨rfl, rfl⟩
theorem zaP {w : World} {r : Nat} {t : TypeId} {cs : List Value} (h : Blk w r t cs) : Blk w.drew r t cs := h
theorem qjW (d : Int) (s : ByteArray) (hs : s.size <= 1048576) (w : World) (ht : TabD w) :
  Calls Tryz.prog 81 #[.agg #[.int .i64 d], .string s] w fun e w' => e = .returned (.bool (qhD d s)) /\ Below w.heap.size w w' := by
 have CB := hI (fun w' h => qnH s hs w' h)
 have CO := hI (fun w' => qeQ d w')
 have HT := hI (ht.later ((Below.refl _ w).alloc (Nat.le_refl _) (.cells #[.int .i64 d] 37)))
 clear ht
 unfold qhD
 cases hok : okD d with
 | false =>
  rw [hok] at CO
  rw [Bool.false_and]
  go_enter Tryz.func81, Tryz.ntmps81
  go_wp2_with fail
  refine (CB.out _ HT.out).mono ?_
  rintro e w1 ⟨rfl, rfl⟩
  go_wp2_with fail
  refine (CO.out _).mono ?_
  rintro e w2 ⟨rfl, hb⟩
  go_wp2
  go_ret
  exact ⟨rfl, (bAl _ _).trans (hb.mono (by simp))⟩
 | true =>
  rw [hok] at CO
  rw [Bool.true_and]
  obtain ⟨n, rfl, hn⟩ := qlL hok
  have ha := qxV n (bsN s) hn (qyO s)
  have hsn := zaT n s
  have e1 : ((n : Int)).toNat = n := rfl
  rw [e1]
  have hb2 : (((n &&& bsN s : Nat) : Int) == ((bsN s : Nat) : Int)) = qvO n s := by
   rw [<- hsn, Bool.eq_iff_iff, beq_iff_eq, beq_iff_eq]
   omega
  clear hok e1 hsn
  generalize bsN s = b at *
  generalize n &&& b = c at *
  generalize qvO n s = r at *
  go_enter Tryz.func81, Tryz.ntmps81
  go_wp2_with fail
  refine (CB.out _ HT.out).mono ?_
  rintro e w1 ⟨rfl, rfl⟩
  go_wp2_with fail
  refine (CO.out _).mono ?_
  rintro e w2 ⟨rfl, hb⟩
  have hc : w2.cell? ⟨w.heap.size, 0, none⟩ = some (.int .i64 (n : Int)) := by rw [hb.cell (by simp)]; simp [go_sem]
  have HB := hI hb
  clear hb
  go_wp2
  go_ret
  exact ⟨rfl, (bAl _ _).trans (HB.out.mono (by simp))⟩
theorem qrL (d : Int) (s : ByteArray) (hs : s.size <= 1048576) (w : World) (ht : TabD w) :
  Calls Tryz.prog 82 #[.agg #[.int .i64 d], .string s] w fun e w' => e = .returned (.agg #[.int .i64 (qeP d s)]) /\ Below w.heap.size w w' := by
 have CB := hI (fun w' h => qnH s hs w' h)
 have CO := hI (fun w' => qeQ d w')
 have HT := hI ht
 have F0 := hI (qdI w #[.int .i64 d] #[.int .i64 0] 37 37)
 clear ht
 cases hok : okD d with
 | false =>
  have HM : Hid (qeP d s = d) := by show qeP d s = d; unfold qeP; rw [hok]; rfl
  rw [hok] at CO
  clear hok
  go_enter Tryz.func82, Tryz.ntmps82
  go_wp2_with fail
  generalize ((w.alloc (.cells #[.int .i64 d] 37)).alloc (.cells #[.int .i64 0] 37)) = w0 at F0 ⊢
  refine (CO.out _).mono ?_
  rintro e w1 ⟨rfl, hb⟩
  obtain ⟨K0, K1, B0⟩ := F0.out
  have J0 := hI (K0.below hb K0.lt)
  have J1 := hI (K1.below hb K1.lt)
  have B1 := hI (B0.trans (hb.mono B0.size))
  clear hb K0 K1 B0 F0
  have x0 : w1.cell? ⟨w.heap.size, 0, none⟩ = _ := cRn (J0.out.cell 0) rfl
  have y0 : w1.cell? ⟨w.heap.size + 1, 0, none⟩ = _ := cRn (J1.out.cell 0) rfl
  have yf (j) : w1.frozen? ⟨w.heap.size + 1, j, none⟩ = false := J1.out.froz j
  have hlt := J1.out.lt
  go_wp2
  refine bodyPost_ret (results_cell_row Tryz.results82 _ _ (w.heap.size + 1) 37 #[.int .i64 d] (0, 0) _ rfl (Blk.set J1.out 0 (.int .i64 d)) Tryz.underlying37 rfl (by kernel_rfl)) rfl ?_
  rw [HM.out]
  exact ⟨rfl, B1.out.setCell (p := ⟨w.heap.size + 1, 0, none⟩) (by show w.heap.size <= w.heap.size + 1; omega) _⟩
 | true =>
  obtain ⟨n, rfl, hn⟩ := qlL hok
  have HM : Hid (qeP (n : Int) s = ((qqW n s : Nat) : Int)) := by show qeP (n : Int) s = _; unfold qeP; rw [hok]; rfl
  rw [hok] at CO
  have ho := quM n (bsN s) hn (qyO s)
  change _ = ((qqW n s : Nat) : Int) at ho
  clear hok
  generalize bsN s = b at *
  generalize qqW n s = m at *
  go_enter Tryz.func82, Tryz.ntmps82
  go_wp2_with fail
  generalize ((w.alloc (.cells #[.int .i64 (n : Int)] 37)).alloc (.cells #[.int .i64 0] 37)) = w0 at F0 ⊢
  refine (CO.out _).mono ?_
  rintro e w1 ⟨rfl, hb⟩
  obtain ⟨K0, K1, B0⟩ := F0.out
  have J0 := hI (K0.below hb K0.lt)
  have J1 := hI (K1.below hb K1.lt)
  have B1 := hI (B0.trans (hb.mono B0.size))
  clear hb K0 K1 B0 F0
  have x0 : w1.cell? ⟨w.heap.size, 0, none⟩ = _ := cRn (J0.out.cell 0) rfl
  have y0 : w1.cell? ⟨w.heap.size + 1, 0, none⟩ = _ := cRn (J1.out.cell 0) rfl
  have yf (j) : w1.frozen? ⟨w.heap.size + 1, j, none⟩ = false := J1.out.froz j
  have hlt := J1.out.lt
  have HT1 := hI (HT.out.later B1.out)
  have HT2 := hI (fun k => HT1.out.later (below_drewN (Below.refl w1.heap.size w1) k))
  go_upto_region 3 with fail
  go_region_with ((go_at_call 144; refine (CB.out _ (by first | exact HT1.out | exact HT2.out _)).mono ?_; rintro e w2 ⟨rfl, rfl⟩))
  all_goals
   go_wp2
   refine bodyPost_ret (results_cell_row Tryz.results82 _ _ (w.heap.size + 1) 37 #[.int .i64 (m : Int)] (0, 0) _ rfl (zaP (Blk.set J1.out 0 (.int .i64 (m : Int)))) Tryz.underlying37 rfl (by kernel_rfl)) rfl ?_
   rw [HM.out]
   exact ⟨rfl, (B1.out.setCell (p := ⟨w.heap.size + 1, 0, none⟩) (by show w.heap.size <= w.heap.size + 1; omega) _).drew⟩
end Go.Proofs.YtigpjmmfelndkaaGreatDoor
