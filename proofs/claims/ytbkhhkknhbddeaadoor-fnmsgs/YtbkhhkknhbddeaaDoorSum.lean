/- What a sum of 32 bits is, plain: a byte at a time, eight halvings each; half a byte at once by a table; and that no two texts that differ in one byte have one sum. -/
import Derived.Test.YtbkhhkknhbddeaaDoorKit
import Derived.Laws.BitsAllLaws
namespace Go.Proofs.YtbkhhkknhbddeaaDoor

/-- One halving. -/
def hv (n : Nat) : Nat := if n % 2 = 1 then n / 2 ^^^ 3558460437 else n / 2
def hvs : Nat → Nat → Nat
  | 0, n => n
  | k + 1, n => hvs k (hv n)
theorem hvs_succ (k n : Nat) : hvs (k + 1) n = hv (hvs k n) := by
  induction k generalizing n with
  | zero => rfl
  | succ k ih => rw [hvs, ih, hvs]
theorem hvs_add (j k n : Nat) : hvs (j + k) n = hvs k (hvs j n) := by
  induction j generalizing n with
  | zero => rw [Nat.zero_add]; rfl
  | succ j ih => rw [Nat.add_right_comm, hvs, ih, hvs]
theorem xor_lt32 {a b : Nat} (ha : a < 4294967296) (hb : b < 4294967296) : a ^^^ b < 4294967296 := Nat.xor_lt_two_pow (n := 32) ha hb
theorem hv_lt {n : Nat} (h : n < 4294967296) : hv n < 4294967296 := by
  unfold hv; split
  · exact xor_lt32 (by omega) (by decide)
  · omega
theorem hvs_lt (k : Nat) {n : Nat} (h : n < 4294967296) : hvs k n < 4294967296 := by
  induction k generalizing n with
  | zero => exact h
  | succ k ih => exact ih (hv_lt h)
theorem hv_odd {n : Nat} (h : n % 2 = 1) : hv n = n / 2 ^^^ 3558460437 := by unfold hv; rw [if_pos h]
theorem hv_even {n : Nat} (h : n % 2 = 0) : hv n = n / 2 := by unfold hv; rw [if_neg (by omega)]
theorem xor_par (a b : Nat) : (a ^^^ b) % 2 = (a % 2 + b % 2) % 2 := by
  rw [Nat.xor_mod_two_pow (n := 1)]
  have h1 : a % 2 < 2 := Nat.mod_lt _ (by decide)
  have h2 : b % 2 < 2 := Nat.mod_lt _ (by decide)
  show (a % 2 ^^^ b % 2) = _
  generalize a % 2 = x at *
  generalize b % 2 = y at *
  match x, y, h1, h2 with
  | 0, 0, _, _ => rfl
  | 0, 1, _, _ => rfl
  | 1, 0, _, _ => rfl
  | 1, 1, _, _ => rfl
theorem xor_half (a b : Nat) : (a ^^^ b) / 2 = a / 2 ^^^ b / 2 := Nat.xor_div_two_pow (n := 1)
theorem hv_xor (a b : Nat) : hv (a ^^^ b) = hv a ^^^ hv b := by
  have p := xor_par a b
  rcases Nat.mod_two_eq_zero_or_one a with ha | ha <;> rcases Nat.mod_two_eq_zero_or_one b with hb | hb
  · rw [hv_even (by omega), hv_even ha, hv_even hb, xor_half]
  · rw [hv_odd (by omega), hv_even ha, hv_odd hb, xor_half, Nat.xor_assoc]
  · rw [hv_odd (by omega), hv_odd ha, hv_even hb, xor_half, Nat.xor_assoc, Nat.xor_assoc, Nat.xor_comm 3558460437]
  · rw [hv_even (by omega), hv_odd ha, hv_odd hb, xor_half, Nat.xor_assoc, ← Nat.xor_assoc 3558460437, Nat.xor_comm 3558460437, Nat.xor_assoc (b / 2), Nat.xor_self, Nat.xor_zero]
theorem hvs_xor (k a b : Nat) : hvs k (a ^^^ b) = hvs k a ^^^ hvs k b := by
  induction k generalizing a b with
  | zero => rfl
  | succ k ih => rw [hvs, hv_xor, ih]; rfl
theorem split16 (c : Nat) : c = 16 * (c / 16) ^^^ c % 16 := by
  apply Nat.eq_of_testBit_eq
  intro i
  rw [Nat.testBit_xor, show (16 : Nat) = 2 ^ 4 from rfl, Nat.testBit_two_pow_mul, Nat.testBit_mod_two_pow, Nat.testBit_div_two_pow]
  by_cases h : i < 4
  · simp [h, Nat.not_le.2 h]
  · have h' : 4 ≤ i := by omega
    simp [h, h', Nat.sub_add_cancel h']
theorem hvs_16 (q : Nat) : hvs 4 (16 * q) = q := by
  show hv (hv (hv (hv (16 * q)))) = q
  rw [hv_even (n := 16 * q) (by omega), show 16 * q / 2 = 8 * q by omega, hv_even (n := 8 * q) (by omega), show 8 * q / 2 = 4 * q by omega, hv_even (n := 4 * q) (by omega), show 4 * q / 2 = 2 * q by omega, hv_even (by omega)]
  omega
/-- The table of half bytes. -/
def tab : List Nat := [0x00000000, 0x4589ac8d, 0x8b13591a, 0xce9af597, 0xbe152a1f, 0xfb9c8692, 0x35067305, 0x708fdf88, 0xd419cc15, 0x91906098, 0x5f0a950f, 0x1a833982, 0x6a0ce60a, 0x2f854a87, 0xe11fbf10, 0xa496139d]
theorem tab_all : ∀ r : Fin 16, hvs 4 r.1 = tab.getD r.1 0 := by decide +kernel
theorem tab_lt : ∀ r : Fin 16, tab.getD r.1 0 < 4294967296 := by decide +kernel
/-- Four halvings at once. -/
theorem hvs_four (c : Nat) : hvs 4 c = c / 16 ^^^ tab.getD (c % 16) 0 := by
  conv => lhs; rw [split16 c]
  rw [hvs_xor, hvs_16, tab_all ⟨c % 16, Nat.mod_lt _ (by decide)⟩]

/-- A byte taken into a sum. -/
def stepS (c b : Nat) : Nat := hvs 8 (c ^^^ b)
theorem stepS_lt {c b : Nat} (hc : c < 4294967296) (hb : b < 256) : stepS c b < 4294967296 := hvs_lt 8 (xor_lt32 hc (by omega))
/-- The first k bytes of a text taken into a sum. -/
def sumK (t : Nat → Nat) (c : Nat) : Nat → Nat
  | 0 => c
  | k + 1 => stepS (sumK t c k) (t k)
theorem sumK_lt {t : Nat → Nat} {c : Nat} (hc : c < 4294967296) (ht : ∀ k, t k < 256) (k : Nat) : sumK t c k < 4294967296 := by
  induction k with
  | zero => exact hc
  | succ k ih => exact stepS_lt ih (ht k)
theorem sumK_congr {t u : Nat → Nat} {c : Nat} : ∀ (k : Nat), (∀ j, j < k → t j = u j) → sumK t c k = sumK u c k
  | 0, _ => rfl
  | k + 1, h => by rw [sumK, sumK, sumK_congr k (fun j hj => h j (by omega)), h k (by omega)]
theorem xor_cancel {a b c : Nat} (h : a ^^^ c = b ^^^ c) : a = b := by
  have := congrArg (· ^^^ c) h
  simpa [Nat.xor_assoc] using this
theorem hv_top {n : Nat} (h : n < 4294967296) : (hv n).testBit 31 = decide (n % 2 = 1) := by
  have t : (n / 2).testBit 31 = false := Nat.testBit_lt_two_pow (by omega)
  rcases Nat.mod_two_eq_zero_or_one n with e | e
  · rw [hv_even e, t]; simp [e]
  · rw [hv_odd e, Nat.testBit_xor, t]; simp [e]; decide
theorem hv_inj {a b : Nat} (ha : a < 4294967296) (hb : b < 4294967296) (h : hv a = hv b) : a = b := by
  have e : decide (a % 2 = 1) = decide (b % 2 = 1) := by rw [← hv_top ha, ← hv_top hb, h]
  rcases Nat.mod_two_eq_zero_or_one a with pa | pa <;> rcases Nat.mod_two_eq_zero_or_one b with pb | pb
  · rw [hv_even pa, hv_even pb] at h; omega
  · simp [pa, pb] at e
  · simp [pa, pb] at e
  · rw [hv_odd pa, hv_odd pb] at h
    have := xor_cancel h
    omega
theorem hvs_inj (k : Nat) {a b : Nat} (ha : a < 4294967296) (hb : b < 4294967296) (h : hvs k a = hvs k b) : a = b := by
  induction k generalizing a b with
  | zero => exact h
  | succ k ih => exact hv_inj ha hb (ih (hv_lt ha) (hv_lt hb) h)
theorem stepS_inj {c d b : Nat} (hc : c < 4294967296) (hd : d < 4294967296) (hb : b < 256) (h : stepS c b = stepS d b) : c = d :=
  xor_cancel (hvs_inj 8 (xor_lt32 hc (by omega)) (xor_lt32 hd (by omega)) h)
theorem stepS_byte {c a b : Nat} (hc : c < 4294967296) (ha : a < 256) (hb : b < 256) (h : stepS c a = stepS c b) : a = b := by
  have := hvs_inj 8 (xor_lt32 hc (by omega)) (xor_lt32 hc (by omega)) h
  rw [Nat.xor_comm c, Nat.xor_comm c] at this
  exact xor_cancel this
/-- Texts that differ in one byte have unlike sums. -/
theorem sumK_one {t u : Nat → Nat} {c i : Nat} (hc : c < 4294967296) (ht : ∀ k, t k < 256) (hu : ∀ k, u k < 256) (hne : t i ≠ u i) (he : ∀ j, j ≠ i → t j = u j) : ∀ n, i < n → sumK t c n ≠ sumK u c n
  | 0, h => by omega
  | n + 1, h => by
    intro e
    rw [sumK, sumK] at e
    by_cases hi : i = n
    · subst hi
      rw [sumK_congr i (fun j hj => he j (by omega))] at e
      exact hne (stepS_byte (sumK_lt hc hu i) (ht i) (hu i) e)
    · rw [he n (fun x => hi x.symm)] at e
      exact sumK_one hc ht hu hne he n (by omega) (stepS_inj (sumK_lt hc ht n) (sumK_lt hc hu n) (hu n) e)
end Go.Proofs.YtbkhhkknhbddeaaDoor
