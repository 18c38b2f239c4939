/- Ballots, by the program: what a note says, asked for; what was taken before; what a voice that is asked becomes and tells. -/
import Derived.Test.YtgehdgmllilmgaaYI
namespace Go.Proofs.Ytgehdgmllilmgaa
open Go.RowKit
set_option linter.unusedVariables false

theorem sayV1 {m : Nt} (h : m.k = 1) : sayV m = saV1 m.b := by unfold sayV; rw [if_pos h]
theorem sayV2 {m : Nt} (h : m.k = 2) : sayV m = saV2 m.b m.t m.v := by unfold sayV; rw [if_neg (by omega), if_pos h]
theorem sayV3 {m : Nt} (h : m.k = 3) : sayV m = saV3 m.b m.v := by unfold sayV; rw [if_neg (by omega), if_neg (by omega), if_pos h]
theorem sayV4 {m : Nt} (h : m.k = 4) : sayV m = saV4 m.b m.v := by unfold sayV; rw [if_neg (by omega), if_neg (by omega), if_neg (by omega), if_pos h]
theorem sayVn {m : Nt} (h1 : m.k ≠ 1) (h2 : m.k ≠ 2) (h3 : m.k ≠ 3) (h4 : m.k ≠ 4) : sayV m = .nilIface := by unfold sayV; rw [if_neg h1, if_neg h2, if_neg h3, if_neg h4]

theorem as1_1 (v : Value) (w : World) : (Instr.typeAssert (.iface 137 v) 145 137 true).run Try.prog w = .ok (.tuple #[v, .bool true]) w := by kernel_rfl
theorem as1_2 (v : Value) (w : World) : (Instr.typeAssert (.iface 162 v) 145 137 true).run Try.prog w = .ok (.tuple #[.agg #[.int .i64 0], .bool false]) w := by kernel_rfl
theorem as1_3 (v : Value) (w : World) : (Instr.typeAssert (.iface 159 v) 145 137 true).run Try.prog w = .ok (.tuple #[.agg #[.int .i64 0], .bool false]) w := by kernel_rfl
theorem as1_4 (v : Value) (w : World) : (Instr.typeAssert (.iface 163 v) 145 137 true).run Try.prog w = .ok (.tuple #[.agg #[.int .i64 0], .bool false]) w := by kernel_rfl
theorem as1_n (w : World) : (Instr.typeAssert .nilIface 145 137 true).run Try.prog w = .ok (.tuple #[.agg #[.int .i64 0], .bool false]) w := by kernel_rfl
theorem as2_1 (v : Value) (w : World) : (Instr.typeAssert (.iface 137 v) 145 162 true).run Try.prog w = .ok (.tuple #[.agg #[.int .i64 0, .int .i64 0, .string ⟨#[]⟩], .bool false]) w := by kernel_rfl
theorem as2_2 (v : Value) (w : World) : (Instr.typeAssert (.iface 162 v) 145 162 true).run Try.prog w = .ok (.tuple #[v, .bool true]) w := by kernel_rfl
theorem as2_3 (v : Value) (w : World) : (Instr.typeAssert (.iface 159 v) 145 162 true).run Try.prog w = .ok (.tuple #[.agg #[.int .i64 0, .int .i64 0, .string ⟨#[]⟩], .bool false]) w := by kernel_rfl
theorem as2_4 (v : Value) (w : World) : (Instr.typeAssert (.iface 163 v) 145 162 true).run Try.prog w = .ok (.tuple #[.agg #[.int .i64 0, .int .i64 0, .string ⟨#[]⟩], .bool false]) w := by kernel_rfl
theorem as2_n (w : World) : (Instr.typeAssert .nilIface 145 162 true).run Try.prog w = .ok (.tuple #[.agg #[.int .i64 0, .int .i64 0, .string ⟨#[]⟩], .bool false]) w := by kernel_rfl
theorem as3_1 (v : Value) (w : World) : (Instr.typeAssert (.iface 137 v) 145 159 true).run Try.prog w = .ok (.tuple #[.agg #[.int .i64 0, .string ⟨#[]⟩], .bool false]) w := by kernel_rfl
theorem as3_2 (v : Value) (w : World) : (Instr.typeAssert (.iface 162 v) 145 159 true).run Try.prog w = .ok (.tuple #[.agg #[.int .i64 0, .string ⟨#[]⟩], .bool false]) w := by kernel_rfl
theorem as3_3 (v : Value) (w : World) : (Instr.typeAssert (.iface 159 v) 145 159 true).run Try.prog w = .ok (.tuple #[v, .bool true]) w := by kernel_rfl
theorem as3_4 (v : Value) (w : World) : (Instr.typeAssert (.iface 163 v) 145 159 true).run Try.prog w = .ok (.tuple #[.agg #[.int .i64 0, .string ⟨#[]⟩], .bool false]) w := by kernel_rfl
theorem as3_n (w : World) : (Instr.typeAssert .nilIface 145 159 true).run Try.prog w = .ok (.tuple #[.agg #[.int .i64 0, .string ⟨#[]⟩], .bool false]) w := by kernel_rfl

set_option maxRecDepth 100000 in
theorem takenB1 (b : Int) (w : World) :
    Calls Try.prog 120 #[saV1 b] w fun e w' => e = .returned (.tuple #[.int .i64 0, .string ⟨#[]⟩]) ∧ Below w.heap.size w w' := by
  unfold saV1
  have q := as2_1
  go_enter Try.func120, Try.ntmps120
  go_wp2
  go_returns
  exact ⟨rfl, by go_grown⟩

set_option maxRecDepth 100000 in
theorem takenB2 (b t : Int) (v : ByteArray) (w : World) :
    Calls Try.prog 120 #[saV2 b t v] w fun e w' => e = .returned (.tuple #[.int .i64 t, .string v]) ∧ Below w.heap.size w w' := by
  unfold saV2
  have q := as2_2
  go_enter Try.func120, Try.ntmps120
  go_wp2_with fail
  go_quiet (fail)
  go_wp2
  go_returns
  exact ⟨rfl, below_drewN ((Below.refl _ w).alloc (Nat.le_refl _) _) _⟩

set_option maxRecDepth 100000 in
theorem takenB3 (b : Int) (v : ByteArray) (w : World) :
    Calls Try.prog 120 #[saV3 b v] w fun e w' => e = .returned (.tuple #[.int .i64 0, .string ⟨#[]⟩]) ∧ Below w.heap.size w w' := by
  unfold saV3
  have q := as2_3
  go_enter Try.func120, Try.ntmps120
  go_wp2
  go_returns
  exact ⟨rfl, by go_grown⟩

set_option maxRecDepth 100000 in
theorem takenB4 (b : Int) (v : ByteArray) (w : World) :
    Calls Try.prog 120 #[saV4 b v] w fun e w' => e = .returned (.tuple #[.int .i64 0, .string ⟨#[]⟩]) ∧ Below w.heap.size w w' := by
  unfold saV4
  have q := as2_4
  go_enter Try.func120, Try.ntmps120
  go_wp2
  go_returns
  exact ⟨rfl, by go_grown⟩

set_option maxRecDepth 100000 in
theorem takenBn  (w : World) :
    Calls Try.prog 120 #[.nilIface] w fun e w' => e = .returned (.tuple #[.int .i64 0, .string ⟨#[]⟩]) ∧ Below w.heap.size w w' := by
  skip
  have q := as2_n
  go_enter Try.func120, Try.ntmps120
  go_wp2
  go_returns
  exact ⟨rfl, by go_grown⟩

/-- A struct and a value, told together. -/
theorem resH2 {P : Program} {fn : Func} {p u : Tmp} {ty : TypeId} (h : fn.results = #[.cell p ty, .tmp u]) (tmps : Array Value) (w : World) (g : Nat) (t : TypeId) (cs : Array Value) (fr : Nat × Nat) (d : TypeDesc)
    (hp : tmps.getD p undef = .pointer (some ⟨g, 0, none⟩)) (hg : w.heap[g]? = some (.cells cs t fr))
    (hu : P.underlying ty = some d) (hd : (match d with | .struct _ | .array _ _ => true | _ => false) = true) (hi : (P.info? ty).map (·.size) = some cs.size) :
    (results fn tmps).run P w = .ok (.tuple #[.agg cs, tmps.getD u undef]) w := by
  have hp' : tmps[p]?.getD undef = .pointer (some ⟨g, 0, none⟩) := by simpa using hp
  simp [results, h, hp', asAddr, run_loadVar_row w g t ty cs fr d hg hu hd hi]

set_option maxRecDepth 100000 in
set_option maxHeartbeats 2000000 in
theorem ansYes1 (p t : Int) (v : ByteArray) (b : Int) (w : World) (hb : p < b) :
    Calls Try.prog 115 #[.agg #[.int .i64 p, .int .i64 t, .string v], saV1 b] w fun e w' => e = .returned (.tuple #[.agg #[.int .i64 b, .int .i64 t, .string v], saV2 b t v]) ∧ Below w.heap.size w w' := by
  unfold saV1
  have qa := as1_1
  have qb := as3_1
  have F0 := hide1 (blkN4 w #[.int .i64 p, .int .i64 t, .string v] #[.int .i64 0, .int .i64 0, .string ⟨#[]⟩] #[.int .i64 b] #[.int .i64 b, .int .i64 t, .string v] 43 43 137 43)
  go_enter Try.func115, Try.ntmps115
  go_wp2_with fail
  generalize ((((w.alloc (.cells #[.int .i64 p, .int .i64 t, .string v] 43)).alloc (.cells #[.int .i64 0, .int .i64 0, .string ⟨#[]⟩] 43)).alloc (.cells #[.int .i64 b] 137)).alloc (.cells #[.int .i64 b, .int .i64 t, .string v] 43)) = w0 at F0 ⊢
  obtain ⟨K0, K1, K2, K3, B0⟩ := F0.out
  have HK1 := hide1 K1
  have HB0 := hide1 B0
  have hs0 : w.heap.size + 1 + 1 + 1 < w0.heap.size := K3.lt
  have a00 : w0.cell? ⟨w.heap.size, 0, none⟩ = some (.int .i64 p) := K0.cell 0
  have a01 : w0.cell? ⟨w.heap.size, 1, none⟩ = some (.int .i64 t) := K0.cell 1
  have a02 : w0.cell? ⟨w.heap.size, 2, none⟩ = some (.string v) := K0.cell 2
  have a10 : w0.cell? ⟨w.heap.size + 1, 0, none⟩ = some (.int .i64 0) := K1.cell 0
  have a11 : w0.cell? ⟨w.heap.size + 1, 1, none⟩ = some (.int .i64 0) := K1.cell 1
  have a12 : w0.cell? ⟨w.heap.size + 1, 2, none⟩ = some (.string ⟨#[]⟩) := K1.cell 2
  have a20 : w0.cell? ⟨w.heap.size + 1 + 1, 0, none⟩ = some (.int .i64 b) := K2.cell 0
  have a30 : w0.cell? ⟨w.heap.size + 1 + 1 + 1, 0, none⟩ = some (.int .i64 b) := K3.cell 0
  have a31 : w0.cell? ⟨w.heap.size + 1 + 1 + 1, 1, none⟩ = some (.int .i64 t) := K3.cell 1
  have a32 : w0.cell? ⟨w.heap.size + 1 + 1 + 1, 2, none⟩ = some (.string v) := K3.cell 2
  have zf : ∀ j, w0.frozen? ⟨w.heap.size + 1, j, none⟩ = false := fun j => K1.froz j
  clear F0 K0 K1 K2 K3 B0
  have k01 : ∀ (u : World) (i j : Nat) (y : Value), (u.setCell ⟨w.heap.size + 1, i, none⟩ y).cell? ⟨w.heap.size, j, none⟩ = u.cell? ⟨w.heap.size, j, none⟩ := fun u i j y => World.cell?_setCell_far _ _ _ _ (by dsimp only; omega)
  have k21 : ∀ (u : World) (i j : Nat) (y : Value), (u.setCell ⟨w.heap.size + 1, i, none⟩ y).cell? ⟨w.heap.size + 1 + 1, j, none⟩ = u.cell? ⟨w.heap.size + 1 + 1, j, none⟩ := fun u i j y => World.cell?_setCell_far _ _ _ _ (by dsimp only; omega)
  have k31 : ∀ (u : World) (i j : Nat) (y : Value), (u.setCell ⟨w.heap.size + 1, i, none⟩ y).cell? ⟨w.heap.size + 1 + 1 + 1, j, none⟩ = u.cell? ⟨w.heap.size + 1 + 1 + 1, j, none⟩ := fun u i j y => World.cell?_setCell_far _ _ _ _ (by dsimp only; omega)
  go_region_held3 (fun w' => w'.cell? ⟨w.heap.size, 0, none⟩ = some (.int .i64 p) ∧ w'.cell? ⟨w.heap.size, 1, none⟩ = some (.int .i64 t) ∧ w'.cell? ⟨w.heap.size, 2, none⟩ = some (.string v) ∧ w'.cell? ⟨w.heap.size + 1 + 1, 0, none⟩ = some (.int .i64 b) ∧ w'.cell? ⟨w.heap.size + 1 + 1 + 1, 0, none⟩ = some (.int .i64 b) ∧ w'.cell? ⟨w.heap.size + 1 + 1 + 1, 1, none⟩ = some (.int .i64 t) ∧ w'.cell? ⟨w.heap.size + 1 + 1 + 1, 2, none⟩ = some (.string v)) (first | go_keep | simp only [World.cell?_drew, k01, k21, k31, a00, a01, a02, a20, a30, a31, a32, and_self]) (fail)
  go_wp2
  have NB : Blk (((w0.setCell ⟨w.heap.size + 1, 0, none⟩ (.int .i64 b)).setCell ⟨w.heap.size + 1, 1, none⟩ (.int .i64 t)).setCell ⟨w.heap.size + 1, 2, none⟩ (.string v)) (w.heap.size + 1) 43 [.int .i64 b, .int .i64 t, .string v] := (Blk.set (Blk.set (Blk.set HK1.out 0 (.int .i64 b)) 1 (.int .i64 t)) 2 (.string v))
  have BF : Below w.heap.size w (((w0.setCell ⟨w.heap.size + 1, 0, none⟩ (.int .i64 b)).setCell ⟨w.heap.size + 1, 1, none⟩ (.int .i64 t)).setCell ⟨w.heap.size + 1, 2, none⟩ (.string v)) := (((HB0.out.setCell (p := ⟨w.heap.size + 1, 0, none⟩) (by dsimp only; omega) _).setCell (p := ⟨w.heap.size + 1, 1, none⟩) (by dsimp only; omega) _).setCell (p := ⟨w.heap.size + 1, 2, none⟩) (by dsimp only; omega) _)
  generalize (((w0.setCell ⟨w.heap.size + 1, 0, none⟩ (.int .i64 b)).setCell ⟨w.heap.size + 1, 1, none⟩ (.int .i64 t)).setCell ⟨w.heap.size + 1, 2, none⟩ (.string v)) = w9 at NB BF ⊢
  refine bodyPost_ret (resH2 Try.results115 _ _ (w.heap.size + 1) 43 #[.int .i64 b, .int .i64 t, .string v] (0, 0) _ rfl NB Try.underlying43 rfl (by kernel_rfl)) rfl ?_
  first | exact ⟨rfl, BF⟩ | exact ⟨rfl, BF.drew⟩

set_option maxRecDepth 100000 in
set_option maxHeartbeats 2000000 in
theorem ansYes3 (p t : Int) (v : ByteArray) (b : Int) (z : ByteArray) (w : World) (hb : p ≤ b) :
    Calls Try.prog 115 #[.agg #[.int .i64 p, .int .i64 t, .string v], saV3 b z] w fun e w' => e = .returned (.tuple #[.agg #[.int .i64 b, .int .i64 b, .string z], saV4 b z]) ∧ Below w.heap.size w w' := by
  unfold saV3
  have qa := as1_3
  have qb := as3_3
  have F0 := hide1 (blkN4 w #[.int .i64 p, .int .i64 t, .string v] #[.int .i64 0, .int .i64 0, .string ⟨#[]⟩] #[.int .i64 b, .string z] #[.int .i64 b, .int .i64 b, .string z] 43 43 159 43)
  go_enter Try.func115, Try.ntmps115
  go_wp2_with fail
  generalize ((((w.alloc (.cells #[.int .i64 p, .int .i64 t, .string v] 43)).alloc (.cells #[.int .i64 0, .int .i64 0, .string ⟨#[]⟩] 43)).alloc (.cells #[.int .i64 b, .string z] 159)).alloc (.cells #[.int .i64 b, .int .i64 b, .string z] 43)) = w0 at F0 ⊢
  obtain ⟨K0, K1, K2, K3, B0⟩ := F0.out
  have HK1 := hide1 K1
  have HB0 := hide1 B0
  have hs0 : w.heap.size + 1 + 1 + 1 < w0.heap.size := K3.lt
  have a00 : w0.cell? ⟨w.heap.size, 0, none⟩ = some (.int .i64 p) := K0.cell 0
  have a01 : w0.cell? ⟨w.heap.size, 1, none⟩ = some (.int .i64 t) := K0.cell 1
  have a02 : w0.cell? ⟨w.heap.size, 2, none⟩ = some (.string v) := K0.cell 2
  have a10 : w0.cell? ⟨w.heap.size + 1, 0, none⟩ = some (.int .i64 0) := K1.cell 0
  have a11 : w0.cell? ⟨w.heap.size + 1, 1, none⟩ = some (.int .i64 0) := K1.cell 1
  have a12 : w0.cell? ⟨w.heap.size + 1, 2, none⟩ = some (.string ⟨#[]⟩) := K1.cell 2
  have a20 : w0.cell? ⟨w.heap.size + 1 + 1, 0, none⟩ = some (.int .i64 b) := K2.cell 0
  have a21 : w0.cell? ⟨w.heap.size + 1 + 1, 1, none⟩ = some (.string z) := K2.cell 1
  have a30 : w0.cell? ⟨w.heap.size + 1 + 1 + 1, 0, none⟩ = some (.int .i64 b) := K3.cell 0
  have a31 : w0.cell? ⟨w.heap.size + 1 + 1 + 1, 1, none⟩ = some (.int .i64 b) := K3.cell 1
  have a32 : w0.cell? ⟨w.heap.size + 1 + 1 + 1, 2, none⟩ = some (.string z) := K3.cell 2
  have zf : ∀ j, w0.frozen? ⟨w.heap.size + 1, j, none⟩ = false := fun j => K1.froz j
  clear F0 K0 K1 K2 K3 B0
  have k01 : ∀ (u : World) (i j : Nat) (y : Value), (u.setCell ⟨w.heap.size + 1, i, none⟩ y).cell? ⟨w.heap.size, j, none⟩ = u.cell? ⟨w.heap.size, j, none⟩ := fun u i j y => World.cell?_setCell_far _ _ _ _ (by dsimp only; omega)
  have k21 : ∀ (u : World) (i j : Nat) (y : Value), (u.setCell ⟨w.heap.size + 1, i, none⟩ y).cell? ⟨w.heap.size + 1 + 1, j, none⟩ = u.cell? ⟨w.heap.size + 1 + 1, j, none⟩ := fun u i j y => World.cell?_setCell_far _ _ _ _ (by dsimp only; omega)
  have k31 : ∀ (u : World) (i j : Nat) (y : Value), (u.setCell ⟨w.heap.size + 1, i, none⟩ y).cell? ⟨w.heap.size + 1 + 1 + 1, j, none⟩ = u.cell? ⟨w.heap.size + 1 + 1 + 1, j, none⟩ := fun u i j y => World.cell?_setCell_far _ _ _ _ (by dsimp only; omega)
  go_region_held3 (fun w' => w'.cell? ⟨w.heap.size, 0, none⟩ = some (.int .i64 p) ∧ w'.cell? ⟨w.heap.size, 1, none⟩ = some (.int .i64 t) ∧ w'.cell? ⟨w.heap.size, 2, none⟩ = some (.string v) ∧ w'.cell? ⟨w.heap.size + 1 + 1, 0, none⟩ = some (.int .i64 b) ∧ w'.cell? ⟨w.heap.size + 1 + 1, 1, none⟩ = some (.string z) ∧ w'.cell? ⟨w.heap.size + 1 + 1 + 1, 0, none⟩ = some (.int .i64 b) ∧ w'.cell? ⟨w.heap.size + 1 + 1 + 1, 1, none⟩ = some (.int .i64 b) ∧ w'.cell? ⟨w.heap.size + 1 + 1 + 1, 2, none⟩ = some (.string z)) (first | go_keep | simp only [World.cell?_drew, k01, k21, k31, a00, a01, a02, a20, a21, a30, a31, a32, and_self]) (fail)
  go_wp2
  have NB : Blk (((w0.setCell ⟨w.heap.size + 1, 0, none⟩ (.int .i64 b)).setCell ⟨w.heap.size + 1, 1, none⟩ (.int .i64 b)).setCell ⟨w.heap.size + 1, 2, none⟩ (.string z)) (w.heap.size + 1) 43 [.int .i64 b, .int .i64 b, .string z] := (Blk.set (Blk.set (Blk.set HK1.out 0 (.int .i64 b)) 1 (.int .i64 b)) 2 (.string z))
  have BF : Below w.heap.size w (((w0.setCell ⟨w.heap.size + 1, 0, none⟩ (.int .i64 b)).setCell ⟨w.heap.size + 1, 1, none⟩ (.int .i64 b)).setCell ⟨w.heap.size + 1, 2, none⟩ (.string z)) := (((HB0.out.setCell (p := ⟨w.heap.size + 1, 0, none⟩) (by dsimp only; omega) _).setCell (p := ⟨w.heap.size + 1, 1, none⟩) (by dsimp only; omega) _).setCell (p := ⟨w.heap.size + 1, 2, none⟩) (by dsimp only; omega) _)
  generalize (((w0.setCell ⟨w.heap.size + 1, 0, none⟩ (.int .i64 b)).setCell ⟨w.heap.size + 1, 1, none⟩ (.int .i64 b)).setCell ⟨w.heap.size + 1, 2, none⟩ (.string z)) = w9 at NB BF ⊢
  refine bodyPost_ret (resH2 Try.results115 _ _ (w.heap.size + 1) 43 #[.int .i64 b, .int .i64 b, .string z] (0, 0) _ rfl NB Try.underlying43 rfl (by kernel_rfl)) rfl ?_
  first | exact ⟨rfl, BF⟩ | exact ⟨rfl, BF.drew⟩

set_option maxRecDepth 100000 in
set_option maxHeartbeats 2000000 in
theorem ansNo1 (p t : Int) (v : ByteArray) (b : Int) (w : World) (hb : ¬ p < b) :
    Calls Try.prog 115 #[.agg #[.int .i64 p, .int .i64 t, .string v], saV1 b] w fun e w' => e = .returned (.tuple #[.agg #[.int .i64 p, .int .i64 t, .string v], .nilIface]) ∧ Below w.heap.size w w' := by
  unfold saV1
  have qa := as1_1
  have qb := as3_1
  go_enter Try.func115, Try.ntmps115
  go_wp2
  go_returns
  exact ⟨rfl, by go_grown⟩

set_option maxRecDepth 100000 in
set_option maxHeartbeats 2000000 in
theorem ansNo3 (p t : Int) (v : ByteArray) (b : Int) (z : ByteArray) (w : World) (hb : ¬ p ≤ b) :
    Calls Try.prog 115 #[.agg #[.int .i64 p, .int .i64 t, .string v], saV3 b z] w fun e w' => e = .returned (.tuple #[.agg #[.int .i64 p, .int .i64 t, .string v], .nilIface]) ∧ Below w.heap.size w w' := by
  unfold saV3
  have qa := as1_3
  have qb := as3_3
  go_enter Try.func115, Try.ntmps115
  go_wp2
  go_returns
  exact ⟨rfl, by go_grown⟩

set_option maxRecDepth 100000 in
set_option maxHeartbeats 2000000 in
theorem ansNo2 (p t : Int) (v : ByteArray) (b u : Int) (z : ByteArray) (w : World)  :
    Calls Try.prog 115 #[.agg #[.int .i64 p, .int .i64 t, .string v], saV2 b u z] w fun e w' => e = .returned (.tuple #[.agg #[.int .i64 p, .int .i64 t, .string v], .nilIface]) ∧ Below w.heap.size w w' := by
  unfold saV2
  have qa := as1_2
  have qb := as3_2
  go_enter Try.func115, Try.ntmps115
  go_wp2
  go_returns
  exact ⟨rfl, by go_grown⟩

set_option maxRecDepth 100000 in
set_option maxHeartbeats 2000000 in
theorem ansNo4 (p t : Int) (v : ByteArray) (b : Int) (z : ByteArray) (w : World)  :
    Calls Try.prog 115 #[.agg #[.int .i64 p, .int .i64 t, .string v], saV4 b z] w fun e w' => e = .returned (.tuple #[.agg #[.int .i64 p, .int .i64 t, .string v], .nilIface]) ∧ Below w.heap.size w w' := by
  unfold saV4
  have qa := as1_4
  have qb := as3_4
  go_enter Try.func115, Try.ntmps115
  go_wp2
  go_returns
  exact ⟨rfl, by go_grown⟩

set_option maxRecDepth 100000 in
set_option maxHeartbeats 2000000 in
theorem ansNon (p t : Int) (v : ByteArray)  (w : World)  :
    Calls Try.prog 115 #[.agg #[.int .i64 p, .int .i64 t, .string v], .nilIface] w fun e w' => e = .returned (.tuple #[.agg #[.int .i64 p, .int .i64 t, .string v], .nilIface]) ∧ Below w.heap.size w w' := by
  skip
  have qa := as1_n
  have qb := as3_n
  go_enter Try.func115, Try.ntmps115
  go_wp2
  go_returns
  exact ⟨rfl, by go_grown⟩

end Go.Proofs.Ytgehdgmllilmgaa
namespace Go.Proofs.Ytgehdgmllilmgaa
open Go.RowKit
set_option linter.unusedVariables false

/-- A region of a text, by its number. -/
def pickR (n : Nat) : Go.Code → Option Go.Code
  | .region m o d => if m = n then some (.region m o d) else none
  | .seq a b => match pickR n a with
    | some c => some c
    | none => pickR n b
  | .cond _ a b => match pickR n a with
    | some c => some c
    | none => pickR n b
  | .block _ a => pickR n a
  | .loop a => pickR n a
  | _ => none
/-- A box that was made ahead of a call stands behind it. -/
theorem zbG {u w7 : World} {cs : Array Value} {t : TypeId} (hb : Below (u.alloc (.cells cs t)).heap.size (u.alloc (.cells cs t)) w7) : Blk w7 u.heap.size t cs.toList :=
  Blk.below (Blk.new u t cs) hb (by rw [World.size_alloc]; omega)
theorem zbGD {u w7 : World} {cs : Array Value} {t : TypeId} (hb : Below (u.alloc (.cells cs t)).drew.heap.size (u.alloc (.cells cs t)).drew w7) : Blk w7 u.heap.size t cs.toList :=
  Blk.below (w := (u.alloc (.cells cs t)).drew) (Blk.new u t cs) hb (show u.heap.size < (u.alloc (.cells cs t)).heap.size by rw [World.size_alloc]; omega)
theorem zbGE {u w7 : World} {cs : Array Value} {t : TypeId} (hb : Below (u.drew.alloc (.cells cs t)).heap.size (u.drew.alloc (.cells cs t)) w7) : Blk w7 u.heap.size t cs.toList :=
  Blk.below (Blk.new u.drew t cs) hb (show u.drew.heap.size < _ by rw [World.size_alloc]; omega)

set_option maxRecDepth 100000 in
set_option maxHeartbeats 4000000 in
theorem regAns {c : Go.Code} {Q : Exit → Act → World → Prop} {u : World} {X N : Nat} {p t k f o b q x0 x1 : Int} {v z x2 : ByteArray} {s1 s2 : Value} {y0 y1 y4 y5 y6 y7 y8 y9 ya yb yc yd ye yf yg yh yi yj yk yl ym yn yo yp yq yr ys yt yu yv yw yx yy yz yA yB yC yD : Value} (hc : pickR 3 (Try.f105.body.getD .skip) = some c)
    (hX : Blk u X 43 [.int .i64 p, .int .i64 t, .string v]) (hN : Blk u N 111 [.int .i64 k, .int .i64 f, .int .i64 o, .int .i64 b, .int .i64 q, .string z])
    (C1 : ∀ w', Calls Try.prog 116 #[.agg #[.int .i64 k, .int .i64 f, .int .i64 o, .int .i64 b, .int .i64 q, .string z]] w' fun e w'' => e = .returned s1 ∧ Below w'.heap.size w' w'')
    (C2 : ∀ w', Calls Try.prog 115 #[.agg #[.int .i64 p, .int .i64 t, .string v], s1] w' fun e w'' => e = .returned (.tuple #[.agg #[.int .i64 x0, .int .i64 x1, .string x2], s2]) ∧ Below w'.heap.size w' w'')
    (hQ : ∀ bx w', u.heap.size ≤ bx → Blk w' bx 43 [.int .i64 x0, .int .i64 x1, .string x2] → Below u.heap.size u w' → Q .normal { tmps := #[y0, y1, .pointer (some ⟨X, 0, none⟩), .pointer (some ⟨N, 0, none⟩), y4, y5, y6, .pointer (some ⟨bx, 0, none⟩), s2, y9, ya, yb, yc, yd, ye, yf, yg, yh, yi, yj, .tuple #[.agg #[.int .i64 x0, .int .i64 x1, .string x2], s2], .agg #[.int .i64 p, .int .i64 t, .string v], .agg #[.int .i64 k, .int .i64 f, .int .i64 o, .int .i64 b, .int .i64 q, .string z], s1, .tuple #[.agg #[.int .i64 x0, .int .i64 x1, .string x2], s2], .agg #[.int .i64 x0, .int .i64 x1, .string x2], s2, yr, ys, yt, yu, yv, yw, yx, yy, yz, yA, yB, yC, yD], defers := [] } w') :
    Go.Code.wp Try.prog c Q { tmps := #[y0, y1, .pointer (some ⟨X, 0, none⟩), .pointer (some ⟨N, 0, none⟩), y4, y5, y6, y7, y8, y9, ya, yb, yc, yd, ye, yf, yg, yh, yi, yj, yk, yl, ym, yn, yo, yp, yq, yr, ys, yt, yu, yv, yw, yx, yy, yz, yA, yB, yC, yD], defers := [] } u := by
  have ec : some c = some _ := hc.symm.trans (show pickR 3 (Try.f105.body.getD .skip) = some _ from rfl)
  injection ec with ec
  subst ec
  have D1 := hide1 C1
  have D2 := hide1 C2
  have HQ := hide1 hQ
  have HX := hide1 hX
  have HN := hide1 hN
  clear C1 C2 hQ hc
  have a0 : u.cell? ⟨X, 0, none⟩ = some (.int .i64 p) := hX.cell 0
  have a1 : u.cell? ⟨X, 1, none⟩ = some (.int .i64 t) := hX.cell 1
  have a2 : u.cell? ⟨X, 2, none⟩ = some (.string v) := hX.cell 2
  have n0 : u.cell? ⟨N, 0, none⟩ = some (.int .i64 k) := hN.cell 0
  have n1 : u.cell? ⟨N, 1, none⟩ = some (.int .i64 f) := hN.cell 1
  have n2 : u.cell? ⟨N, 2, none⟩ = some (.int .i64 o) := hN.cell 2
  have n3 : u.cell? ⟨N, 3, none⟩ = some (.int .i64 b) := hN.cell 3
  have n4 : u.cell? ⟨N, 4, none⟩ = some (.int .i64 q) := hN.cell 4
  have n5 : u.cell? ⟨N, 5, none⟩ = some (.string z) := hN.cell 5
  clear hX hN
  have hXl : X < u.heap.size := HX.out.lt
  have hNl : N < u.heap.size := HN.out.lt
  go_region_held3 (fun w' => w'.cell? ⟨X, 0, none⟩ = some (.int .i64 p) ∧ w'.cell? ⟨X, 1, none⟩ = some (.int .i64 t) ∧ w'.cell? ⟨X, 2, none⟩ = some (.string v) ∧ w'.cell? ⟨N, 0, none⟩ = some (.int .i64 k) ∧ w'.cell? ⟨N, 1, none⟩ = some (.int .i64 f) ∧ w'.cell? ⟨N, 2, none⟩ = some (.int .i64 o) ∧ w'.cell? ⟨N, 3, none⟩ = some (.int .i64 b) ∧ w'.cell? ⟨N, 4, none⟩ = some (.int .i64 q) ∧ w'.cell? ⟨N, 5, none⟩ = some (.string z)) (first | go_keep | exact ⟨((Bb.out.trans (show Below u.heap.size wb _ by have := Bb.out.size; have := Ba.out.size; go_grown)).cell (p := ⟨X, 0, none⟩) HX.out.lt).trans (HX.out.cell 0), ((Bb.out.trans (show Below u.heap.size wb _ by have := Bb.out.size; have := Ba.out.size; go_grown)).cell (p := ⟨X, 1, none⟩) HX.out.lt).trans (HX.out.cell 1), ((Bb.out.trans (show Below u.heap.size wb _ by have := Bb.out.size; have := Ba.out.size; go_grown)).cell (p := ⟨X, 2, none⟩) HX.out.lt).trans (HX.out.cell 2), ((Bb.out.trans (show Below u.heap.size wb _ by have := Bb.out.size; have := Ba.out.size; go_grown)).cell (p := ⟨N, 0, none⟩) HN.out.lt).trans (HN.out.cell 0), ((Bb.out.trans (show Below u.heap.size wb _ by have := Bb.out.size; have := Ba.out.size; go_grown)).cell (p := ⟨N, 1, none⟩) HN.out.lt).trans (HN.out.cell 1), ((Bb.out.trans (show Below u.heap.size wb _ by have := Bb.out.size; have := Ba.out.size; go_grown)).cell (p := ⟨N, 2, none⟩) HN.out.lt).trans (HN.out.cell 2), ((Bb.out.trans (show Below u.heap.size wb _ by have := Bb.out.size; have := Ba.out.size; go_grown)).cell (p := ⟨N, 3, none⟩) HN.out.lt).trans (HN.out.cell 3), ((Bb.out.trans (show Below u.heap.size wb _ by have := Bb.out.size; have := Ba.out.size; go_grown)).cell (p := ⟨N, 4, none⟩) HN.out.lt).trans (HN.out.cell 4), ((Bb.out.trans (show Below u.heap.size wb _ by have := Bb.out.size; have := Ba.out.size; go_grown)).cell (p := ⟨N, 5, none⟩) HN.out.lt).trans (HN.out.cell 5)⟩ | exact ⟨((Ba.out.trans (show Below u.heap.size wa _ by have := Ba.out.size; go_grown)).cell (p := ⟨X, 0, none⟩) HX.out.lt).trans (HX.out.cell 0), ((Ba.out.trans (show Below u.heap.size wa _ by have := Ba.out.size; go_grown)).cell (p := ⟨X, 1, none⟩) HX.out.lt).trans (HX.out.cell 1), ((Ba.out.trans (show Below u.heap.size wa _ by have := Ba.out.size; go_grown)).cell (p := ⟨X, 2, none⟩) HX.out.lt).trans (HX.out.cell 2), ((Ba.out.trans (show Below u.heap.size wa _ by have := Ba.out.size; go_grown)).cell (p := ⟨N, 0, none⟩) HN.out.lt).trans (HN.out.cell 0), ((Ba.out.trans (show Below u.heap.size wa _ by have := Ba.out.size; go_grown)).cell (p := ⟨N, 1, none⟩) HN.out.lt).trans (HN.out.cell 1), ((Ba.out.trans (show Below u.heap.size wa _ by have := Ba.out.size; go_grown)).cell (p := ⟨N, 2, none⟩) HN.out.lt).trans (HN.out.cell 2), ((Ba.out.trans (show Below u.heap.size wa _ by have := Ba.out.size; go_grown)).cell (p := ⟨N, 3, none⟩) HN.out.lt).trans (HN.out.cell 3), ((Ba.out.trans (show Below u.heap.size wa _ by have := Ba.out.size; go_grown)).cell (p := ⟨N, 4, none⟩) HN.out.lt).trans (HN.out.cell 4), ((Ba.out.trans (show Below u.heap.size wa _ by have := Ba.out.size; go_grown)).cell (p := ⟨N, 5, none⟩) HN.out.lt).trans (HN.out.cell 5)⟩ | exact ⟨(((show Below u.heap.size u _ by go_grown)).cell (p := ⟨X, 0, none⟩) HX.out.lt).trans (HX.out.cell 0), (((show Below u.heap.size u _ by go_grown)).cell (p := ⟨X, 1, none⟩) HX.out.lt).trans (HX.out.cell 1), (((show Below u.heap.size u _ by go_grown)).cell (p := ⟨X, 2, none⟩) HX.out.lt).trans (HX.out.cell 2), (((show Below u.heap.size u _ by go_grown)).cell (p := ⟨N, 0, none⟩) HN.out.lt).trans (HN.out.cell 0), (((show Below u.heap.size u _ by go_grown)).cell (p := ⟨N, 1, none⟩) HN.out.lt).trans (HN.out.cell 1), (((show Below u.heap.size u _ by go_grown)).cell (p := ⟨N, 2, none⟩) HN.out.lt).trans (HN.out.cell 2), (((show Below u.heap.size u _ by go_grown)).cell (p := ⟨N, 3, none⟩) HN.out.lt).trans (HN.out.cell 3), (((show Below u.heap.size u _ by go_grown)).cell (p := ⟨N, 4, none⟩) HN.out.lt).trans (HN.out.cell 4), (((show Below u.heap.size u _ by go_grown)).cell (p := ⟨N, 5, none⟩) HN.out.lt).trans (HN.out.cell 5)⟩) ((first
    | (have := Ba.out; go_at_call 115; refine (D2.out _).mono ?_; rintro e wb ⟨rfl, hb2⟩; have Bab : Hid (Below wa.heap.size wa wb) := (show Below wa.heap.size wa _ by go_grown).trans (hb2.mono (by go_size)); have Bb : Hid (Below u.heap.size u wb) := Ba.out.trans (Bab.out.mono Ba.out.size); (first | (have ZB := hide1 (ZA.out.below Bab.out ZA.out.lt)) | (have ZB : Hid (Blk wb wa.heap.size 43 [.int .i64 0, .int .i64 0, .string ⟨#[]⟩]) := (by first | exact zbG hb2 | exact zbGD hb2 | exact zbGE hb2)) | skip); (try (have z0 : wb.cell? ⟨_, 0, none⟩ = some (.int .i64 0) := ZB.out.cell 0; have z1 : wb.cell? ⟨_, 1, none⟩ = some (.int .i64 0) := ZB.out.cell 1; have z2 : wb.cell? ⟨_, 2, none⟩ = some (.string ⟨#[]⟩) := ZB.out.cell 2; have zf : ∀ j, wb.frozen? ⟨_, j, none⟩ = false := fun j => ZB.out.froz j)); clear hb2 a0 a1 a2 n0 n1 n2 n3 n4 n5; have a0 : wb.cell? ⟨X, 0, none⟩ = some (.int .i64 p) := (HX.out.below Bb.out HX.out.lt).cell 0; have a1 : wb.cell? ⟨X, 1, none⟩ = some (.int .i64 t) := (HX.out.below Bb.out HX.out.lt).cell 1; have a2 : wb.cell? ⟨X, 2, none⟩ = some (.string v) := (HX.out.below Bb.out HX.out.lt).cell 2; have n0 : wb.cell? ⟨N, 0, none⟩ = some (.int .i64 k) := (HN.out.below Bb.out HN.out.lt).cell 0; have n1 : wb.cell? ⟨N, 1, none⟩ = some (.int .i64 f) := (HN.out.below Bb.out HN.out.lt).cell 1; have n2 : wb.cell? ⟨N, 2, none⟩ = some (.int .i64 o) := (HN.out.below Bb.out HN.out.lt).cell 2; have n3 : wb.cell? ⟨N, 3, none⟩ = some (.int .i64 b) := (HN.out.below Bb.out HN.out.lt).cell 3; have n4 : wb.cell? ⟨N, 4, none⟩ = some (.int .i64 q) := (HN.out.below Bb.out HN.out.lt).cell 4; have n5 : wb.cell? ⟨N, 5, none⟩ = some (.string z) := (HN.out.below Bb.out HN.out.lt).cell 5)
    | (go_at_call 116; refine (D1.out _).mono ?_; rintro e wa ⟨rfl, hb1⟩; have Ba : Hid (Below u.heap.size u wa) := (show Below u.heap.size u _ by go_grown).trans (hb1.mono (by go_size)); (try (have ZA : Hid (Blk wa u.heap.size 43 [.int .i64 0, .int .i64 0, .string ⟨#[]⟩]) := (by first | exact zbG hb1 | exact zbGD hb1 | exact zbGE hb1))); clear hb1 a0 a1 a2 n0 n1 n2 n3 n4 n5; have a0 : wa.cell? ⟨X, 0, none⟩ = some (.int .i64 p) := (HX.out.below Ba.out HX.out.lt).cell 0; have a1 : wa.cell? ⟨X, 1, none⟩ = some (.int .i64 t) := (HX.out.below Ba.out HX.out.lt).cell 1; have a2 : wa.cell? ⟨X, 2, none⟩ = some (.string v) := (HX.out.below Ba.out HX.out.lt).cell 2; have n0 : wa.cell? ⟨N, 0, none⟩ = some (.int .i64 k) := (HN.out.below Ba.out HN.out.lt).cell 0; have n1 : wa.cell? ⟨N, 1, none⟩ = some (.int .i64 f) := (HN.out.below Ba.out HN.out.lt).cell 1; have n2 : wa.cell? ⟨N, 2, none⟩ = some (.int .i64 o) := (HN.out.below Ba.out HN.out.lt).cell 2; have n3 : wa.cell? ⟨N, 3, none⟩ = some (.int .i64 b) := (HN.out.below Ba.out HN.out.lt).cell 3; have n4 : wa.cell? ⟨N, 4, none⟩ = some (.int .i64 q) := (HN.out.below Ba.out HN.out.lt).cell 4; have n5 : wa.cell? ⟨N, 5, none⟩ = some (.string z) := (HN.out.below Ba.out HN.out.lt).cell 5)))
  all_goals
    have sa := Ba.out.size
    have sb := Bb.out.size
    first
      | (have := ZB.out; exact HQ.out _ _ (by omega) (Blk.set (Blk.set (Blk.set ZB.out 0 _) 1 _) 2 _) (Bb.out.trans (show Below u.heap.size wb _ by go_grown)))
      | exact HQ.out _ _ sb (Blk.new wb _ _) (Bb.out.trans (show Below u.heap.size wb _ by go_grown))
      | exact HQ.out _ _ sb (Blk.new wb.drew _ _) (Bb.out.trans (show Below u.heap.size wb _ by go_grown))

/-- What was taken before, by the note itself. -/
def tkT (m : Nt) : Int := if m.k = 2 then m.t else 0
def tkV (m : Nt) : ByteArray := if m.k = 2 then m.v else ⟨#[]⟩
theorem takenB_any (m : Nt) (w : World) : Calls Try.prog 120 #[sayV m] w fun e w' => e = .returned (.tuple #[.int .i64 (tkT m), .string (tkV m)]) ∧ Below w.heap.size w w' := by
  unfold tkT tkV
  by_cases c2 : m.k = 2
  · rw [sayV2 c2, if_pos c2, if_pos c2]
    exact takenB2 _ _ _ w
  · rw [if_neg c2, if_neg c2]
    by_cases c1 : m.k = 1
    · rw [sayV1 c1]; exact takenB1 _ w
    · by_cases c3 : m.k = 3
      · rw [sayV3 c3]; exact takenB3 _ _ w
      · by_cases c4 : m.k = 4
        · rw [sayV4 c4]; exact takenB4 _ _ w
        · rw [sayVn c1 c2 c3 c4]; exact takenBn w

set_option maxRecDepth 100000 in
set_option maxHeartbeats 2000000 in
theorem implPick_any (ao : Option Addr) (l : List Nt) (ca : Nat) (own : ByteArray) (w : World) (hl : l.length ≤ 1048576) (hA : RdN6 w ao l) :
    Calls Try.prog 117 #[.slice ao l.length ca, .string own] w fun e w' => e = .returned (.string (pickS l own).2) ∧ Below w.heap.size w w' := by
  have HA := hide1 hA
  clear hA
  go_enter Try.func117, Try.ntmps117
  go_wp2
  go_loopw [5, 6, 14] (fun mv vv iv wr => ∃ i : Nat, i ≤ l.length ∧ iv = .int .i64 (i : Int) ∧ ∃ a : Int × ByteArray, mv = .int .i64 a.1 ∧ vv = .string a.2 ∧ Hid (0 ≤ a.1) ∧ Hid (pickS (l.take i) own = a) ∧ Below w.heap.size w wr) (fun _ _ iv _ => l.length - (intOf iv).toNat)
  case atStart => exact ⟨0, by omega, rfl, (0, own), rfl, rfl, Int.le_refl 0, rfl, Below.refl _ _⟩
  case round =>
    obtain ⟨i, hi, rfl, a, rfl, rfl, hp, ha, hbel⟩ := hrel
    by_cases hlt : i < l.length
    · have k1 : (i : Int) < (l.length : Int) := by omega
      obtain ⟨b, o, rfl, hb, h1⟩ := HA.out i hlt
      obtain ⟨x0, x1, x2, x3, x4, x5⟩ := h1.below hbel hb
      have HN := hide1 (show pickS (l.take (i + 1)) own = pickN a l[i] by rw [pickS_next hlt, ha.out])
      have CS := hide1 (fun w' => sayingOf_any l[i] w')
      have CT := hide1 (fun w' => takenB_any l[i] w')
      clear h1 ha
      generalize l[i] = m at *
      unfold ntV at CS
      generalize sayV m = sv at *
      have HB := hide1 hbel
      clear hbel
      go_wp2_with fail
      clear x0 x1 x2 x3 x4 x5
      refine (CS.out _).mono ?_
      rintro e w2 ⟨rfl, hb2⟩
      have B2 := hide1 ((HB.out.alloc HB.out.size _).trans (hb2.mono (HB.out.alloc HB.out.size _).size))
      clear hb2 HB CS
      go_wp2_with fail
      refine (CT.out _).mono ?_
      rintro e w3 ⟨rfl, hb3⟩
      have B3 := hide1 (B2.out.trans (hb3.mono B2.out.size))
      clear hb3 B2 CT
      by_cases c : a.1 < tkT m
      · have HP := hide1 (show pickS (l.take (i + 1)) own = (tkT m, tkV m) by
          rw [HN.out]; unfold pickN; unfold tkT at c; unfold tkT tkV
          have hp := hp.out
          by_cases c2 : m.k = 2
          · rw [if_pos c2] at c
            rw [if_pos ⟨c2, c⟩, if_pos c2, if_pos c2]
          · rw [if_neg c2] at c
            omega)
        have hp2 := hide1 (show 0 ≤ tkT m by have := hp.out; omega)
        clear HN
        generalize tkT m = tt at *
        generalize tkV m = tv at *
        go_wp2
        go_roundw
        case rel => exact ⟨i + 1, by omega, by go_num, (tt, tv), rfl, rfl, hp2, HP, B3.out⟩
        case measure => simp [intOf]; omega
      · have HP := hide1 (show pickS (l.take (i + 1)) own = a by
          rw [HN.out]; unfold pickN; unfold tkT at c
          by_cases c2 : m.k = 2
          · rw [if_pos c2] at c
            rw [if_neg (fun h => c h.2)]
          · rw [if_neg (fun h => c2 h.1)])
        clear HN
        generalize tkT m = tt at *
        generalize tkV m = tv at *
        go_wp2
        go_roundw
        case rel => exact ⟨i + 1, by omega, by go_num, a, rfl, rfl, hp, HP, B3.out⟩
        case measure => simp [intOf]; omega
    · obtain rfl : i = l.length := by omega
      have HP := hide1 (show pickS l own = a by have := ha.out; rwa [List.take_length] at this)
      go_wp2_with fail
      refine (newB_any _ _).mono ?_
      rintro e w2 ⟨rfl, hb2⟩
      go_wp2
      go_ret
      exact ⟨by rw [HP.out]; rfl, hbel.trans (hb2.mono hbel.size)⟩

end Go.Proofs.Ytgehdgmllilmgaa
