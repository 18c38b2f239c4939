/- Ballots, by the program: what a note says, asked for; what was taken before; what a voice that is asked becomes and tells. -/
import Derived.Test.YtppmnniokpbnkaaBaJ
namespace Go.Proofs.Ytppmnniokpbnkaa
open Go.RowKit
set_option linter.unusedVariables false

theorem sayV1 {m : Nt} (h : m.k = 1) : sayV m = saV1 m.b := by unfold sayV; rw [if_pos h]
theorem sayV2 {m : Nt} (h : m.k = 2) : sayV m = saV2 m.b m.t m.v := by unfold sayV; rw [if_neg (by omega), if_pos h]
theorem sayV3 {m : Nt} (h : m.k = 3) : sayV m = saV3 m.b m.v := by unfold sayV; rw [if_neg (by omega), if_neg (by omega), if_pos h]
theorem sayV4 {m : Nt} (h : m.k = 4) : sayV m = saV4 m.b m.v := by unfold sayV; rw [if_neg (by omega), if_neg (by omega), if_neg (by omega), if_pos h]
theorem sayVn {m : Nt} (h1 : m.k ≠ 1) (h2 : m.k ≠ 2) (h3 : m.k ≠ 3) (h4 : m.k ≠ 4) : sayV m = .nilIface := by unfold sayV; rw [if_neg h1, if_neg h2, if_neg h3, if_neg h4]

theorem as1_1 (v : Value) (w : World) : (Instr.typeAssert (.iface 79 v) 61 79 true).run Try.prog w = .ok (.tuple #[v, .bool true]) w := by kernel_rfl
theorem as1_2 (v : Value) (w : World) : (Instr.typeAssert (.iface 81 v) 61 79 true).run Try.prog w = .ok (.tuple #[.agg #[.int .i64 0], .bool false]) w := by kernel_rfl
theorem as1_3 (v : Value) (w : World) : (Instr.typeAssert (.iface 83 v) 61 79 true).run Try.prog w = .ok (.tuple #[.agg #[.int .i64 0], .bool false]) w := by kernel_rfl
theorem as1_4 (v : Value) (w : World) : (Instr.typeAssert (.iface 84 v) 61 79 true).run Try.prog w = .ok (.tuple #[.agg #[.int .i64 0], .bool false]) w := by kernel_rfl
theorem as1_n (w : World) : (Instr.typeAssert .nilIface 61 79 true).run Try.prog w = .ok (.tuple #[.agg #[.int .i64 0], .bool false]) w := by kernel_rfl
theorem as2_1 (v : Value) (w : World) : (Instr.typeAssert (.iface 79 v) 61 81 true).run Try.prog w = .ok (.tuple #[.agg #[.int .i64 0, .int .i64 0, .string ⟨#[]⟩], .bool false]) w := by kernel_rfl
theorem as2_2 (v : Value) (w : World) : (Instr.typeAssert (.iface 81 v) 61 81 true).run Try.prog w = .ok (.tuple #[v, .bool true]) w := by kernel_rfl
theorem as2_3 (v : Value) (w : World) : (Instr.typeAssert (.iface 83 v) 61 81 true).run Try.prog w = .ok (.tuple #[.agg #[.int .i64 0, .int .i64 0, .string ⟨#[]⟩], .bool false]) w := by kernel_rfl
theorem as2_4 (v : Value) (w : World) : (Instr.typeAssert (.iface 84 v) 61 81 true).run Try.prog w = .ok (.tuple #[.agg #[.int .i64 0, .int .i64 0, .string ⟨#[]⟩], .bool false]) w := by kernel_rfl
theorem as2_n (w : World) : (Instr.typeAssert .nilIface 61 81 true).run Try.prog w = .ok (.tuple #[.agg #[.int .i64 0, .int .i64 0, .string ⟨#[]⟩], .bool false]) w := by kernel_rfl
theorem as3_1 (v : Value) (w : World) : (Instr.typeAssert (.iface 79 v) 61 83 true).run Try.prog w = .ok (.tuple #[.agg #[.int .i64 0, .string ⟨#[]⟩], .bool false]) w := by kernel_rfl
theorem as3_2 (v : Value) (w : World) : (Instr.typeAssert (.iface 81 v) 61 83 true).run Try.prog w = .ok (.tuple #[.agg #[.int .i64 0, .string ⟨#[]⟩], .bool false]) w := by kernel_rfl
theorem as3_3 (v : Value) (w : World) : (Instr.typeAssert (.iface 83 v) 61 83 true).run Try.prog w = .ok (.tuple #[v, .bool true]) w := by kernel_rfl
theorem as3_4 (v : Value) (w : World) : (Instr.typeAssert (.iface 84 v) 61 83 true).run Try.prog w = .ok (.tuple #[.agg #[.int .i64 0, .string ⟨#[]⟩], .bool false]) w := by kernel_rfl
theorem as3_n (w : World) : (Instr.typeAssert .nilIface 61 83 true).run Try.prog w = .ok (.tuple #[.agg #[.int .i64 0, .string ⟨#[]⟩], .bool false]) w := by kernel_rfl

set_option maxRecDepth 100000 in
theorem takenB1 (b : Int) (w : World) :
    Calls Try.prog 40 #[saV1 b] w fun e w' => e = .returned (.tuple #[.int .i64 0, .string ⟨#[]⟩]) ∧ Below w.heap.size w w' := by
  unfold saV1
  have q := as2_1
  go_enter Try.func40, Try.ntmps40
  go_wp2
  go_returns
  exact ⟨rfl, by go_grown⟩

set_option maxRecDepth 100000 in
theorem takenB2 (b t : Int) (v : ByteArray) (w : World) :
    Calls Try.prog 40 #[saV2 b t v] w fun e w' => e = .returned (.tuple #[.int .i64 t, .string v]) ∧ Below w.heap.size w w' := by
  unfold saV2
  have q := as2_2
  go_enter Try.func40, Try.ntmps40
  go_wp2_with fail
  go_quiet (fail)
  go_wp2
  go_returns
  exact ⟨rfl, below_drewN ((Below.refl _ w).alloc (Nat.le_refl _) _) _⟩

set_option maxRecDepth 100000 in
theorem takenB3 (b : Int) (v : ByteArray) (w : World) :
    Calls Try.prog 40 #[saV3 b v] w fun e w' => e = .returned (.tuple #[.int .i64 0, .string ⟨#[]⟩]) ∧ Below w.heap.size w w' := by
  unfold saV3
  have q := as2_3
  go_enter Try.func40, Try.ntmps40
  go_wp2
  go_returns
  exact ⟨rfl, by go_grown⟩

set_option maxRecDepth 100000 in
theorem takenB4 (b : Int) (v : ByteArray) (w : World) :
    Calls Try.prog 40 #[saV4 b v] w fun e w' => e = .returned (.tuple #[.int .i64 0, .string ⟨#[]⟩]) ∧ Below w.heap.size w w' := by
  unfold saV4
  have q := as2_4
  go_enter Try.func40, Try.ntmps40
  go_wp2
  go_returns
  exact ⟨rfl, by go_grown⟩

set_option maxRecDepth 100000 in
theorem takenBn  (w : World) :
    Calls Try.prog 40 #[.nilIface] w fun e w' => e = .returned (.tuple #[.int .i64 0, .string ⟨#[]⟩]) ∧ Below w.heap.size w w' := by
  skip
  have q := as2_n
  go_enter Try.func40, Try.ntmps40
  go_wp2
  go_returns
  exact ⟨rfl, by go_grown⟩

/-- A struct and a value, told together. -/
theorem resH2 {P : Program} {fn : Func} {p u : Tmp} {ty : TypeId} (h : fn.results = #[.cell p ty, .tmp u]) (tmps : Array Value) (w : World) (g : Nat) (t : TypeId) (cs : Array Value) (fr : Nat × Nat) (d : TypeDesc)
    (hp : tmps.getD p undef = .pointer (some ⟨g, 0, none⟩)) (hg : w.heap[g]? = some (.cells cs t fr))
    (hu : P.underlying ty = some d) (hd : (match d with | .struct _ | .array _ _ => true | _ => false) = true) (hi : (P.info? ty).map (·.size) = some cs.size) :
    (results fn tmps).run P w = .ok (.tuple #[.agg cs, tmps.getD u undef]) w := by
  have hp' : tmps[p]?.getD undef = .pointer (some ⟨g, 0, none⟩) := by simpa using hp
  simp [results, h, hp', asAddr, run_loadVar_row w g t ty cs fr d hg hu hd hi]

set_option maxRecDepth 100000 in
set_option maxHeartbeats 2000000 in
theorem ansYes1 (p t : Int) (v : ByteArray) (b : Int) (w : World) (hb : p < b) :
    Calls Try.prog 36 #[.agg #[.int .i64 p, .int .i64 t, .string v], saV1 b] w fun e w' => e = .returned (.tuple #[.agg #[.int .i64 b, .int .i64 t, .string v], saV2 b t v]) ∧ Below w.heap.size w w' := by
  unfold saV1
  have qa := as1_1
  have qb := as3_1
  have F0 := hide1 (blkN4 w #[.int .i64 p, .int .i64 t, .string v] #[.int .i64 0, .int .i64 0, .string ⟨#[]⟩] #[.int .i64 b] #[.int .i64 b, .int .i64 t, .string v] 27 27 79 27)
  go_enter Try.func36, Try.ntmps36
  go_wp2_with fail
  generalize ((((w.alloc (.cells #[.int .i64 p, .int .i64 t, .string v] 27)).alloc (.cells #[.int .i64 0, .int .i64 0, .string ⟨#[]⟩] 27)).alloc (.cells #[.int .i64 b] 79)).alloc (.cells #[.int .i64 b, .int .i64 t, .string v] 27)) = w0 at F0 ⊢
  obtain ⟨K0, K1, K2, K3, B0⟩ := F0.out
  have HK1 := hide1 K1
  have HB0 := hide1 B0
  have hs0 : w.heap.size + 1 + 1 + 1 < w0.heap.size := K3.lt
  have a00 : w0.cell? ⟨w.heap.size, 0, none⟩ = some (.int .i64 p) := K0.cell 0
  have a01 : w0.cell? ⟨w.heap.size, 1, none⟩ = some (.int .i64 t) := K0.cell 1
  have a02 : w0.cell? ⟨w.heap.size, 2, none⟩ = some (.string v) := K0.cell 2
  have a10 : w0.cell? ⟨w.heap.size + 1, 0, none⟩ = some (.int .i64 0) := K1.cell 0
  have a11 : w0.cell? ⟨w.heap.size + 1, 1, none⟩ = some (.int .i64 0) := K1.cell 1
  have a12 : w0.cell? ⟨w.heap.size + 1, 2, none⟩ = some (.string ⟨#[]⟩) := K1.cell 2
  have a20 : w0.cell? ⟨w.heap.size + 1 + 1, 0, none⟩ = some (.int .i64 b) := K2.cell 0
  have a30 : w0.cell? ⟨w.heap.size + 1 + 1 + 1, 0, none⟩ = some (.int .i64 b) := K3.cell 0
  have a31 : w0.cell? ⟨w.heap.size + 1 + 1 + 1, 1, none⟩ = some (.int .i64 t) := K3.cell 1
  have a32 : w0.cell? ⟨w.heap.size + 1 + 1 + 1, 2, none⟩ = some (.string v) := K3.cell 2
  have zf : ∀ j, w0.frozen? ⟨w.heap.size + 1, j, none⟩ = false := fun j => K1.froz j
  clear F0 K0 K1 K2 K3 B0
  have k01 : ∀ (u : World) (i j : Nat) (y : Value), (u.setCell ⟨w.heap.size + 1, i, none⟩ y).cell? ⟨w.heap.size, j, none⟩ = u.cell? ⟨w.heap.size, j, none⟩ := fun u i j y => World.cell?_setCell_far _ _ _ _ (by dsimp only; omega)
  have k21 : ∀ (u : World) (i j : Nat) (y : Value), (u.setCell ⟨w.heap.size + 1, i, none⟩ y).cell? ⟨w.heap.size + 1 + 1, j, none⟩ = u.cell? ⟨w.heap.size + 1 + 1, j, none⟩ := fun u i j y => World.cell?_setCell_far _ _ _ _ (by dsimp only; omega)
  have k31 : ∀ (u : World) (i j : Nat) (y : Value), (u.setCell ⟨w.heap.size + 1, i, none⟩ y).cell? ⟨w.heap.size + 1 + 1 + 1, j, none⟩ = u.cell? ⟨w.heap.size + 1 + 1 + 1, j, none⟩ := fun u i j y => World.cell?_setCell_far _ _ _ _ (by dsimp only; omega)
  go_region_held3 (fun w' => w'.cell? ⟨w.heap.size, 0, none⟩ = some (.int .i64 p) ∧ w'.cell? ⟨w.heap.size, 1, none⟩ = some (.int .i64 t) ∧ w'.cell? ⟨w.heap.size, 2, none⟩ = some (.string v) ∧ w'.cell? ⟨w.heap.size + 1 + 1, 0, none⟩ = some (.int .i64 b) ∧ w'.cell? ⟨w.heap.size + 1 + 1 + 1, 0, none⟩ = some (.int .i64 b) ∧ w'.cell? ⟨w.heap.size + 1 + 1 + 1, 1, none⟩ = some (.int .i64 t) ∧ w'.cell? ⟨w.heap.size + 1 + 1 + 1, 2, none⟩ = some (.string v)) (first | go_keep | simp only [World.cell?_drew, k01, k21, k31, a00, a01, a02, a20, a30, a31, a32, and_self]) (fail)
  go_wp2
  have NB : Blk (((w0.setCell ⟨w.heap.size + 1, 0, none⟩ (.int .i64 b)).setCell ⟨w.heap.size + 1, 1, none⟩ (.int .i64 t)).setCell ⟨w.heap.size + 1, 2, none⟩ (.string v)) (w.heap.size + 1) 27 [.int .i64 b, .int .i64 t, .string v] := (Blk.set (Blk.set (Blk.set HK1.out 0 (.int .i64 b)) 1 (.int .i64 t)) 2 (.string v))
  have BF : Below w.heap.size w (((w0.setCell ⟨w.heap.size + 1, 0, none⟩ (.int .i64 b)).setCell ⟨w.heap.size + 1, 1, none⟩ (.int .i64 t)).setCell ⟨w.heap.size + 1, 2, none⟩ (.string v)) := (((HB0.out.setCell (p := ⟨w.heap.size + 1, 0, none⟩) (by dsimp only; omega) _).setCell (p := ⟨w.heap.size + 1, 1, none⟩) (by dsimp only; omega) _).setCell (p := ⟨w.heap.size + 1, 2, none⟩) (by dsimp only; omega) _)
  generalize (((w0.setCell ⟨w.heap.size + 1, 0, none⟩ (.int .i64 b)).setCell ⟨w.heap.size + 1, 1, none⟩ (.int .i64 t)).setCell ⟨w.heap.size + 1, 2, none⟩ (.string v)) = w9 at NB BF ⊢
  refine bodyPost_ret (resH2 Try.results36 _ _ (w.heap.size + 1) 27 #[.int .i64 b, .int .i64 t, .string v] (0, 0) _ rfl NB Try.underlying27 rfl (by kernel_rfl)) rfl ?_
  first | exact ⟨rfl, BF⟩ | exact ⟨rfl, BF.drew⟩

set_option maxRecDepth 100000 in
set_option maxHeartbeats 2000000 in
theorem ansYes3 (p t : Int) (v : ByteArray) (b : Int) (z : ByteArray) (w : World) (hb : p ≤ b) :
    Calls Try.prog 36 #[.agg #[.int .i64 p, .int .i64 t, .string v], saV3 b z] w fun e w' => e = .returned (.tuple #[.agg #[.int .i64 b, .int .i64 b, .string z], saV4 b z]) ∧ Below w.heap.size w w' := by
  unfold saV3
  have qa := as1_3
  have qb := as3_3
  have F0 := hide1 (blkN4 w #[.int .i64 p, .int .i64 t, .string v] #[.int .i64 0, .int .i64 0, .string ⟨#[]⟩] #[.int .i64 b, .string z] #[.int .i64 b, .int .i64 b, .string z] 27 27 83 27)
  go_enter Try.func36, Try.ntmps36
  go_wp2_with fail
  generalize ((((w.alloc (.cells #[.int .i64 p, .int .i64 t, .string v] 27)).alloc (.cells #[.int .i64 0, .int .i64 0, .string ⟨#[]⟩] 27)).alloc (.cells #[.int .i64 b, .string z] 83)).alloc (.cells #[.int .i64 b, .int .i64 b, .string z] 27)) = w0 at F0 ⊢
  obtain ⟨K0, K1, K2, K3, B0⟩ := F0.out
  have HK1 := hide1 K1
  have HB0 := hide1 B0
  have hs0 : w.heap.size + 1 + 1 + 1 < w0.heap.size := K3.lt
  have a00 : w0.cell? ⟨w.heap.size, 0, none⟩ = some (.int .i64 p) := K0.cell 0
  have a01 : w0.cell? ⟨w.heap.size, 1, none⟩ = some (.int .i64 t) := K0.cell 1
  have a02 : w0.cell? ⟨w.heap.size, 2, none⟩ = some (.string v) := K0.cell 2
  have a10 : w0.cell? ⟨w.heap.size + 1, 0, none⟩ = some (.int .i64 0) := K1.cell 0
  have a11 : w0.cell? ⟨w.heap.size + 1, 1, none⟩ = some (.int .i64 0) := K1.cell 1
  have a12 : w0.cell? ⟨w.heap.size + 1, 2, none⟩ = some (.string ⟨#[]⟩) := K1.cell 2
  have a20 : w0.cell? ⟨w.heap.size + 1 + 1, 0, none⟩ = some (.int .i64 b) := K2.cell 0
  have a21 : w0.cell? ⟨w.heap.size + 1 + 1, 1, none⟩ = some (.string z) := K2.cell 1
  have a30 : w0.cell? ⟨w.heap.size + 1 + 1 + 1, 0, none⟩ = some (.int .i64 b) := K3.cell 0
  have a31 : w0.cell? ⟨w.heap.size + 1 + 1 + 1, 1, none⟩ = some (.int .i64 b) := K3.cell 1
  have a32 : w0.cell? ⟨w.heap.size + 1 + 1 + 1, 2, none⟩ = some (.string z) := K3.cell 2
  have zf : ∀ j, w0.frozen? ⟨w.heap.size + 1, j, none⟩ = false := fun j => K1.froz j
  clear F0 K0 K1 K2 K3 B0
  have k01 : ∀ (u : World) (i j : Nat) (y : Value), (u.setCell ⟨w.heap.size + 1, i, none⟩ y).cell? ⟨w.heap.size, j, none⟩ = u.cell? ⟨w.heap.size, j, none⟩ := fun u i j y => World.cell?_setCell_far _ _ _ _ (by dsimp only; omega)
  have k21 : ∀ (u : World) (i j : Nat) (y : Value), (u.setCell ⟨w.heap.size + 1, i, none⟩ y).cell? ⟨w.heap.size + 1 + 1, j, none⟩ = u.cell? ⟨w.heap.size + 1 + 1, j, none⟩ := fun u i j y => World.cell?_setCell_far _ _ _ _ (by dsimp only; omega)
  have k31 : ∀ (u : World) (i j : Nat) (y : Value), (u.setCell ⟨w.heap.size + 1, i, none⟩ y).cell? ⟨w.heap.size + 1 + 1 + 1, j, none⟩ = u.cell? ⟨w.heap.size + 1 + 1 + 1, j, none⟩ := fun u i j y => World.cell?_setCell_far _ _ _ _ (by dsimp only; omega)
  go_region_held3 (fun w' => w'.cell? ⟨w.heap.size, 0, none⟩ = some (.int .i64 p) ∧ w'.cell? ⟨w.heap.size, 1, none⟩ = some (.int .i64 t) ∧ w'.cell? ⟨w.heap.size, 2, none⟩ = some (.string v) ∧ w'.cell? ⟨w.heap.size + 1 + 1, 0, none⟩ = some (.int .i64 b) ∧ w'.cell? ⟨w.heap.size + 1 + 1, 1, none⟩ = some (.string z) ∧ w'.cell? ⟨w.heap.size + 1 + 1 + 1, 0, none⟩ = some (.int .i64 b) ∧ w'.cell? ⟨w.heap.size + 1 + 1 + 1, 1, none⟩ = some (.int .i64 b) ∧ w'.cell? ⟨w.heap.size + 1 + 1 + 1, 2, none⟩ = some (.string z)) (first | go_keep | simp only [World.cell?_drew, k01, k21, k31, a00, a01, a02, a20, a21, a30, a31, a32, and_self]) (fail)
  go_wp2
  have NB : Blk (((w0.setCell ⟨w.heap.size + 1, 0, none⟩ (.int .i64 b)).setCell ⟨w.heap.size + 1, 1, none⟩ (.int .i64 b)).setCell ⟨w.heap.size + 1, 2, none⟩ (.string z)) (w.heap.size + 1) 27 [.int .i64 b, .int .i64 b, .string z] := (Blk.set (Blk.set (Blk.set HK1.out 0 (.int .i64 b)) 1 (.int .i64 b)) 2 (.string z))
  have BF : Below w.heap.size w (((w0.setCell ⟨w.heap.size + 1, 0, none⟩ (.int .i64 b)).setCell ⟨w.heap.size + 1, 1, none⟩ (.int .i64 b)).setCell ⟨w.heap.size + 1, 2, none⟩ (.string z)) := (((HB0.out.setCell (p := ⟨w.heap.size + 1, 0, none⟩) (by dsimp only; omega) _).setCell (p := ⟨w.heap.size + 1, 1, none⟩) (by dsimp only; omega) _).setCell (p := ⟨w.heap.size + 1, 2, none⟩) (by dsimp only; omega) _)
  generalize (((w0.setCell ⟨w.heap.size + 1, 0, none⟩ (.int .i64 b)).setCell ⟨w.heap.size + 1, 1, none⟩ (.int .i64 b)).setCell ⟨w.heap.size + 1, 2, none⟩ (.string z)) = w9 at NB BF ⊢
  refine bodyPost_ret (resH2 Try.results36 _ _ (w.heap.size + 1) 27 #[.int .i64 b, .int .i64 b, .string z] (0, 0) _ rfl NB Try.underlying27 rfl (by kernel_rfl)) rfl ?_
  first | exact ⟨rfl, BF⟩ | exact ⟨rfl, BF.drew⟩

set_option maxRecDepth 100000 in
set_option maxHeartbeats 2000000 in
theorem ansNo1 (p t : Int) (v : ByteArray) (b : Int) (w : World) (hb : ¬ p < b) :
    Calls Try.prog 36 #[.agg #[.int .i64 p, .int .i64 t, .string v], saV1 b] w fun e w' => e = .returned (.tuple #[.agg #[.int .i64 p, .int .i64 t, .string v], .nilIface]) ∧ Below w.heap.size w w' := by
  unfold saV1
  have qa := as1_1
  have qb := as3_1
  go_enter Try.func36, Try.ntmps36
  go_wp2
  go_returns
  exact ⟨rfl, by go_grown⟩

set_option maxRecDepth 100000 in
set_option maxHeartbeats 2000000 in
theorem ansNo3 (p t : Int) (v : ByteArray) (b : Int) (z : ByteArray) (w : World) (hb : ¬ p ≤ b) :
    Calls Try.prog 36 #[.agg #[.int .i64 p, .int .i64 t, .string v], saV3 b z] w fun e w' => e = .returned (.tuple #[.agg #[.int .i64 p, .int .i64 t, .string v], .nilIface]) ∧ Below w.heap.size w w' := by
  unfold saV3
  have qa := as1_3
  have qb := as3_3
  go_enter Try.func36, Try.ntmps36
  go_wp2
  go_returns
  exact ⟨rfl, by go_grown⟩

set_option maxRecDepth 100000 in
set_option maxHeartbeats 2000000 in
theorem ansNo2 (p t : Int) (v : ByteArray) (b u : Int) (z : ByteArray) (w : World)  :
    Calls Try.prog 36 #[.agg #[.int .i64 p, .int .i64 t, .string v], saV2 b u z] w fun e w' => e = .returned (.tuple #[.agg #[.int .i64 p, .int .i64 t, .string v], .nilIface]) ∧ Below w.heap.size w w' := by
  unfold saV2
  have qa := as1_2
  have qb := as3_2
  go_enter Try.func36, Try.ntmps36
  go_wp2
  go_returns
  exact ⟨rfl, by go_grown⟩

set_option maxRecDepth 100000 in
set_option maxHeartbeats 2000000 in
theorem ansNo4 (p t : Int) (v : ByteArray) (b : Int) (z : ByteArray) (w : World)  :
    Calls Try.prog 36 #[.agg #[.int .i64 p, .int .i64 t, .string v], saV4 b z] w fun e w' => e = .returned (.tuple #[.agg #[.int .i64 p, .int .i64 t, .string v], .nilIface]) ∧ Below w.heap.size w w' := by
  unfold saV4
  have qa := as1_4
  have qb := as3_4
  go_enter Try.func36, Try.ntmps36
  go_wp2
  go_returns
  exact ⟨rfl, by go_grown⟩

set_option maxRecDepth 100000 in
set_option maxHeartbeats 2000000 in
theorem ansNon (p t : Int) (v : ByteArray)  (w : World)  :
    Calls Try.prog 36 #[.agg #[.int .i64 p, .int .i64 t, .string v], .nilIface] w fun e w' => e = .returned (.tuple #[.agg #[.int .i64 p, .int .i64 t, .string v], .nilIface]) ∧ Below w.heap.size w w' := by
  skip
  have qa := as1_n
  have qb := as3_n
  go_enter Try.func36, Try.ntmps36
  go_wp2
  go_returns
  exact ⟨rfl, by go_grown⟩

end Go.Proofs.Ytppmnniokpbnkaa
