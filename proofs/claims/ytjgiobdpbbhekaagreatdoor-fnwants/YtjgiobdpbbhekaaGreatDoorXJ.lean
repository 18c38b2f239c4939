/- What the program answers: a key put, a table that begins to grow. -/
import Derived.Test.YtjgiobdpbbhekaaGreatDoorXI
namespace Go.Proofs.YtjgiobdpbbhekaaGreatDoor
open Go.RowKit

/-- The old cells without a key. -/
def goneO (o : List Ce) (key : ByteArray) : List Ce :=
  match seekC o key with
  | some k => o.set k gC
  | none => o
/-- What is there when a key is put. -/
def putR (l o : List Ce) (mv : Int) (key : ByteArray) (h : Int) : Option (List Ce × List Ce × Int) :=
  match seekC l key with
  | some k => some (l.set k ⟨key, h⟩, o, mv)
  | none => match putC l key h with
    | some l' => some (l', goneO o key, mv)
    | none => none
def putOk (l o : List Ce) (mv : Int) (key : ByteArray) (h : Int) : Prop := OkT l o mv ∧ 1 ≤ key.size ∧ key.size ≤ 12 ∧ 0 ≤ h

end Go.Proofs.YtjgiobdpbbhekaaGreatDoor
namespace Go.Proofs.YtjgiobdpbbhekaaGreatDoor
open Go.RowKit

end Go.Proofs.YtjgiobdpbbhekaaGreatDoor
namespace Go.Proofs.YtjgiobdpbbhekaaGreatDoor
open Go.RowKit

/-- 'append([]Cell{}, row...)' of some cells: a new row. -/
theorem app_run (w : World) (ty : TypeId) (b : Addr) (ao : Option Addr) (m c : Nat) (nb : List Ce) (hm : nb.length = m) (h0 : 0 < m) (hA : RdJ w ao nb) (hlen : m ≤ 1048576) :
    ∃ c' w', (Builtin.append_ #[27, 27] ty #[.slice (some b) 0 0, .slice ao m c]).run Tryz.prog w = .ok (.slice (some ⟨w.heap.size, 0, none⟩) m c') w' ∧ w'.ownsRow w.heap.size 132 2 (.slice (some ⟨w.heap.size, 0, none⟩) m c') m (ces nb) ∧ Below w.heap.size w w' := by
  obtain ⟨i0, hi, hz0, hz1, hz2⟩ := info_parts Tryz.infoCell
  obtain ⟨g, o, rfl, hg, _⟩ := hA 0 (by omega)
  have hAt : ∀ i (h : i < nb.length), cellO w g o i nb[i] := fun i hi => by obtain ⟨b', o', e, _, h⟩ := hA i hi; simp at e; obtain ⟨rfl, rfl⟩ := e; exact h
  have hl : (ces nb).length = m * i0.size := by rw [ces_length, hz1, hm]
  have hr := run_append_grow (P := Tryz.prog) w 27 ty 132 i0 (ceV zC) Tryz.underlying27 hi hz0 b 0 0 [] (by simp) (fun j v h => by cases h) ⟨g, o, none⟩ m c (ces nb) hl (fun j v hv => by rw [Addr.add_lit]; exact rdJ_cells hAt j v hv) (by omega) (by omega) (by rw [Nat.zero_add, nextslicecap_zero h0, hz2]; omega)
  rw [Nat.zero_add] at hr
  have hge := grownCap_ge w m 0 132
  refine ⟨_, _, hr, ⟨by rw [ces_length, hm], .inr ⟨w.heap.size, _, _, rfl, Nat.le_refl _, heap_alloc_new w.drew _, hge, grownCap_le_maxLen w m 0 132 (by unfold maxLen; omega), ?_, ?_⟩⟩, (Below.refl _ _).drew.alloc (Nat.le_refl _) _⟩
  · have e : (ceV zC).cells.size = 2 := rfl
    simp only [Array.size_append, List.size_toArray, List.length_nil, size_zeroCells, hl, hz1, e, Nat.zero_add]
    generalize grownCap w m 0 132 = G at hge ⊢
    omega
  · simp only [Array.toList_append, List.nil_append]
    rw [List.take_left' (by rw [ces_length, hm])]
theorem app_run0 (w : World) (ty : TypeId) (b : Addr) (ao : Option Addr) (c : Nat) :
    (Builtin.append_ #[27, 27] ty #[.slice (some b) 0 0, .slice ao 0 c]).run Tryz.prog w = .ok (.slice (some b) 0 0) w := by
  obtain ⟨i0, hi, hz0, hz1, hz2⟩ := info_parts Tryz.infoCell
  cases ao <;> simp [Builtin.append_, run_underlying Tryz.underlying27, sizeOf, typeInfo, hi, Builtin.lenOf, Builtin.firstCells, loadCells, loadCellsFrom, storeCells]

theorem step_app {ops : Array Oper} {o : Oper} {a : Act} {w : World} {K : Act → World → Prop} {Q : Exit → Act → World → Prop} {E : Prop} (hgd : o.guard = none) (s x : Operand)
    (ho : o.op = .call { callee := .builtin .append, args := #[s, x], argTypes := #[27, 27] }) (b : Addr) (ao : Option Addr) (m c : Nat) (nb : List Ce)
    (hs : a.eval s = .slice (some b) 0 0) (hx : a.eval x = .slice ao m c) (hm : nb.length = m) (h0 : 0 < m) (hA : RdJ w ao nb) (hlen : m ≤ 1048576)
    (h : ∀ b' c' w', w.heap.size ≤ b' → w'.ownsRow w.heap.size 132 2 (.slice (some ⟨b', 0, none⟩) m c') m (ces nb) → Below w.heap.size w w' → K (a.put o.dst (.slice (some ⟨b', 0, none⟩) m c')) w') :
    if Region.wanted o (yielded ops a.tmps) = true then Oper.wp Tryz.prog o a w K Q else E := by
  have hw : Region.wanted o (yielded ops a.tmps) = true := by simp [Region.wanted, hgd]
  rw [if_pos hw]
  obtain ⟨c', w', hrun, h1, h2⟩ := app_run w o.type b ao m c nb hm h0 hA hlen
  unfold Oper.wp
  simp only [execOp, ho, resolve, invoke, builtin, Sem.run_bind, Sem.run_pure, Result.andThen_ok, List.map_toArray, List.map_cons, List.map_nil, hs, hx, hrun]
  exact h _ c' w' (Nat.le_refl _) h1 h2
theorem step_app0 {ops : Array Oper} {o : Oper} {a : Act} {w : World} {K : Act → World → Prop} {Q : Exit → Act → World → Prop} {E : Prop} (hgd : o.guard = none) (s x : Operand)
    (ho : o.op = .call { callee := .builtin .append, args := #[s, x], argTypes := #[27, 27] }) (b : Addr) (ao : Option Addr) (c : Nat)
    (hs : a.eval s = .slice (some b) 0 0) (hx : a.eval x = .slice ao 0 c)
    (h : K (a.put o.dst (.slice (some b) 0 0)) w) :
    if Region.wanted o (yielded ops a.tmps) = true then Oper.wp Tryz.prog o a w K Q else E := by
  have hw : Region.wanted o (yielded ops a.tmps) = true := by simp [Region.wanted, hgd]
  rw [if_pos hw]
  have hrun := app_run0 w o.type b ao c
  unfold Oper.wp
  simp only [execOp, ho, resolve, invoke, builtin, Sem.run_bind, Sem.run_pure, Result.andThen_ok, List.map_toArray, List.map_cons, List.map_nil, hs, hx, hrun]
  exact h
end Go.Proofs.YtjgiobdpbbhekaaGreatDoor
namespace Go.Proofs.YtjgiobdpbbhekaaGreatDoor
open Go.RowKit

set_option maxRecDepth 100000 in
set_option maxHeartbeats 2000000 in
theorem specCopyT_some (ao a' : Option Addr) (l o : List Ce) (ca ca' : Nat) (mv : Int) (w : World) (hl : l.length ≤ 1048576) (hl' : o.length ≤ 1048576) (h0 : 0 < l.length) (h0' : 0 < o.length) (hA : RdJ w ao l) (hA' : RdJ w a' o) :
    Calls Tryz.prog 86 #[tbV ao l.length ca a' o.length ca' mv] w fun e w' => ∃ v, e = .returned v ∧ MadeV w w' v l o mv := by
  have F0 := hide1 (boxes w #[.slice ao l.length ca, .slice a' o.length ca', .int .i64 mv] #[.slice none 0 0, .slice none 0 0, .int .i64 0] 29)
  have HA := hide1 hA
  have HA' := hide1 hA'
  clear hA hA'
  unfold tbV
  go_enter Tryz.func86, Tryz.ntmps86
  go_wp2_with fail
  generalize ((w.alloc (.cells #[.slice ao l.length ca, .slice a' o.length ca', .int .i64 mv] 29)).alloc (.cells #[.slice none 0 0, .slice none 0 0, .int .i64 0] 29)) = w0 at F0 ⊢
  obtain ⟨K0, R0, B0⟩ := F0.out
  have x0 : w0.cell? ⟨w.heap.size, 0, none⟩ = some (.slice ao l.length ca) := K0.cell 0
  have x1 : w0.cell? ⟨w.heap.size, 1, none⟩ = some (.slice a' o.length ca') := K0.cell 1
  have x2 : w0.cell? ⟨w.heap.size, 2, none⟩ = some (.int .i64 mv) := K0.cell 2
  have X := hide1 (And.intro x0 (And.intro x1 x2))
  have hs0 : w.heap.size < w0.heap.size := K0.lt
  have hs1 : w.heap.size + 1 < w0.heap.size := R0.lt
  have R0 := hide1 R0
  have B0 := hide1 B0
  have A0 := hide1 (HA.out.later B0.out)
  have A0' := hide1 (HA'.out.later B0.out)
  clear F0 K0
  go_region_held3 (fun w' => w'.cell? ⟨w.heap.size, 0, none⟩ = some (.slice ao l.length ca) ∧ w'.cell? ⟨w.heap.size, 1, none⟩ = some (.slice a' o.length ca') ∧ w'.cell? ⟨w.heap.size, 2, none⟩ = some (.int .i64 mv)) (first | go_keep | exact ⟨(DL.out.cell hs0).trans X.out.1, (DL.out.cell hs0).trans X.out.2.1, (DL.out.cell hs0).trans X.out.2.2⟩ | exact ⟨(D1.out.cell hs0).trans X.out.1, (D1.out.cell hs0).trans X.out.2.1, (D1.out.cell hs0).trans X.out.2.2⟩) ((first | (refine step_app rfl (.tmp 7) (.tmp 9) rfl _ a' o.length ca' o rfl rfl rfl h0' (A0'.out.later (D1.out.trans ((show Below w1.heap.size w1 _ by go_grown).mono D1.out.size))) (by omega) ?_; intro b2 c2 w2 hbb ho2 hb2; have E2 : Hid (Below w1.heap.size w1 w2) := (show Below w1.heap.size w1 _ by go_grown).trans (hb2.mono (by go_size)); have DL : Hid (Below w0.heap.size w0 w2) := D1.out.trans (E2.out.mono D1.out.size); have O2 : Hid (w2.ownsRow w1.heap.size 132 2 (.slice (some ⟨b2, 0, none⟩) o.length c2) o.length (ces o)) := own_base ho2 (by go_size); clear ho2 hb2; have r4 := R0.out.below DL.out hs1; have y0 : w2.cell? ⟨w.heap.size + 1, 0, none⟩ = some (.slice none 0 0) := r4.cell 0; have y1 : w2.cell? ⟨w.heap.size + 1, 1, none⟩ = some (.slice none 0 0) := r4.cell 1; have y2 : w2.cell? ⟨w.heap.size + 1, 2, none⟩ = some (.int .i64 0) := r4.cell 2; have yf : ∀ j, w2.frozen? ⟨w.heap.size + 1, j, none⟩ = false := fun j => r4.froz j; have R4 := hide1 r4; clear r4) | (refine step_app rfl (.tmp 3) (.tmp 5) rfl _ ao l.length ca l rfl rfl rfl h0 (A0.out.later (by go_grown)) (by omega) ?_; intro b1 c1 w1 hbb ho1 hb1; have D1 : Hid (Below w0.heap.size w0 w1) := (show Below w0.heap.size w0 _ by go_grown).trans (hb1.mono (by go_size)); have O1 : Hid (w1.ownsRow w0.heap.size 132 2 (.slice (some ⟨b1, 0, none⟩) l.length c1) l.length (ces l)) := own_base ho1 (by go_size); clear ho1 hb1)))
  all_goals go_wp2
  all_goals
    have hh : Blk (put3 w2 (w.heap.size + 1) (.slice (some ⟨b1, 0, none⟩) l.length c1) (.slice (some ⟨b2, 0, none⟩) o.length c2) (.int .i64 mv)) (w.heap.size + 1) 29 [.slice (some ⟨b1, 0, none⟩) l.length c1, .slice (some ⟨b2, 0, none⟩) o.length c2, .int .i64 mv] := put3_blk R4.out _ _ _
    have l1 := O1.out.lt b1 rfl
    have l2 := O2.out.lt b2 rfl
    have d1 := D1.out.size
    have f0 := B0.out.size
    refine bodyPost_ret (results_cell_row Tryz.results86 _ _ (w.heap.size + 1) 29 #[.slice (some ⟨b1, 0, none⟩) l.length c1, .slice (some ⟨b2, 0, none⟩) o.length c2, .int .i64 mv] (0, 0) _ rfl hh Tryz.underlying29 rfl (by kernel_rfl)) rfl ?_
    refine ⟨_, rfl, b1, c1, b2, c2, rfl, own_base (own_put3 (own_kept O1.out E2.out) (fun k hk => ?_) _ _ _) f0, own_base (own_put3 O2.out (fun k hk => ?_) _ _ _) (by omega), by omega, put3_below (B0.out.trans (DL.out.mono f0)) (by omega) _ _ _⟩
    · have ek : b1 = k := Option.some.inj hk
      omega
    · have ek : b2 = k := Option.some.inj hk
      omega

theorem alloc2_snd (w : World) (o1 o2 : Obj) : ((w.alloc o1).alloc o2).heap[w.heap.size + 1]? = some o2 := by
  have := heap_alloc_new (w.alloc o1) o2
  rw [World.size_alloc] at this
  exact this
theorem own_none {w : World} {B base : Nat} (h : w.heap[B]? = some (.cells #[] 132 (0, 0))) (hb : base ≤ B) : w.ownsRow base 132 2 (.slice (some ⟨B, 0, none⟩) 0 0) 0 (ces []) :=
  ⟨rfl, .inr ⟨B, 0, #[], rfl, hb, h, Nat.le_refl _, Nat.zero_le _, rfl, rfl⟩⟩
theorem own_ne {w : World} {b1 c1 B2 base n : Nat} {xs : List Value} (O1 : w.ownsRow base 132 2 (.slice (some ⟨b1, 0, none⟩) n c1) n xs) (h0 : 0 < n) (hE : w.heap[B2]? = some (.cells #[] 132 (0, 0))) : b1 ≠ B2 := by
  rintro rfl
  rcases O1.2 with ⟨hv, _⟩ | ⟨g, cap, cur, hv, _, hh, h1, _, h3, _⟩
  · cases hv
  · injection hv with e1 e2 e3
    injection e1 with e1
    injection e1 with e1
    subst e1 e3
    rw [hE] at hh
    injection hh with hh
    injection hh with hh
    subst hh
    simp at h3
    omega
theorem madeV_none {w W : World} {b1 c1 B2 r : Nat} {l : List Ce} {mv : Int} (hB : Below w.heap.size w W) (hr : w.heap.size ≤ r) (O1 : W.ownsRow w.heap.size 132 2 (.slice (some ⟨b1, 0, none⟩) l.length c1) l.length (ces l)) (hE : W.heap[B2]? = some (.cells #[] 132 (0, 0))) (h1 : b1 ≠ B2) (r1 : b1 ≠ r) (r2 : B2 ≠ r) (hb : w.heap.size ≤ B2) (x y z : Value) :
    MadeV w (put3 W r x y z) (tbV (some ⟨b1, 0, none⟩) l.length c1 (some ⟨B2, 0, none⟩) 0 0 mv) l [] mv :=
  ⟨b1, c1, B2, 0, rfl, own_put3 O1 (fun k hk => by rw [← Option.some.inj hk]; exact r1) x y z, own_put3 (own_none hE hb) (fun k hk => by rw [← Option.some.inj hk]; exact r2) x y z, h1, put3_below hB hr x y z⟩

set_option maxRecDepth 100000 in
set_option maxHeartbeats 2000000 in
theorem specCopyT_none (ao a' : Option Addr) (l : List Ce) (ca ca' : Nat) (mv : Int) (w : World) (hl : l.length ≤ 1048576) (h0 : 0 < l.length) (hA : RdJ w ao l) :
    Calls Tryz.prog 86 #[tbV ao l.length ca a' 0 ca' mv] w fun e w' => ∃ v, e = .returned v ∧ MadeV w w' v l [] mv := by
  have F0 := hide1 (boxes w #[.slice ao l.length ca, .slice a' 0 ca', .int .i64 mv] #[.slice none 0 0, .slice none 0 0, .int .i64 0] 29)
  have HA := hide1 hA
  clear hA
  unfold tbV
  go_enter Tryz.func86, Tryz.ntmps86
  go_wp2_with fail
  generalize ((w.alloc (.cells #[.slice ao l.length ca, .slice a' 0 ca', .int .i64 mv] 29)).alloc (.cells #[.slice none 0 0, .slice none 0 0, .int .i64 0] 29)) = w0 at F0 ⊢
  obtain ⟨K0, R0, B0⟩ := F0.out
  have x0 : w0.cell? ⟨w.heap.size, 0, none⟩ = some (.slice ao l.length ca) := K0.cell 0
  have x1 : w0.cell? ⟨w.heap.size, 1, none⟩ = some (.slice a' 0 ca') := K0.cell 1
  have x2 : w0.cell? ⟨w.heap.size, 2, none⟩ = some (.int .i64 mv) := K0.cell 2
  have X := hide1 (And.intro x0 (And.intro x1 x2))
  have hs0 : w.heap.size < w0.heap.size := K0.lt
  have hs1 : w.heap.size + 1 < w0.heap.size := R0.lt
  have R0 := hide1 R0
  have B0 := hide1 B0
  have A0 := hide1 (HA.out.later B0.out)
  clear F0 K0
  go_region_held3 (fun w' => w'.cell? ⟨w.heap.size, 0, none⟩ = some (.slice ao l.length ca) ∧ w'.cell? ⟨w.heap.size, 1, none⟩ = some (.slice a' 0 ca') ∧ w'.cell? ⟨w.heap.size, 2, none⟩ = some (.int .i64 mv)) (first | go_keep | exact ⟨(D1.out.cell hs0).trans X.out.1, (D1.out.cell hs0).trans X.out.2.1, (D1.out.cell hs0).trans X.out.2.2⟩) ((first | (have DX := D1.out; refine step_app0 rfl (.tmp 7) (.tmp 9) rfl _ a' ca' rfl rfl ?_; clear DX; have r5 := Blk.more R4.out (.cells #[] 132); have u0 : (w1.alloc (.cells #[] 132)).cell? ⟨w.heap.size + 1, 0, none⟩ = some (.slice none 0 0) := r5.cell 0; have u1 : (w1.alloc (.cells #[] 132)).cell? ⟨w.heap.size + 1, 1, none⟩ = some (.slice none 0 0) := r5.cell 1; have u2 : (w1.alloc (.cells #[] 132)).cell? ⟨w.heap.size + 1, 2, none⟩ = some (.int .i64 0) := r5.cell 2; have uf : ∀ j, (w1.alloc (.cells #[] 132)).frozen? ⟨w.heap.size + 1, j, none⟩ = false := fun j => r5.froz j; have R5 := hide1 r5; clear r5) | (refine step_app rfl (.tmp 3) (.tmp 5) rfl _ ao l.length ca l rfl rfl rfl h0 (A0.out.later (by go_grown)) (by omega) ?_; intro b1 c1 w1 hbb ho1 hb1; have D1 : Hid (Below w0.heap.size w0 w1) := (show Below w0.heap.size w0 _ by go_grown).trans (hb1.mono (by go_size)); have O1 : Hid (w1.ownsRow w0.heap.size 132 2 (.slice (some ⟨b1, 0, none⟩) l.length c1) l.length (ces l)) := own_base ho1 (by go_size); (try have N1 : Hid (w1.heap[w0.heap.size + 1]? = some (.cells #[] 132 (0, 0))) := (hb1.block _ (by go_size)).trans (alloc2_snd w0 _ _)); (try have N0 : Hid (w1.heap[w0.heap.size]? = some (.cells #[] 132 (0, 0))) := (hb1.block _ (by go_size)).trans ((Below.heap_alloc _ _ _ (by rw [World.size_alloc]; omega)).trans (heap_alloc_new w0 _))); clear ho1 hb1; have r4 := R0.out.below D1.out hs1; have y0 : w1.cell? ⟨w.heap.size + 1, 0, none⟩ = some (.slice none 0 0) := r4.cell 0; have y1 : w1.cell? ⟨w.heap.size + 1, 1, none⟩ = some (.slice none 0 0) := r4.cell 1; have y2 : w1.cell? ⟨w.heap.size + 1, 2, none⟩ = some (.int .i64 0) := r4.cell 2; have yf : ∀ j, w1.frozen? ⟨w.heap.size + 1, j, none⟩ = false := fun j => r4.froz j; have R4 := hide1 r4; clear r4)))
  all_goals go_wp2
  all_goals
    have l1 := O1.out.lt b1 rfl
    have d1 := D1.out.size
    have f0 := B0.out.size
    have BF := B0.out.trans (D1.out.mono f0)
    have OB := own_base O1.out f0
  · have hh := put3_blk R5.out (.slice (some ⟨b1, 0, none⟩) l.length c1) (.slice (some ⟨w1.heap.size, 0, none⟩) 0 0) (.int .i64 mv)
    refine bodyPost_ret (results_cell_row Tryz.results86 _ _ (w.heap.size + 1) 29 #[.slice (some ⟨b1, 0, none⟩) l.length c1, .slice (some ⟨w1.heap.size, 0, none⟩) 0 0, .int .i64 mv] (0, 0) _ rfl hh Tryz.underlying29 rfl (by kernel_rfl)) rfl ?_
    exact ⟨_, rfl, madeV_none (BF.alloc (by omega) _) (by omega) (OB.alloc _) (heap_alloc_new w1 _) (by omega) (by omega) (by omega) (by omega) _ _ _⟩
  · have hh := put3_blk R4.out (.slice (some ⟨b1, 0, none⟩) l.length c1) (.slice (some ⟨w0.heap.size + 1, 0, none⟩) 0 0) (.int .i64 mv)
    refine bodyPost_ret (results_cell_row Tryz.results86 _ _ (w.heap.size + 1) 29 #[.slice (some ⟨b1, 0, none⟩) l.length c1, .slice (some ⟨w0.heap.size + 1, 0, none⟩) 0 0, .int .i64 mv] (0, 0) _ rfl hh Tryz.underlying29 rfl (by kernel_rfl)) rfl ?_
    exact ⟨_, rfl, madeV_none BF (by omega) OB N1.out (own_ne OB h0 N1.out) (by omega) (by omega) (by omega) _ _ _⟩
  · have hh := put3_blk R4.out (.slice (some ⟨b1, 0, none⟩) l.length c1) (.slice (some ⟨w0.heap.size, 0, none⟩) 0 0) (.int .i64 mv)
    refine bodyPost_ret (results_cell_row Tryz.results86 _ _ (w.heap.size + 1) 29 #[.slice (some ⟨b1, 0, none⟩) l.length c1, .slice (some ⟨w0.heap.size, 0, none⟩) 0 0, .int .i64 mv] (0, 0) _ rfl hh Tryz.underlying29 rfl (by kernel_rfl)) rfl ?_
    exact ⟨_, rfl, madeV_none BF (by omega) OB N0.out (own_ne OB h0 N0.out) (by omega) (by omega) (by omega) _ _ _⟩

theorem specCopyT_any (ao a' : Option Addr) (l o : List Ce) (ca ca' : Nat) (mv : Int) (w : World) (hl : l.length ≤ 1048576) (hl' : o.length ≤ 1048576) (h0 : 0 < l.length) (hA : RdJ w ao l) (hA' : RdJ w a' o) :
    Calls Tryz.prog 86 #[tbV ao l.length ca a' o.length ca' mv] w fun e w' => ∃ v, e = .returned v ∧ MadeV w w' v l o mv := by
  by_cases h : o.length = 0
  · have e : o = [] := List.eq_nil_of_length_eq_zero h
    subst e
    exact specCopyT_none ao a' l ca ca' mv w hl h0 hA
  · exact specCopyT_some ao a' l o ca ca' mv w hl hl' h0 (by omega) hA hA'
end Go.Proofs.YtjgiobdpbbhekaaGreatDoor
