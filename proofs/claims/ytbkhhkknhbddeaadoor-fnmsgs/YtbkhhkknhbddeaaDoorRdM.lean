/- The program's ReadMsg: a reader that panics is caught. -/
import Derived.Test.YtbkhhkknhbddeaaDoorRdL
namespace Go.Proofs.YtbkhhkknhbddeaaDoor
open Go.RowKit
set_option linter.unusedVariables false
set_option linter.unusedSimpArgs false

def zeroC : List Value := [.int .i64 0, .int .i64 0, .int .i64 0, .int .i64 0, .int .i64 0, .slice none 0 0]
set_option maxRecDepth 100000 in
theorem catch_panics (MB OB : Nat) (u : TypeId) (pv : Value) (older : List PanicEntry) (w : World) (c0 c1 c2 c3 c4 c5 : Value) (b : Bool) (hne : MB ≠ OB) (hM : Blk w MB 26 [c0, c1, c2, c3, c4, c5]) (hO : Blk w OB 4 [.bool b]) :
    CallsD Tryd.prog 57 #[.pointer (some ⟨MB, 0, none⟩), .pointer (some ⟨OB, 0, none⟩)] (.panicking ({ v := .iface u pv, recovered := false } :: older)) w fun e u' w' =>
      e = .returned (.tuple #[]) ∧ u' = .panicking ({ v := .iface u pv, recovered := true } :: older) ∧ w' = (putG w MB 0 zeroC).setCell ⟨OB, 0, none⟩ (.bool false) := by
  have y0 : w.cell? ⟨MB, 0, none⟩ = some c0 := hM.cell 0
  have y1 : w.cell? ⟨MB, 1, none⟩ = some c1 := hM.cell 1
  have y2 : w.cell? ⟨MB, 2, none⟩ = some c2 := hM.cell 2
  have y3 : w.cell? ⟨MB, 3, none⟩ = some c3 := hM.cell 3
  have y4 : w.cell? ⟨MB, 4, none⟩ = some c4 := hM.cell 4
  have y5 : w.cell? ⟨MB, 5, none⟩ = some c5 := hM.cell 5
  have yf : ∀ j, w.frozen? ⟨MB, j, none⟩ = false := fun j => hM.froz j
  have z0 : w.cell? ⟨OB, 0, none⟩ = some (.bool b) := hO.cell 0
  have zf : w.frozen? ⟨OB, 0, none⟩ = false := hO.froz 0
  have hne2 : OB ≠ MB := hne.symm
  refine callsD_of_wpS Tryd.func57 rfl fun c₀ cs hu => ?_
  apply wpS_seq
  apply wpS_region
  simp [wpOpsS, go_sem, recoverD, hu, Tryd.ntmps57, Exit.thenS]
  refine wpS_cond (t := true) (by simp [Act.eval, Array.replicate]) ?_
  simp only [if_true]
  apply wpS_region
  simp [wpOpsS, go_sem, y0, y1, y2, y3, y4, y5, yf, z0, zf, hne, hne2, bodyPostS, results, Tryd.results57]
  rfl
set_option maxRecDepth 100000 in
theorem catch_idle (MB OB : Nat) (w : World) :
    CallsD Tryd.prog 57 #[.pointer (some ⟨MB, 0, none⟩), .pointer (some ⟨OB, 0, none⟩)] .returning w fun e u' w' => e = .returned (.tuple #[]) ∧ u' = .returning ∧ w' = w := by
  refine callsD_of_wpS Tryd.func57 rfl fun c₀ cs hu => ?_
  apply wpS_seq
  apply wpS_region
  simp [wpOpsS, go_sem, recoverD, hu, Tryd.ntmps57, Exit.thenS]
  refine wpS_cond (t := false) (by simp [Act.eval, Array.replicate]) ?_
  simp only [Bool.false_eq_true, if_false]
  refine wpS_of_wp (wp_skip ?_)
  cases c₀
  simp_all [bodyPostS, results, Tryd.results57]

set_option maxRecDepth 100000 in
set_option maxHeartbeats 4000000 in
theorem messageOf_any (s : ByteArray) (w : World) (hs : s.size ≤ 1048576) :
    Calls Tryd.prog 28 #[.string s] w fun e w' => ((∃ m a, readP s = some m ∧ e = .returned (.tuple #[.agg #[.int .i64 m.k, .int .i64 m.f, .int .i64 m.o, .int .i64 m.e, .int .i64 m.n, .slice a m.is.length m.is.length], .bool true]) ∧ w'.ownsRow w.heap.size 51 3 (.slice a m.is.length m.is.length) m.is.length (rowG imC m.is)) ∨ (readP s = none ∧ e = .returned (.tuple #[.agg #[.int .i64 0, .int .i64 0, .int .i64 0, .int .i64 0, .int .i64 0, .slice none 0 0], .bool false]))) ∧ Below w.heap.size w w' := by
  have hmf : ∀ (fn : Fn) (first cap : Array Value) (w : World), (Instr.makeFunc fn first cap).run Tryd.prog w = .ok (.func fn first cap) w := fun _ _ _ _ => rfl
  have F0 := hide1 (blkN3 w #[.int .i64 0, .int .i64 0, .int .i64 0, .int .i64 0, .int .i64 0, .slice none 0 0] #[.bool false] #[.string s, .int .i64 0] 26 4 80)
  go_enter_defers Tryd.func28, Tryd.ntmps28
  go_upto_region 3 with fail
  generalize (((w.alloc (.cells #[.int .i64 0, .int .i64 0, .int .i64 0, .int .i64 0, .int .i64 0, .slice none 0 0] 26)).alloc (.cells #[.bool false] 4)).alloc (.cells #[.string s, .int .i64 0] 80)) = u at F0 ⊢
  obtain ⟨MB, hMB⟩ : ∃ X, X = w.heap.size := ⟨_, rfl⟩
  have F1 := hide1 F0.out
  rw [← hMB] at F1 ⊢
  have KM := hide1 F1.out.1
  have KO := hide1 F1.out.2.1
  have KR := hide1 (show Rdr u (MB + 1 + 1) s 0 from F1.out.2.2.1)
  have E0 := hide1 (show Below w.heap.size w u by rw [← hMB]; exact F1.out.2.2.2)
  have lwu : w.heap.size ≤ u.heap.size := E0.out.size
  have lMB : w.heap.size ≤ MB := by omega
  clear F0 F1 hMB
  have hn1 : MB ≠ MB + 1 := by omega
  have hn2 : MB + 1 ≠ MB := by omega
  go_wp2_with fail
  refine (message_any (MB + 1 + 1) s u hs KR.out).mono ?_
  rintro e w1 ⟨hcase, hg⟩
  have K1 := hide1 (gblk hg KM.out (fun e => by injection e; omega))
  have O1 := hide1 (gblk hg KO.out (fun e => by injection e; omega))
  have B1 := hide1 (E0.out.trans (gbelow hg (fun g e => by injection e; omega) lwu))
  have lMBu : MB + 1 < u.heap.size := KO.out.lt
  clear hg KM KO KR
  rcases hcase with ⟨m, a, hr, rfl, ho⟩ | ⟨hr, rfl⟩
  · have y0 : w1.cell? ⟨MB, 0, none⟩ = some (.int .i64 0) := K1.out.cell 0
    have y1 : w1.cell? ⟨MB, 1, none⟩ = some (.int .i64 0) := K1.out.cell 1
    have y2 : w1.cell? ⟨MB, 2, none⟩ = some (.int .i64 0) := K1.out.cell 2
    have y3 : w1.cell? ⟨MB, 3, none⟩ = some (.int .i64 0) := K1.out.cell 3
    have y4 : w1.cell? ⟨MB, 4, none⟩ = some (.int .i64 0) := K1.out.cell 4
    have y5 : w1.cell? ⟨MB, 5, none⟩ = some (.slice none 0 0) := K1.out.cell 5
    have yf : ∀ j, w1.frozen? ⟨MB, j, none⟩ = false := fun j => K1.out.froz j
    have z0 : w1.cell? ⟨MB + 1, 0, none⟩ = some (.bool false) := O1.out.cell 0
    have zf : ∀ j, w1.frozen? ⟨MB + 1, j, none⟩ = false := fun j => O1.out.froz j
    have HO := hide1 (own_base ho lwu)
    have HR := hide1 hr
    have NE := hide1 (show ∀ g, (Value.slice a m.is.length m.is.length).ownBlock = some g → g ≠ MB ∧ g ≠ MB + 1 from fun g hg => by have := (ho.lt g hg).1; omega)
    clear ho hr
    go_wp2
    have NB : Hid (Blk (((((((w1.setCell ⟨MB, 0, none⟩ (.int .i64 m.k)).setCell ⟨MB, 1, none⟩ (.int .i64 m.f)).setCell ⟨MB, 2, none⟩ (.int .i64 m.o)).setCell ⟨MB, 3, none⟩ (.int .i64 m.e)).setCell ⟨MB, 4, none⟩ (.int .i64 m.n)).setCell ⟨MB, 5, none⟩ (.slice a m.is.length m.is.length)).setCell ⟨MB + 1, 0, none⟩ (.bool true)) MB 26 [.int .i64 m.k, .int .i64 m.f, .int .i64 m.o, .int .i64 m.e, .int .i64 m.n, .slice a m.is.length m.is.length]) := Blk.far (Blk.set (Blk.set (Blk.set (Blk.set (Blk.set (Blk.set K1.out 0 (.int .i64 m.k)) 1 (.int .i64 m.f)) 2 (.int .i64 m.o)) 3 (.int .i64 m.e)) 4 (.int .i64 m.n)) 5 (.slice a m.is.length m.is.length)) ⟨MB + 1, 0, none⟩ _ hn1
    have NO : Hid (Blk (((((((w1.setCell ⟨MB, 0, none⟩ (.int .i64 m.k)).setCell ⟨MB, 1, none⟩ (.int .i64 m.f)).setCell ⟨MB, 2, none⟩ (.int .i64 m.o)).setCell ⟨MB, 3, none⟩ (.int .i64 m.e)).setCell ⟨MB, 4, none⟩ (.int .i64 m.n)).setCell ⟨MB, 5, none⟩ (.slice a m.is.length m.is.length)).setCell ⟨MB + 1, 0, none⟩ (.bool true)) (MB + 1) 4 [.bool true]) := Blk.set (Blk.far (Blk.far (Blk.far (Blk.far (Blk.far (Blk.far O1.out ⟨MB, 0, none⟩ _ hn2) ⟨MB, 1, none⟩ _ hn2) ⟨MB, 2, none⟩ _ hn2) ⟨MB, 3, none⟩ _ hn2) ⟨MB, 4, none⟩ _ hn2) ⟨MB, 5, none⟩ _ hn2) 0 _
    have BF : Hid (Below w.heap.size w (((((((w1.setCell ⟨MB, 0, none⟩ (.int .i64 m.k)).setCell ⟨MB, 1, none⟩ (.int .i64 m.f)).setCell ⟨MB, 2, none⟩ (.int .i64 m.o)).setCell ⟨MB, 3, none⟩ (.int .i64 m.e)).setCell ⟨MB, 4, none⟩ (.int .i64 m.n)).setCell ⟨MB, 5, none⟩ (.slice a m.is.length m.is.length)).setCell ⟨MB + 1, 0, none⟩ (.bool true))) := ((((((B1.out.setCell (p := ⟨MB, 0, none⟩) lMB _).setCell (p := ⟨MB, 1, none⟩) lMB _).setCell (p := ⟨MB, 2, none⟩) lMB _).setCell (p := ⟨MB, 3, none⟩) lMB _).setCell (p := ⟨MB, 4, none⟩) lMB _).setCell (p := ⟨MB, 5, none⟩) lMB _).setCell (p := ⟨MB + 1, 0, none⟩) (by show w.heap.size ≤ MB + 1; omega) _
    have OW : Hid ((((((((w1.setCell ⟨MB, 0, none⟩ (.int .i64 m.k)).setCell ⟨MB, 1, none⟩ (.int .i64 m.f)).setCell ⟨MB, 2, none⟩ (.int .i64 m.o)).setCell ⟨MB, 3, none⟩ (.int .i64 m.e)).setCell ⟨MB, 4, none⟩ (.int .i64 m.n)).setCell ⟨MB, 5, none⟩ (.slice a m.is.length m.is.length)).setCell ⟨MB + 1, 0, none⟩ (.bool true)).ownsRow w.heap.size 51 3 (.slice a m.is.length m.is.length) m.is.length (rowG imC m.is)) := own_far (own_far (own_far (own_far (own_far (own_far (own_far HO.out ⟨MB, 0, none⟩ _ (fun g hg => (NE.out g hg).1)) ⟨MB, 1, none⟩ _ (fun g hg => (NE.out g hg).1)) ⟨MB, 2, none⟩ _ (fun g hg => (NE.out g hg).1)) ⟨MB, 3, none⟩ _ (fun g hg => (NE.out g hg).1)) ⟨MB, 4, none⟩ _ (fun g hg => (NE.out g hg).1)) ⟨MB, 5, none⟩ _ (fun g hg => (NE.out g hg).1)) ⟨MB + 1, 0, none⟩ _ (fun g hg => (NE.out g hg).2)
    generalize (((((((w1.setCell ⟨MB, 0, none⟩ (.int .i64 m.k)).setCell ⟨MB, 1, none⟩ (.int .i64 m.f)).setCell ⟨MB, 2, none⟩ (.int .i64 m.o)).setCell ⟨MB, 3, none⟩ (.int .i64 m.e)).setCell ⟨MB, 4, none⟩ (.int .i64 m.n)).setCell ⟨MB, 5, none⟩ (.slice a m.is.length m.is.length)).setCell ⟨MB + 1, 0, none⟩ (.bool true)) = w9 at NB NO BF OW ⊢
    clear y0 y1 y2 y3 y4 y5 yf z0 zf
    have c0 : w9.cell? ⟨MB, 0, none⟩ = some (.int .i64 m.k) := NB.out.cell 0
    have c1 : w9.cell? ⟨MB, 1, none⟩ = some (.int .i64 m.f) := NB.out.cell 1
    have c2 : w9.cell? ⟨MB, 2, none⟩ = some (.int .i64 m.o) := NB.out.cell 2
    have c3 : w9.cell? ⟨MB, 3, none⟩ = some (.int .i64 m.e) := NB.out.cell 3
    have c4 : w9.cell? ⟨MB, 4, none⟩ = some (.int .i64 m.n) := NB.out.cell 4
    have c5 : w9.cell? ⟨MB, 5, none⟩ = some (.slice a m.is.length m.is.length) := NB.out.cell 5
    have o0 : w9.cell? ⟨MB + 1, 0, none⟩ = some (.bool true) := NO.out.cell 0
    refine leaves_cons (f := 57) (args := #[.pointer (some ⟨MB, 0, none⟩), .pointer (some ⟨MB + 1, 0, none⟩)]) (by simp) (by simp [go_sem]) ?_
    refine (catch_idle MB (MB + 1) _).mono ?_
    rintro e u' w'' ⟨rfl, rfl, rfl⟩
    simp [Leaves, settle, results, Tryd.results28, go_sem, c0, c1, c2, c3, c4, c5, o0]
    exact ⟨⟨m, HR.out, a, ⟨rfl, rfl, rfl, rfl, rfl, rfl, rfl⟩, OW.out⟩, BF.out⟩
  · have NB : Hid (Blk ((putG w1 MB 0 zeroC).setCell ⟨MB + 1, 0, none⟩ (.bool false)) MB 26 zeroC) := Blk.far (Blk.set (Blk.set (Blk.set (Blk.set (Blk.set (Blk.set K1.out 0 (.int .i64 0)) 1 (.int .i64 0)) 2 (.int .i64 0)) 3 (.int .i64 0)) 4 (.int .i64 0)) 5 (.slice none 0 0)) ⟨MB + 1, 0, none⟩ _ hn1
    have NO : Hid (Blk ((putG w1 MB 0 zeroC).setCell ⟨MB + 1, 0, none⟩ (.bool false)) (MB + 1) 4 [.bool false]) := Blk.set (Blk.far (Blk.far (Blk.far (Blk.far (Blk.far (Blk.far O1.out ⟨MB, 0, none⟩ _ hn2) ⟨MB, 1, none⟩ _ hn2) ⟨MB, 2, none⟩ _ hn2) ⟨MB, 3, none⟩ _ hn2) ⟨MB, 4, none⟩ _ hn2) ⟨MB, 5, none⟩ _ hn2) 0 _
    have BF : Hid (Below w.heap.size w ((putG w1 MB 0 zeroC).setCell ⟨MB + 1, 0, none⟩ (.bool false))) := (below_putG zeroC 0 B1.out lMB).setCell (p := ⟨MB + 1, 0, none⟩) (by show w.heap.size ≤ MB + 1; omega) _
    have HR := hide1 hr
    refine leaves_cons (f := 57) (args := #[.pointer (some ⟨MB, 0, none⟩), .pointer (some ⟨MB + 1, 0, none⟩)]) (by simp) (by simp [go_sem]) ?_
    refine (catch_panics MB (MB + 1) 107 (.agg #[]) [] w1 _ _ _ _ _ _ false hn1 K1.out O1.out).mono ?_
    rintro e u' w'' ⟨rfl, rfl, rfl⟩
    generalize ((putG w1 MB 0 zeroC).setCell ⟨MB + 1, 0, none⟩ (.bool false)) = w9 at NB NO BF ⊢
    have c0 : w9.cell? ⟨MB, 0, none⟩ = some (.int .i64 0) := NB.out.cell 0
    have c1 : w9.cell? ⟨MB, 1, none⟩ = some (.int .i64 0) := NB.out.cell 1
    have c2 : w9.cell? ⟨MB, 2, none⟩ = some (.int .i64 0) := NB.out.cell 2
    have c3 : w9.cell? ⟨MB, 3, none⟩ = some (.int .i64 0) := NB.out.cell 3
    have c4 : w9.cell? ⟨MB, 4, none⟩ = some (.int .i64 0) := NB.out.cell 4
    have c5 : w9.cell? ⟨MB, 5, none⟩ = some (.slice none 0 0) := NB.out.cell 5
    have o0 : w9.cell? ⟨MB + 1, 0, none⟩ = some (.bool false) := NO.out.cell 0
    simp [Leaves, settle, results, Tryd.results28, go_sem, c0, c1, c2, c3, c4, c5, o0]
    exact ⟨HR.out, BF.out⟩

def zeroMs : Ms := ⟨0, 0, 0, 0, 0, []⟩
/-- What a text is read as. -/
def rdM (s : ByteArray) : Option Ms := if 4 ≤ s.size ∧ s.size ≤ 20004 ∧ (tl s).toList = four (sumOf (inn s)) then readP (inn s) else none
def msA (m : Ms) (a : Option Addr) (ca : Nat) : Value := .agg #[.int .i64 m.k, .int .i64 m.f, .int .i64 m.o, .int .i64 m.e, .int .i64 m.n, .slice a m.is.length ca]
theorem resM2 {P : Program} {fn : Func} {p u : Tmp} {ty : TypeId} (h : fn.results = #[.cell p ty, .tmp u]) (tmps : Array Value) (w : World) (g : Nat) (t : TypeId) (cs : Array Value) (fr : Nat × Nat) (d : TypeDesc)
    (hp : tmps.getD p undef = .pointer (some ⟨g, 0, none⟩)) (hg : w.heap[g]? = some (.cells cs t fr))
    (hu : P.underlying ty = some d) (hd : (match d with | .struct _ | .array _ _ => true | _ => false) = true) (hi : (P.info? ty).map (·.size) = some cs.size) :
    (results fn tmps).run P w = .ok (.tuple #[.agg cs, tmps.getD u undef]) w := by
  have hp' : tmps[p]?.getD undef = .pointer (some ⟨g, 0, none⟩) := by simpa using hp
  simp [results, h, hp', asAddr, run_loadVar_row w g t ty cs fr d hg hu hd hi]
set_option maxRecDepth 100000 in
set_option maxHeartbeats 4000000 in
theorem implReadMsg_any (s : ByteArray) (w : World) (hs : s.size ≤ 1048576) (ht : Tabs w) :
    Calls Tryd.prog 9 #[.string s] w fun e w' => (∃ a ca, e = .returned (.tuple #[msA ((rdM s).getD zeroMs) a ca, .bool (rdM s).isSome]) ∧ w'.ownsRow w.heap.size 51 3 (.slice a ((rdM s).getD zeroMs).is.length ca) ((rdM s).getD zeroMs).is.length (rowG imC ((rdM s).getD zeroMs).is)) ∧ Below w.heap.size w w' := by
  have F0 := hide1 (And.intro (Blk.new w 26 #[.int .i64 0, .int .i64 0, .int .i64 0, .int .i64 0, .int .i64 0, .slice none 0 0]) ((Below.refl w.heap.size w).alloc (Nat.le_refl _) (.cells #[.int .i64 0, .int .i64 0, .int .i64 0, .int .i64 0, .int .i64 0, .slice none 0 0] 26)))
  have CU := hide1 (fun v (hv : Tabs v) => implUnsealed_any s (by omega) v hv)
  have HT := hide1 ht
  clear ht
  unfold unsealV at CU
  obtain ⟨m, hm⟩ : ∃ m, (rdM s).getD zeroMs = m := ⟨_, rfl⟩
  obtain ⟨b, hbb⟩ : ∃ b, (rdM s).isSome = b := ⟨_, rfl⟩
  rw [hm, hbb]
  by_cases c : 4 ≤ s.size ∧ s.size ≤ 20004 ∧ (tl s).toList = four (sumOf (inn s))
  · rw [if_pos c] at CU
    have RD := hide1 (show rdM s = readP (inn s) by unfold rdM; rw [if_pos c])
    have CM := hide1 (fun v => messageOf_any (inn s) v (by rw [inn_size]; omega))
    have HM := hide1 (And.intro hm hbb)
    clear c hm hbb
    go_enter Tryd.func9, Tryd.ntmps9
    go_upto_region 1 with fail
    generalize (w.alloc (.cells #[.int .i64 0, .int .i64 0, .int .i64 0, .int .i64 0, .int .i64 0, .slice none 0 0] 26)) = u at F0 ⊢
    obtain ⟨RB, hRB⟩ : ∃ X, X = w.heap.size := ⟨_, rfl⟩
    have K0 := hide1 F0.out.1
    rw [← hRB] at K0 ⊢
    have E0 := hide1 F0.out.2
    have lRB : w.heap.size ≤ RB := by omega
    have lwu : w.heap.size ≤ u.heap.size := E0.out.size
    clear F0 hRB
    go_wp2_with fail
    refine (CU.out u (HT.out.later E0.out)).mono ?_
    rintro e w1 ⟨rfl, hb1⟩
    have K1 := hide1 (K0.out.below hb1 K0.out.lt)
    have B1 := hide1 (E0.out.trans (hb1.mono lwu))
    clear hb1 K0
    have lw1 : w.heap.size ≤ w1.heap.size := B1.out.size
    have lRB1 : RB < w1.heap.size := K1.out.lt
    go_wp2_with fail
    refine (CM.out w1).mono ?_
    rintro e w2 ⟨hcase, hb2⟩
    have K2 := hide1 (K1.out.below hb2 K1.out.lt)
    have B2 := hide1 (B1.out.trans (hb2.mono lw1))
    clear hb2 K1
    have HC : ∃ (a : Option Addr) (ca : Nat), e = .returned (.tuple #[msA m a ca, .bool b]) ∧ w2.ownsRow w1.heap.size 51 3 (.slice a m.is.length ca) m.is.length (rowG imC m.is) := by
      obtain ⟨hm, hbb⟩ := HM.out
      rcases hcase with ⟨m', a, hr, he, ho⟩ | ⟨hr, he⟩
      · rw [RD.out, hr] at hm hbb
        have e1 : m' = m := hm
        have e2 : true = b := hbb
        subst e1 e2
        exact ⟨a, m'.is.length, he, ho⟩
      · rw [RD.out, hr] at hm hbb
        have e1 : zeroMs = m := hm
        have e2 : false = b := hbb
        subst e1 e2
        exact ⟨none, 0, he, World.ownsRow_nil _ _ _ _⟩
    obtain ⟨a, ca, rfl, ho⟩ := HC
    have NE := hide1 (show ∀ g, (Value.slice a m.is.length ca).ownBlock = some g → g ≠ RB from fun g hg => by have := (ho.lt g hg).1; omega)
    have HO := hide1 (own_base ho lw1)
    clear hcase ho
    unfold msA
    have y0 : w2.cell? ⟨RB, 0, none⟩ = some (.int .i64 0) := K2.out.cell 0
    have y1 : w2.cell? ⟨RB, 1, none⟩ = some (.int .i64 0) := K2.out.cell 1
    have y2 : w2.cell? ⟨RB, 2, none⟩ = some (.int .i64 0) := K2.out.cell 2
    have y3 : w2.cell? ⟨RB, 3, none⟩ = some (.int .i64 0) := K2.out.cell 3
    have y4 : w2.cell? ⟨RB, 4, none⟩ = some (.int .i64 0) := K2.out.cell 4
    have y5 : w2.cell? ⟨RB, 5, none⟩ = some (.slice none 0 0) := K2.out.cell 5
    have yf : ∀ j, w2.frozen? ⟨RB, j, none⟩ = false := fun j => K2.out.froz j
    go_wp2
    have NB : Hid (Blk ((((((w2.setCell ⟨RB, 0, none⟩ (.int .i64 m.k)).setCell ⟨RB, 1, none⟩ (.int .i64 m.f)).setCell ⟨RB, 2, none⟩ (.int .i64 m.o)).setCell ⟨RB, 3, none⟩ (.int .i64 m.e)).setCell ⟨RB, 4, none⟩ (.int .i64 m.n)).setCell ⟨RB, 5, none⟩ (.slice a m.is.length ca)) RB 26 [.int .i64 m.k, .int .i64 m.f, .int .i64 m.o, .int .i64 m.e, .int .i64 m.n, .slice a m.is.length ca]) := (Blk.set (Blk.set (Blk.set (Blk.set (Blk.set (Blk.set K2.out 0 (.int .i64 m.k)) 1 (.int .i64 m.f)) 2 (.int .i64 m.o)) 3 (.int .i64 m.e)) 4 (.int .i64 m.n)) 5 (.slice a m.is.length ca))
    have BF : Hid (Below w.heap.size w ((((((w2.setCell ⟨RB, 0, none⟩ (.int .i64 m.k)).setCell ⟨RB, 1, none⟩ (.int .i64 m.f)).setCell ⟨RB, 2, none⟩ (.int .i64 m.o)).setCell ⟨RB, 3, none⟩ (.int .i64 m.e)).setCell ⟨RB, 4, none⟩ (.int .i64 m.n)).setCell ⟨RB, 5, none⟩ (.slice a m.is.length ca))) := ((((((B2.out.setCell (p := ⟨RB, 0, none⟩) lRB _).setCell (p := ⟨RB, 1, none⟩) lRB _).setCell (p := ⟨RB, 2, none⟩) lRB _).setCell (p := ⟨RB, 3, none⟩) lRB _).setCell (p := ⟨RB, 4, none⟩) lRB _).setCell (p := ⟨RB, 5, none⟩) lRB _)
    have OW : Hid (((((((w2.setCell ⟨RB, 0, none⟩ (.int .i64 m.k)).setCell ⟨RB, 1, none⟩ (.int .i64 m.f)).setCell ⟨RB, 2, none⟩ (.int .i64 m.o)).setCell ⟨RB, 3, none⟩ (.int .i64 m.e)).setCell ⟨RB, 4, none⟩ (.int .i64 m.n)).setCell ⟨RB, 5, none⟩ (.slice a m.is.length ca)).ownsRow w.heap.size 51 3 (.slice a m.is.length ca) m.is.length (rowG imC m.is)) := (own_far (own_far (own_far (own_far (own_far (own_far HO.out ⟨RB, 0, none⟩ _ NE.out) ⟨RB, 1, none⟩ _ NE.out) ⟨RB, 2, none⟩ _ NE.out) ⟨RB, 3, none⟩ _ NE.out) ⟨RB, 4, none⟩ _ NE.out) ⟨RB, 5, none⟩ _ NE.out)
    generalize ((((((w2.setCell ⟨RB, 0, none⟩ (.int .i64 m.k)).setCell ⟨RB, 1, none⟩ (.int .i64 m.f)).setCell ⟨RB, 2, none⟩ (.int .i64 m.o)).setCell ⟨RB, 3, none⟩ (.int .i64 m.e)).setCell ⟨RB, 4, none⟩ (.int .i64 m.n)).setCell ⟨RB, 5, none⟩ (.slice a m.is.length ca)) = w9 at NB BF OW ⊢
    refine bodyPost_ret (resM2 Tryd.results9 _ _ RB 26 #[.int .i64 m.k, .int .i64 m.f, .int .i64 m.o, .int .i64 m.e, .int .i64 m.n, .slice a m.is.length ca] (0, 0) _ rfl NB.out Tryd.underlying26 rfl (by kernel_rfl)) rfl ?_
    exact ⟨⟨a, ca, rfl, OW.out⟩, BF.out⟩
  · rw [if_neg c] at CU
    have RD : rdM s = none := by unfold rdM; rw [if_neg c]
    rw [RD] at hm hbb
    have e1 : zeroMs = m := hm
    have e2 : false = b := hbb
    subst e1 e2
    clear c RD hm hbb
    go_enter Tryd.func9, Tryd.ntmps9
    go_upto_region 1 with fail
    generalize (w.alloc (.cells #[.int .i64 0, .int .i64 0, .int .i64 0, .int .i64 0, .int .i64 0, .slice none 0 0] 26)) = u at F0 ⊢
    obtain ⟨RB, hRB⟩ : ∃ X, X = w.heap.size := ⟨_, rfl⟩
    have K0 := hide1 F0.out.1
    rw [← hRB] at K0 ⊢
    have E0 := hide1 F0.out.2
    have lRB : w.heap.size ≤ RB := by omega
    have lwu : w.heap.size ≤ u.heap.size := E0.out.size
    clear F0 hRB
    go_wp2_with fail
    refine (CU.out u (HT.out.later E0.out)).mono ?_
    rintro e w1 ⟨rfl, hb1⟩
    have K1 := hide1 (K0.out.below hb1 K0.out.lt)
    have B1 := hide1 (E0.out.trans (hb1.mono lwu))
    clear hb1 K0
    have y0 : w1.cell? ⟨RB, 0, none⟩ = some (.int .i64 0) := K1.out.cell 0
    have y1 : w1.cell? ⟨RB, 1, none⟩ = some (.int .i64 0) := K1.out.cell 1
    have y2 : w1.cell? ⟨RB, 2, none⟩ = some (.int .i64 0) := K1.out.cell 2
    have y3 : w1.cell? ⟨RB, 3, none⟩ = some (.int .i64 0) := K1.out.cell 3
    have y4 : w1.cell? ⟨RB, 4, none⟩ = some (.int .i64 0) := K1.out.cell 4
    have y5 : w1.cell? ⟨RB, 5, none⟩ = some (.slice none 0 0) := K1.out.cell 5
    have yf : ∀ j, w1.frozen? ⟨RB, j, none⟩ = false := fun j => K1.out.froz j
    go_wp2
    refine bodyPost_ret (resM2 Tryd.results9 _ _ RB 26 #[.int .i64 0, .int .i64 0, .int .i64 0, .int .i64 0, .int .i64 0, .slice none 0 0] (0, 0) _ rfl (Blk.set (Blk.set (Blk.set (Blk.set (Blk.set (Blk.set K1.out 0 (.int .i64 0)) 1 (.int .i64 0)) 2 (.int .i64 0)) 3 (.int .i64 0)) 4 (.int .i64 0)) 5 (.slice none 0 0)) Tryd.underlying26 rfl (by kernel_rfl)) rfl ?_
    exact ⟨⟨none, 0, rfl, World.ownsRow_nil _ _ _ _⟩, ((((((B1.out.setCell (p := ⟨RB, 0, none⟩) lRB _).setCell (p := ⟨RB, 1, none⟩) lRB _).setCell (p := ⟨RB, 2, none⟩) lRB _).setCell (p := ⟨RB, 3, none⟩) lRB _).setCell (p := ⟨RB, 4, none⟩) lRB _).setCell (p := ⟨RB, 5, none⟩) lRB _)⟩
end Go.Proofs.YtbkhhkknhbddeaaDoor
