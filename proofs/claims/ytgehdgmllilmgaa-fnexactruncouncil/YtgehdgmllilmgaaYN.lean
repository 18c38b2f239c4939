/- The program's tries: a voice that took the value is noted. -/
import Derived.Test.YtgehdgmllilmgaaYL
import Derived.Test.YtgehdgmllilmgaaCnS
import Derived.Test.YtgehdgmllilmgaaBaL
namespace Go.Proofs.Ytgehdgmllilmgaa
open Go.RowKit
set_option linter.unusedVariables false

section
variable {base : Nat} {u W : World} {B : Nat} {A : CA} {c : Cn} {g j : Nat} {t : Tm}
/-- What is there behind 'append(t.Takers, ..)', ahead of the store. -/
structure SayK (base : Nat) (u : World) (B : Nat) (A : CA) (c : Cn) (g j : Nat) (t : Tm) (f : Int) (b' : Option Addr) (c' : Nat) (w' : World) : Prop where
  x : ∀ q, q < 7 → w'.cell? ⟨g, j * 7 + q, none⟩ = (tmC t)[q]?
  z : ∀ q, w'.frozen? ⟨g, q, none⟩ = false
  v : VaO base (w'.setCell ⟨g, j * 7 + 5, none⟩ (.slice b' (t.y.tk.length + 1) c')) B { A with L := A.L.set j { t with y := { t.y with tk := t.y.tk ++ [f] }, ka := b', kc := c' } } { c with ts := c.ts.set j { t.y with tk := t.y.tk ++ [f] } }
  r : FrB A B u { A with L := A.L.set j { t with y := { t.y with tk := t.y.tk ++ [f] }, ka := b', kc := c' } } (w'.setCell ⟨g, j * 7 + 5, none⟩ (.slice b' (t.y.tk.length + 1) c'))
theorem step_sayK {ops : Array Oper} {o : Oper} {a : Act} {K : Act → World → Prop} {Q : Exit → Act → World → Prop} {D : Prop} (HV : VaO base u B A c) (hta : A.ta = some ⟨g, 0, none⟩) (ht : A.L[j]? = some t) (hD : Below u.heap.size u W) (hgd : o.guard = none) (s x : Operand)
    (ho : o.op = .call { callee := .builtin .append, args := #[s, x], argTypes := #[33, 33] }) (hs : a.eval s = .slice t.ka t.y.tk.length t.kc) (ao : Option Addr) (f : Int) (hx : a.eval x = .slice ao 1 1) (hA : RdG izE 1 W ao [f]) (hlen : t.y.tk.length + 1 ≤ 1048576)
    (h : ∀ b' c' w', SayK base u B A c g j t f b' c' w' → K (a.put o.dst (.slice b' (t.y.tk.length + 1) c')) w') :
    if Region.wanted o (yielded ops a.tmps) = true then Oper.wp Try.prog o a W K Q else D := by
  have HW := HV.kept hD
  refine step_appA encZ rowZ hgd s x ho base _ t.y.tk.length t.y.tk hs (HW.o.r t (List.mem_of_getElem? ht)).k ao 1 1 [f] hx rfl hA hlen HW.lb (fun b' c' w' h1 h2 h3 => h b' c' w' ?_)
  have e1 : (t.y.tk ++ [f]).length = t.y.tk.length + 1 := by simp
  have P := HW.tkn hta ht (tk := t.y.tk ++ [f]) (a' := b') (c' := c') h2 (by rw [e1]; exact h1) h3
  rw [e1] at P
  obtain ⟨x7, f7, lg⟩ := HW.try7 hta ht
  have hgk : (Value.slice t.ka t.y.tk.length t.kc).ownBlock ≠ some g := fun e => by
    obtain ⟨y, hy, e⟩ := ownBlk e
    exact HW.o.ap (2 * j + 5) 1 (by omega) y ⟨g, 0, none⟩ (by rw [slotK, ht]; exact hy) hta e
  have hblk := h2.block g lg (fun e => hgk e.symm)
  exact ⟨fun q hq => (World.cell?_of_block (a := ⟨g, j * 7 + q, none⟩) hblk).trans (x7 q hq), fun q => (World.frozen?_of_block (a := ⟨g, q, none⟩) hblk).trans (f7 q), P.1, ((FrB.refl _ _ _).below hD).trans P.2⟩
/-- What is there behind 'append(t.Promises, ..)', ahead of the store. -/
structure SayP (base : Nat) (u : World) (B : Nat) (A : CA) (c : Cn) (g j : Nat) (t : Tm) (m : Nt) (b' : Option Addr) (c' : Nat) (w' : World) : Prop where
  x : ∀ q, q < 7 → w'.cell? ⟨g, j * 7 + q, none⟩ = (tmC t)[q]?
  z : ∀ q, w'.frozen? ⟨g, q, none⟩ = false
  v : VaO base (w'.setCell ⟨g, j * 7 + 3, none⟩ (.slice b' (t.y.ps.length + 1) c')) B { A with L := A.L.set j { t with y := { t.y with ps := t.y.ps ++ [m] }, pa := b', pc := c' } } { c with ts := c.ts.set j { t.y with ps := t.y.ps ++ [m] } }
  r : FrB A B u { A with L := A.L.set j { t with y := { t.y with ps := t.y.ps ++ [m] }, pa := b', pc := c' } } (w'.setCell ⟨g, j * 7 + 3, none⟩ (.slice b' (t.y.ps.length + 1) c'))
theorem step_sayP {ops : Array Oper} {o : Oper} {a : Act} {K : Act → World → Prop} {Q : Exit → Act → World → Prop} {D : Prop} (HV : VaO base u B A c) (hta : A.ta = some ⟨g, 0, none⟩) (ht : A.L[j]? = some t) (hD : Below u.heap.size u W) (hgd : o.guard = none) (s x : Operand)
    (ho : o.op = .call { callee := .builtin .append, args := #[s, x], argTypes := #[29, 29] }) (hs : a.eval s = .slice t.pa t.y.ps.length t.pc) (ao : Option Addr) (m : Nt) (hx : a.eval x = .slice ao 1 1) (hA : RdG ntC 6 W ao [m]) (hlen : t.y.ps.length + 1 ≤ 1048576)
    (h : ∀ b' c' w', SayP base u B A c g j t m b' c' w' → K (a.put o.dst (.slice b' (t.y.ps.length + 1) c')) w') :
    if Region.wanted o (yielded ops a.tmps) = true then Oper.wp Try.prog o a W K Q else D := by
  have HW := HV.kept hD
  refine step_appA encN rowN hgd s x ho base _ t.y.ps.length t.y.ps hs (HW.o.r t (List.mem_of_getElem? ht)).p ao 1 1 [m] hx rfl hA hlen HW.lb (fun b' c' w' h1 h2 h3 => h b' c' w' ?_)
  have e1 : (t.y.ps ++ [m]).length = t.y.ps.length + 1 := by simp
  have P := HW.prm hta ht (ps := t.y.ps ++ [m]) (a' := b') (c' := c') h2 (by rw [e1]; exact h1) h3
  rw [e1] at P
  obtain ⟨x7, f7, lg⟩ := HW.try7 hta ht
  have hgk : (Value.slice t.pa t.y.ps.length t.pc).ownBlock ≠ some g := fun e => by
    obtain ⟨y, hy, e⟩ := ownBlk e
    exact HW.o.ap (2 * j + 4) 1 (by omega) y ⟨g, 0, none⟩ (by rw [slotP, ht]; exact hy) hta e
  have hblk := h2.block g lg (fun e => hgk e.symm)
  exact ⟨fun q hq => (World.cell?_of_block (a := ⟨g, j * 7 + q, none⟩) hblk).trans (x7 q hq), fun q => (World.frozen?_of_block (a := ⟨g, q, none⟩) hblk).trans (f7 q), P.1, ((FrB.refl _ _ _).below hD).trans P.2⟩
end
theorem cell_ne (w : World) (g i q : Nat) (v : Value) (h : q ≠ i) : (w.setCell ⟨g, i, none⟩ v).cell? ⟨g, q, none⟩ = w.cell? ⟨g, q, none⟩ := by
  have := World.cell?_setCells_out g [v] i w ⟨g, q, none⟩ (fun _ _ => by dsimp only [List.length_singleton]; omega)
  exact this
theorem rd_int {w : World} {q : Nat} {f : Int} (hM : Blk w q 3 [.int .i64 f]) : RdG izE 1 w (some ⟨q, 0, none⟩) [f] := rd_one (e := 3) encZ hM
/-- What a try becomes when a voice took its value; what is chosen by it. -/
def hearTk (y : Ty) (f : Int) (n : Nat) : Ty × List ByteArray := if (y.tk.length : Int) + 1 = mostI n then ({ y with tk := y.tk ++ [f], ch := true }, [y.v]) else ({ y with tk := y.tk ++ [f] }, [])

set_option maxRecDepth 100000 in
set_option maxHeartbeats 4000000 in
theorem implHearT_any (c : Cn) (m : Nt) (A : CA) (B base g j n : Nat) (t : Tm) (w : World) (h : VaO base w B A c) (hta : A.ta = some ⟨g, 0, none⟩) (ht : A.L[j]? = some t) (hn : n ≤ 1000) (hl : t.y.tk.length ≤ 1000) :
    Calls Try.prog 107 #[.pointer (some ⟨g, j * 7, none⟩), .agg #[.int .i64 m.k, .int .i64 m.f, .int .i64 m.o, .int .i64 m.b, .int .i64 m.t, .string m.v], .int .i64 (n : Int)] w fun e w' => ∃ (a : Option Addr) (q ca : Nat), e = .returned (.tuple #[.slice none 0 0, .slice a q ca]) ∧ ∃ A', q = (hearTk t.y m.f n).2.length ∧ RdG txE 1 w' a (hearTk t.y m.f n).2 ∧ (∀ x, a = some x → x.block ≠ B ∧ ¬ InA A' x.block) ∧ VaO base w' B A' { c with ts := c.ts.set j (hearTk t.y m.f n).1 } ∧ FrB A B w A' w' := by
  obtain ⟨hj, _⟩ := List.getElem?_eq_some_iff.1 ht
  obtain ⟨h7, hf7, lgw⟩ := h.try7 hta ht
  have F0 := hide1 (And.intro (Blk.new w 111 #[.int .i64 m.k, .int .i64 m.f, .int .i64 m.o, .int .i64 m.b, .int .i64 m.t, .string m.v]) ((Below.refl w.heap.size w).alloc (Nat.le_refl _) (.cells #[.int .i64 m.k, .int .i64 m.f, .int .i64 m.o, .int .i64 m.b, .int .i64 m.t, .string m.v] 111)))
  have HV := hide1 h
  have HTA := hide1 hta
  have HT := hide1 ht
  clear h hta ht
  obtain ⟨res, hres⟩ : ∃ r, hearTk t.y m.f n = r := ⟨_, rfl⟩
  rw [hres]
  go_enter Try.func107, Try.ntmps107
  go_upto_region 1 with fail
  generalize (w.alloc (.cells #[.int .i64 m.k, .int .i64 m.f, .int .i64 m.o, .int .i64 m.b, .int .i64 m.t, .string m.v] 111)) = u at F0 ⊢
  obtain ⟨M, hM⟩ : ∃ M, M = w.heap.size := ⟨_, rfl⟩
  have K0 := hide1 F0.out.1
  have B0 := hide1 F0.out.2
  rw [← hM] at K0 ⊢
  have HVU := hide1 (HV.out.kept B0.out)
  have hgM : g ≠ M := by omega
  clear F0 hM HV
  have lgu : g < u.heap.size := Nat.lt_of_lt_of_le lgw B0.out.size
  have lMu : M < u.heap.size := K0.out.lt
  have n1 : u.cell? ⟨M, 1, none⟩ = some (.int .i64 m.f) := K0.out.cell 1
  have x5 : u.cell? ⟨g, j * 7 + 5, none⟩ = some (.slice t.ka t.y.tk.length t.kc) := (B0.out.cell lgw).trans (h7 5 (by omega))
  have z5 : u.frozen? ⟨g, j * 7 + 5, none⟩ = false := (B0.out.frozen (p := ⟨g, j * 7 + 5, none⟩) lgw).trans (hf7 _)
  clear h7 hf7
  go_cut [4] (fun mv wx => mv = .pointer (some ⟨M, 0, none⟩) ∧ ∃ b5 c5, Hid (VaO base wx B { A with L := A.L.set j { t with y := { t.y with tk := t.y.tk ++ [m.f] }, ka := b5, kc := c5 } } { c with ts := c.ts.set j { t.y with tk := t.y.tk ++ [m.f] } }) ∧ Hid (FrB A B u { A with L := A.L.set j { t with y := { t.y with tk := t.y.tk ++ [m.f] }, ka := b5, kc := c5 } } wx))
  case first =>
    go_region_law ((refine step_sayK HVU.out HTA.out HT.out (by go_grown) rfl (.tmp 12) (.tmp 15) rfl rfl (some ⟨_, 0, none⟩) m.f rfl (by first | exact rd_int (Blk.new _ _ _) | exact rd_int (blkE1 _ _)) (by omega) ?_; intro b5 c5 w5 hs5; have S5 := hide1 hs5; clear hs5 x5 z5 n1; have x5 : w5.cell? ⟨g, j * 7 + 5, none⟩ = some (.slice t.ka t.y.tk.length t.kc) := S5.out.x 5 (by omega); have z5 : w5.frozen? ⟨g, j * 7 + 5, none⟩ = false := S5.out.z _))
    all_goals
      go_wp2_with fail
      go_meet
      exact ⟨rfl, b5, c5, hide1 S5.out.v, hide1 S5.out.r⟩
  case rest =>
    obtain ⟨rfl, b5, c5, HV2, R2⟩ := hcut
    have HT2 := hide1 (show ({ A with L := A.L.set j { t with y := { t.y with tk := t.y.tk ++ [m.f] }, ka := b5, kc := c5 } } : CA).L[j]? = some { t with y := { t.y with tk := t.y.tk ++ [m.f] }, ka := b5, kc := c5 } from (getL_set hj).trans (if_pos rfl))
    obtain ⟨h7, hf7, lgc⟩ := HV2.out.try7 HTA.out HT2.out
    obtain ⟨N, hN⟩ : ∃ N, t.y.tk.length + 1 = N := ⟨_, rfl⟩
    have eN : (t.y.tk ++ [m.f]).length = N := by rw [← hN]; simp
    have x5 : wc.cell? ⟨g, j * 7 + 5, none⟩ = some (.slice b5 N c5) := by
      have := h7 5 (by omega)
      rw [this]
      show some (Value.slice b5 (t.y.tk ++ [m.f]).length c5) = _
      rw [eN]
    have x2 : wc.cell? ⟨g, j * 7 + 2, none⟩ = some (.string t.y.v) := h7 2 (by omega)
    have x6 : wc.cell? ⟨g, j * 7 + 6, none⟩ = some (.bool t.y.ch) := h7 6 (by omega)
    have z6 : wc.frozen? ⟨g, j * 7 + 6, none⟩ = false := hf7 _
    have X := hide1 (And.intro x2 (And.intro x6 z6))
    have CM := hide1 (fun w' => implMost_any (n : Int) w' (by omega) (by omega))
    have HRES := hide1 (show res = if (N : Int) = mostI n then ({ t.y with tk := t.y.tk ++ [m.f], ch := true }, [t.y.v]) else ({ t.y with tk := t.y.tk ++ [m.f] }, []) by
      rw [← hres]
      unfold hearTk
      rw [show (N : Int) = (t.y.tk.length : Int) + 1 by omega])
    obtain ⟨p, hp⟩ : ∃ p, mostI n = p := ⟨_, rfl⟩
    rw [hp] at CM HRES
    clear h7 hf7 eN hN hp hres n1
    cases cq : ((N : Int) != p)
    · have ce : (N : Int) = p := by simpa [bne] using cq
      have HR2 := hide1 (HRES.out.trans (if_pos ce))
      clear ce
      go_wp2_with fail
      go_region_held3 (fun w' => w'.cell? ⟨g, j * 7 + 5, none⟩ = some (.slice b5 N c5)) (first | go_keep | exact (hb3.cell lgc).trans x5) ((go_at_call 19; refine (CM.out _).mono ?_; rintro e w3 ⟨rfl, hb3⟩))
      have D3 := hide1 ((show Below wc.heap.size wc wc.drew from (Below.refl _ _).drew).trans hb3)
      clear hb3 x2 x6 z6 x5 CM
      have HV3 := hide1 (HV2.out.kept D3.out)
      have R3 := hide1 (R2.out.below D3.out)
      have x2 : w3.cell? ⟨g, j * 7 + 2, none⟩ = some (.string t.y.v) := (D3.out.cell lgc).trans X.out.1
      have x6 : w3.cell? ⟨g, j * 7 + 6, none⟩ = some (.bool t.y.ch) := (D3.out.cell lgc).trans X.out.2.1
      have z6 : w3.frozen? ⟨g, j * 7 + 6, none⟩ = false := (D3.out.frozen (p := ⟨g, j * 7 + 6, none⟩) lgc).trans X.out.2.2
      have P4 := hide1 (HV3.out.cell1 HTA.out HT2.out { t.y with tk := t.y.tk ++ [m.f], ch := true } rfl rfl 6 (by omega) (.bool true) (fun p hp => by
        match p with
        | 0 => rfl
        | 1 => rfl
        | 2 => rfl
        | 3 => rfl
        | 4 => rfl
        | 5 => rfl
        | 6 => exact absurd rfl hp
        | p + 7 => rfl) rfl)
      have x2' : (w3.setCell ⟨g, j * 7 + 6, none⟩ (.bool true)).cell? ⟨g, j * 7 + 2, none⟩ = some (.string t.y.v) := by
        rw [← x2]
        exact cell_ne _ _ _ _ _ (by omega)
      go_upto_region 5 with fail
      generalize w3.setCell ⟨g, j * 7 + 6, none⟩ (.bool true) = w4 at P4 x2' ⊢
      simp only [List.set_set] at P4
      clear x2 x6 z6
      go_wp2_with fail
      refine (newB_any t.y.v w4).mono ?_
      rintro e w5 ⟨rfl, hb5⟩
      have D5 := hide1 (hb5.trans ((Below.refl w5.heap.size w5).alloc (Nat.le_refl _) (.cells #[.string t.y.v] 9) |>.mono hb5.size))
      have K5 := hide1 (Blk.new w5 9 #[.string t.y.v])
      have l45 : w4.heap.size ≤ w5.heap.size := hb5.size
      clear hb5 x2'
      go_wp2
      go_returns
      have HV5 := P4.out.1.kept D5.out
      refine ⟨some ⟨w5.heap.size, 0, none⟩, 1, 1, rfl, _, by rw [HR2.out]; rfl, ?_, fun x hx => ?_, by rw [HR2.out]; exact HV5, ((FrB.refl _ _ _).below B0.out).trans (R3.out.trans (P4.out.2.below D5.out))⟩
      · rw [HR2.out]
        exact rd_one (e := 9) encX K5.out
      · injection hx with hx
        subst hx
        refine ⟨fun e => ?_, fun e => ?_⟩
        · have := P4.out.1.b.lt
          dsimp only at e
          omega
        · have := (P4.out.1.o.inA e).2
          dsimp only at this
          omega
    · have ce : ¬ (N : Int) = p := by simpa [bne] using cq
      have HR2 := hide1 (HRES.out.trans (if_neg ce))
      clear ce
      go_wp2_with fail
      go_region_held3 (fun w' => w'.cell? ⟨g, j * 7 + 5, none⟩ = some (.slice b5 N c5)) (first | go_keep | exact (hb3.cell lgc).trans x5) ((go_at_call 19; refine (CM.out _).mono ?_; rintro e w3 ⟨rfl, hb3⟩))
      have D3 := hide1 ((show Below wc.heap.size wc wc.drew from (Below.refl _ _).drew).trans hb3)
      clear hb3 x2 x6 z6 x5 CM
      go_wp2
      go_returns
      exact ⟨none, 0, 0, rfl, _, by rw [HR2.out]; rfl, by rw [HR2.out]; exact RdG.nil _ _, (fun x hx => by cases hx), by rw [HR2.out]; exact HV2.out.kept D3.out, ((FrB.refl _ _ _).below B0.out).trans (R2.out.below D3.out)⟩
end Go.Proofs.Ytgehdgmllilmgaa
namespace Go.Proofs.Ytgehdgmllilmgaa
open Go.RowKit
set_option linter.unusedVariables false

/-- What a try becomes by a promise; what it asks by it. -/
def hearPr (y : Ty) (m : Nt) (n : Nat) : Ty × List Nt := if (y.ps.length : Int) + 1 < mostI n then ({ y with ps := y.ps ++ [m] }, []) else (⟨y.i, y.b, (pickS (y.ps ++ [m]) y.v).2, y.ps ++ [m], true, y.tk, y.ch⟩, (List.range n).map (askT y.i y.b (pickS (y.ps ++ [m]) y.v).2))

set_option maxRecDepth 100000 in
set_option maxHeartbeats 4000000 in
theorem implHearP_any (c : Cn) (m : Nt) (A : CA) (B base g j n : Nat) (t : Tm) (w : World) (h : VaO base w B A c) (hta : A.ta = some ⟨g, 0, none⟩) (ht : A.L[j]? = some t) (hn : n ≤ 1000) (hl : t.y.ps.length ≤ 1000) :
    Calls Try.prog 106 #[.pointer (some ⟨g, j * 7, none⟩), .agg #[.int .i64 m.k, .int .i64 m.f, .int .i64 m.o, .int .i64 m.b, .int .i64 m.t, .string m.v], .int .i64 (n : Int)] w fun e w' => ∃ (a : Option Addr) (q ca : Nat), e = .returned (.tuple #[.slice a q ca, .slice none 0 0]) ∧ ∃ A', q = (hearPr t.y m n).2.length ∧ RdG ntC 6 w' a (hearPr t.y m n).2 ∧ (∀ x, a = some x → x.block ≠ B ∧ ¬ InA A' x.block) ∧ VaO base w' B A' { c with ts := c.ts.set j (hearPr t.y m n).1 } ∧ FrB A B w A' w' := by
  obtain ⟨hj, _⟩ := List.getElem?_eq_some_iff.1 ht
  obtain ⟨h7, hf7, lgw⟩ := h.try7 hta ht
  have F0 := hide1 (And.intro (Blk.new w 111 #[.int .i64 m.k, .int .i64 m.f, .int .i64 m.o, .int .i64 m.b, .int .i64 m.t, .string m.v]) ((Below.refl w.heap.size w).alloc (Nat.le_refl _) (.cells #[.int .i64 m.k, .int .i64 m.f, .int .i64 m.o, .int .i64 m.b, .int .i64 m.t, .string m.v] 111)))
  have HV := hide1 h
  have HTA := hide1 hta
  have HT := hide1 ht
  clear h hta ht
  obtain ⟨res, hres⟩ : ∃ r, hearPr t.y m n = r := ⟨_, rfl⟩
  rw [hres]
  go_enter Try.func106, Try.ntmps106
  go_upto_region 1 with fail
  generalize (w.alloc (.cells #[.int .i64 m.k, .int .i64 m.f, .int .i64 m.o, .int .i64 m.b, .int .i64 m.t, .string m.v] 111)) = u at F0 ⊢
  obtain ⟨M, hM⟩ : ∃ M, M = w.heap.size := ⟨_, rfl⟩
  have K0 := hide1 F0.out.1
  have B0 := hide1 F0.out.2
  rw [← hM] at K0 ⊢
  have HVU := hide1 (HV.out.kept B0.out)
  have hgM : g ≠ M := by omega
  clear F0 hM HV
  have lgu : g < u.heap.size := Nat.lt_of_lt_of_le lgw B0.out.size
  have lMu : M < u.heap.size := K0.out.lt
  have n0 : u.cell? ⟨M, 0, none⟩ = some (.int .i64 m.k) := K0.out.cell 0
  have n1 : u.cell? ⟨M, 1, none⟩ = some (.int .i64 m.f) := K0.out.cell 1
  have n2 : u.cell? ⟨M, 2, none⟩ = some (.int .i64 m.o) := K0.out.cell 2
  have n3 : u.cell? ⟨M, 3, none⟩ = some (.int .i64 m.b) := K0.out.cell 3
  have n4 : u.cell? ⟨M, 4, none⟩ = some (.int .i64 m.t) := K0.out.cell 4
  have n5 : u.cell? ⟨M, 5, none⟩ = some (.string m.v) := K0.out.cell 5
  have x5 : u.cell? ⟨g, j * 7 + 3, none⟩ = some (.slice t.pa t.y.ps.length t.pc) := (B0.out.cell lgw).trans (h7 3 (by omega))
  have z5 : u.frozen? ⟨g, j * 7 + 3, none⟩ = false := (B0.out.frozen (p := ⟨g, j * 7 + 3, none⟩) lgw).trans (hf7 _)
  clear h7 hf7
  go_cut [4] (fun mv wx => mv = .pointer (some ⟨M, 0, none⟩) ∧ ∃ b5 c5, Hid (VaO base wx B { A with L := A.L.set j { t with y := { t.y with ps := t.y.ps ++ [m] }, pa := b5, pc := c5 } } { c with ts := c.ts.set j { t.y with ps := t.y.ps ++ [m] } }) ∧ Hid (FrB A B u { A with L := A.L.set j { t with y := { t.y with ps := t.y.ps ++ [m] }, pa := b5, pc := c5 } } wx))
  case first =>
    go_region_law ((refine step_sayP HVU.out HTA.out HT.out (by go_grown) rfl (.tmp 12) (.tmp 14) rfl rfl (some ⟨_, 0, none⟩) m rfl (by first | exact rd_one encN (Blk.new _ _ _) | exact rd_one encN (blkE1 _ _)) (by omega) ?_; intro b5 c5 w5 hs5; have S5 := hide1 hs5; clear hs5 x5 z5 n0 n1 n2 n3 n4 n5; have x5 : w5.cell? ⟨g, j * 7 + 3, none⟩ = some (.slice t.pa t.y.ps.length t.pc) := S5.out.x 3 (by omega); have z5 : w5.frozen? ⟨g, j * 7 + 3, none⟩ = false := S5.out.z _))
    all_goals
      go_wp2_with fail
      go_meet
      exact ⟨rfl, b5, c5, hide1 S5.out.v, hide1 S5.out.r⟩
  case rest =>
    obtain ⟨rfl, b5, c5, HV2, R2⟩ := hcut
    have HT2 := hide1 (show ({ A with L := A.L.set j { t with y := { t.y with ps := t.y.ps ++ [m] }, pa := b5, pc := c5 } } : CA).L[j]? = some { t with y := { t.y with ps := t.y.ps ++ [m] }, pa := b5, pc := c5 } from (getL_set hj).trans (if_pos rfl))
    obtain ⟨h7, hf7, lgc⟩ := HV2.out.try7 HTA.out HT2.out
    obtain ⟨N, hN⟩ : ∃ N, t.y.ps.length + 1 = N := ⟨_, rfl⟩
    have eN : (t.y.ps ++ [m]).length = N := by rw [← hN]; simp
    have EN := hide1 eN
    have x3 : wc.cell? ⟨g, j * 7 + 3, none⟩ = some (.slice b5 N c5) := by
      have := h7 3 (by omega)
      rw [this]
      show some (Value.slice b5 (t.y.ps ++ [m]).length c5) = _
      rw [eN]
    have x4 : wc.cell? ⟨g, j * 7 + 4, none⟩ = some (.bool t.y.as) := h7 4 (by omega)
    have z4 : wc.frozen? ⟨g, j * 7 + 4, none⟩ = false := hf7 _
    have X := hide1 (And.intro x4 z4)
    have CM := hide1 (fun w' => implMost_any (n : Int) w' (by omega) (by omega))
    have HRES := hide1 (show res = if (N : Int) < mostI n then ({ t.y with ps := t.y.ps ++ [m] }, []) else (⟨t.y.i, t.y.b, (pickS (t.y.ps ++ [m]) t.y.v).2, t.y.ps ++ [m], true, t.y.tk, t.y.ch⟩, (List.range n).map (askT t.y.i t.y.b (pickS (t.y.ps ++ [m]) t.y.v).2)) by
      rw [← hres]
      unfold hearPr
      rw [show (N : Int) = (t.y.ps.length : Int) + 1 by omega])
    obtain ⟨p, hp⟩ : ∃ p, mostI n = p := ⟨_, rfl⟩
    rw [hp] at CM HRES
    have hN1 : N ≤ 1001 := by omega
    clear h7 hf7 eN hN hp hres n0 n1 n2 n3 n4 n5
    by_cases cq : (N : Int) < p
    · have HR2 := hide1 (HRES.out.trans (if_pos cq))
      go_wp2_with fail
      go_region_held3 (fun w' => w'.cell? ⟨g, j * 7 + 3, none⟩ = some (.slice b5 N c5)) (first | go_keep | exact (hb3.cell lgc).trans x3) ((go_at_call 19; refine (CM.out _).mono ?_; rintro e w3 ⟨rfl, hb3⟩))
      have D3 := hide1 ((show Below wc.heap.size wc wc.drew from (Below.refl _ _).drew).trans hb3)
      clear hb3 x3 x4 z4 CM
      go_wp2
      go_returns
      exact ⟨none, 0, 0, rfl, _, by rw [HR2.out]; rfl, by rw [HR2.out]; exact RdG.nil _ _, (fun x hx => by cases hx), by rw [HR2.out]; exact HV2.out.kept D3.out, ((FrB.refl _ _ _).below B0.out).trans (R2.out.below D3.out)⟩
    · have HR2 := hide1 (HRES.out.trans (if_neg cq))
      go_wp2_with fail
      go_region_held3 (fun w' => w'.cell? ⟨g, j * 7 + 3, none⟩ = some (.slice b5 N c5)) (first | go_keep | exact (hb3.cell lgc).trans x3) ((go_at_call 19; refine (CM.out _).mono ?_; rintro e w3 ⟨rfl, hb3⟩))
      have D3 := hide1 ((show Below wc.heap.size wc wc.drew from (Below.refl _ _).drew).trans hb3)
      clear hb3 x3 x4 z4 CM
      have HV3 := hide1 (HV2.out.kept D3.out)
      have R3 := hide1 (R2.out.below D3.out)
      have x4 : w3.cell? ⟨g, j * 7 + 4, none⟩ = some (.bool t.y.as) := (D3.out.cell lgc).trans X.out.1
      have z4 : w3.frozen? ⟨g, j * 7 + 4, none⟩ = false := (D3.out.frozen (p := ⟨g, j * 7 + 4, none⟩) lgc).trans X.out.2
      have P4 := hide1 (HV3.out.cell1 HTA.out HT2.out (⟨t.y.i, t.y.b, t.y.v, t.y.ps ++ [m], true, t.y.tk, t.y.ch⟩ : Ty) rfl rfl 4 (by omega) (.bool true) (fun p hp => by
        match p with
        | 0 => rfl
        | 1 => rfl
        | 2 => rfl
        | 3 => rfl
        | 4 => exact absurd rfl hp
        | 5 => rfl
        | 6 => rfl
        | p + 7 => rfl) rfl)
      go_upto_region 5 with fail
      generalize w3.setCell ⟨g, j * 7 + 4, none⟩ (.bool true) = w4 at P4 ⊢
      simp only [List.set_set] at P4
      clear x4 z4 D3 HV3 HV2 R2
      have HV4 := hide1 P4.out.1
      have R4 := hide1 (R3.out.trans P4.out.2)
      have HT4 := hide1 (show (A.L.set j { t with y := (⟨t.y.i, t.y.b, t.y.v, t.y.ps ++ [m], true, t.y.tk, t.y.ch⟩ : Ty), pa := b5, pc := c5 })[j]? = some { t with y := (⟨t.y.i, t.y.b, t.y.v, t.y.ps ++ [m], true, t.y.tk, t.y.ch⟩ : Ty), pa := b5, pc := c5 } from (getL_set hj).trans (if_pos rfl))
      obtain ⟨h7, hf7, lg4⟩ := HV4.out.try7 HTA.out HT4.out
      have x3 : w4.cell? ⟨g, j * 7 + 3, none⟩ = some (.slice b5 N c5) := by
        have := h7 3 (by omega)
        rw [this]
        show some (Value.slice b5 (t.y.ps ++ [m]).length c5) = _
        rw [EN.out]
      have x2 : w4.cell? ⟨g, j * 7 + 2, none⟩ = some (.string t.y.v) := h7 2 (by omega)
      have z2 : w4.frozen? ⟨g, j * 7 + 2, none⟩ = false := hf7 _
      have X4 := hide1 (And.intro x2 z2)
      have RP := hide1 (rdN6_of_rdG (rdG_of_own encN.len (HV4.out.o.r _ (List.mem_of_getElem? HT4.out)).p rfl))
      have CP := hide1 (fun w' (hb : Below w4.heap.size w4 w') => show Calls Try.prog 117 #[.slice b5 N c5, .string t.y.v] w' (fun e w'' => e = .returned (.string (pickS (t.y.ps ++ [m]) t.y.v).2) ∧ Below w'.heap.size w' w'') by
        have := implPick_any b5 (t.y.ps ++ [m]) c5 t.y.v w' (by rw [EN.out]; omega) (RP.out.later hb)
        rw [EN.out] at this
        exact this)
      generalize (pickS (t.y.ps ++ [m]) t.y.v).2 = pv at *
      clear h7 hf7 P4 R3
      go_region_with (go_at_call 117; refine (CP.out _ (by go_grown)).mono ?_; rintro e w5 ⟨rfl, hb5⟩; have D5 : Hid (Below w4.heap.size w4 w5) := (show Below w4.heap.size w4 _ by go_grown).trans hb5; clear hb5 x2 z2 x3; have x2 : w5.cell? ⟨g, j * 7 + 2, none⟩ = some (.string t.y.v) := (D5.out.cell lg4).trans X4.out.1; have z2 : w5.frozen? ⟨g, j * 7 + 2, none⟩ = false := (D5.out.frozen (p := ⟨g, j * 7 + 2, none⟩) lg4).trans X4.out.2)
      all_goals
        have HV5 := hide1 (HV4.out.kept D5.out)
        have P6 := hide1 (HV5.out.cell1 HTA.out HT4.out (⟨t.y.i, t.y.b, pv, t.y.ps ++ [m], true, t.y.tk, t.y.ch⟩ : Ty) rfl rfl 2 (by omega) (.string pv) (fun p hp => by
          match p with
          | 0 => rfl
          | 1 => rfl
          | 2 => exact absurd rfl hp
          | 3 => rfl
          | 4 => rfl
          | 5 => rfl
          | 6 => rfl
          | p + 7 => rfl) rfl)
        generalize w5.setCell ⟨g, j * 7 + 2, none⟩ (.string pv) = w6 at P6 ⊢
        simp only [List.set_set] at P6
        have HV6 := hide1 P6.out.1
        have R6 := hide1 ((R4.out.below D5.out).trans P6.out.2)
        have HT6 := hide1 (show (A.L.set j { t with y := (⟨t.y.i, t.y.b, pv, t.y.ps ++ [m], true, t.y.tk, t.y.ch⟩ : Ty), pa := b5, pc := c5 })[j]? = some { t with y := (⟨t.y.i, t.y.b, pv, t.y.ps ++ [m], true, t.y.tk, t.y.ch⟩ : Ty), pa := b5, pc := c5 } from (getL_set hj).trans (if_pos rfl))
        obtain ⟨h7, hf7, lg6⟩ := HV6.out.try7 HTA.out HT6.out
        clear x2 z2 HV5 P6
        have x0 : w6.cell? ⟨g, j * 7, none⟩ = some (.int .i64 t.y.i) := h7 0 (by omega)
        have x1 : w6.cell? ⟨g, j * 7 + 1, none⟩ = some (.int .i64 t.y.b) := h7 1 (by omega)
        have x2 : w6.cell? ⟨g, j * 7 + 2, none⟩ = some (.string pv) := h7 2 (by omega)
        have CA := hide1 (fun w' (hb : Below w6.heap.size w6 w') => askAllT_any g (j * 7) t.y.i t.y.b pv n w' ((hb.cell lg6).trans x0) hn)
        clear h7 hf7 x0 CP
        go_upto_region 6 with fail
        go_region_with (go_at_call 94; refine (CA.out _ (by go_grown)).mono ?_; rintro e w7 ⟨⟨a7, c7, rfl, ho7⟩, hb7⟩; have D7 : Hid (Below w6.heap.size w6 w7) := (show Below w6.heap.size w6 _ by go_grown).trans hb7; have O7 := hide1 ho7; clear hb7 ho7)
        all_goals
          go_wp2
          go_returns
          refine ⟨a7, n, c7, rfl, _, by rw [HR2.out]; simp, ?_, fun x hx => ?_, by rw [HR2.out]; exact HV6.out.kept D7.out, ((FrB.refl _ _ _).below B0.out).trans (R6.out.below D7.out)⟩
          · rw [HR2.out]
            exact rdG_of_own encN.len O7.out (by simp)
          · have lo : w6.heap.size ≤ x.block := own_bge O7.out x hx
            refine ⟨fun e => ?_, fun e => ?_⟩
            · have := HV6.out.b.lt
              omega
            · have := (HV6.out.o.inA e).2
              omega
end Go.Proofs.Ytgehdgmllilmgaa
