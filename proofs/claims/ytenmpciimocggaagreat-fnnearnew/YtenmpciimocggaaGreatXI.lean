/- Cells of a board written, by the program: taking and laying a key. -/
import Derived.Test.YtenmpciimocggaaGreatXH
namespace Go.Proofs.YtenmpciimocggaaGreat
open Go.RowKit

/-- A cell that is gone. -/
def gC : Ce := ⟨⟨#[]⟩, -2⟩
theorem seg_set {A L C : List Ce} {k : Nat} (hk : k < L.length) (s : Ce) : (A ++ L ++ C).set (A.length + k) s = A ++ L.set k s ++ C := by
  rw [List.append_assoc, List.set_append_right _ _ (by omega), Nat.add_sub_cancel_left, List.set_append_left _ _ hk, List.append_assoc]
theorem seg_at {A L C : List Ce} {k : Nat} (hk : k < L.length) : (A ++ L ++ C)[A.length + k]'(by simp only [List.length_append]; omega) = L[k] := by
  rw [List.getElem_append_left (by simp only [List.length_append]; omega), List.getElem_append_right (by omega)]
  simp
theorem Blk.segset {w : World} {g k of : Nat} {A L C : List Ce} (h : Blk w g 102 (ces (A ++ L ++ C))) (ho : of = A.length * 2) (hk : k < L.length) (s : Ce) :
    Blk ((w.setCell ⟨g, of + k * 2, none⟩ (.string s.key)).setCell ⟨g, of + k * 2 + 1, none⟩ (.int .i64 s.h)) g 102 (ces (A ++ L.set k s ++ C)) := by
  subst ho
  have st := (h.set (A.length * 2 + k * 2) (.string s.key)).set (A.length * 2 + k * 2 + 1) (.int .i64 s.h)
  rw [show A.length * 2 + k * 2 = (A.length + k) * 2 by omega, ces_setK (by simp only [List.length_append]; omega), seg_set hk] at st
  rw [show A.length * 2 + k * 2 = (A.length + k) * 2 by omega]
  exact st
theorem Blk.segat {w : World} {g k of : Nat} {A L C : List Ce} (h : Blk w g 102 (ces (A ++ L ++ C))) (ho : of = A.length * 2) (hk : k < L.length) : cellO w g of k L[k] := by
  subst ho
  unfold cellO
  rw [show A.length * 2 + k * 2 = (A.length + k) * 2 by omega, h.cell, h.cell, ces_at0 (by simp only [List.length_append]; omega), ces_at1 (by simp only [List.length_append]; omega), seg_at hk]
  exact ⟨rfl, rfl⟩
theorem Blk.segrd {w : World} {g of : Nat} {x : Option Addr} {A L C : List Ce} (h : Blk w g 102 (ces (A ++ L ++ C))) (ho : of = A.length * 2) (hx : L ≠ [] → x = some ⟨g, of, none⟩) : RdJ w x L := by
  intro i hi
  exact ⟨g, of, hx (fun e => by rw [e] at hi; simp at hi), h.lt, h.segat ho hi⟩

theorem Brd.bel {B b g mv : Nat} {w w' : World} {l o : List Ce} (h : Brd B w b g l o mv) (hb : w.grownBy w' (some g)) {l' o' : List Ce} (hl : l'.length = l.length) (ho : o'.length = o.length) (hK : Blk w' g 102 (ces (l' ++ o'))) : Brd B w' b g l' o' mv := by
  refine ⟨h.lb, h.lg, h.ne, ?_, hK⟩
  rw [hl, ho]
  exact (hb.block b h.hd.lt (fun e => h.ne (Option.some.inj e))).trans h.hd
theorem Brd.setC {B b g mv k : Nat} {w : World} {l o : List Ce} (h : Brd B w b g l o mv) (hk : k < l.length) (s : Ce) : Brd B ((w.setCell ⟨g, k * 2, none⟩ (.string s.key)).setCell ⟨g, k * 2 + 1, none⟩ (.int .i64 s.h)) b g (l.set k s) o mv := by
  refine h.bel (gset (gset (World.grownBy.refl _ _) _ _) _ _) (List.length_set ..) rfl ?_
  have := Blk.segset (A := []) (L := l) (C := o) (of := 0) h.tl rfl hk s
  rw [Nat.zero_add] at this
  exact this
theorem Brd.setO {B b g mv k : Nat} {w : World} {l o : List Ce} (h : Brd B w b g l o mv) (hk : k < o.length) (s : Ce) : Brd B ((w.setCell ⟨g, l.length * 2 + k * 2, none⟩ (.string s.key)).setCell ⟨g, l.length * 2 + k * 2 + 1, none⟩ (.int .i64 s.h)) b g l (o.set k s) mv := by
  refine h.bel (gset (gset (World.grownBy.refl _ _) _ _) _ _) rfl (List.length_set ..) ?_
  have := Blk.segset (A := l) (L := o) (C := []) (of := l.length * 2) (by rw [List.append_nil]; exact h.tl) rfl hk s
  rw [List.append_nil] at this
  exact this
theorem Brd.setH {B b g mv k : Nat} {w : World} {l o : List Ce} (h : Brd B w b g l o mv) (hk : k < l.length) (v : Int) : Brd B (w.setCell ⟨g, k * 2 + 1, none⟩ (.int .i64 v)) b g (l.set k ⟨l[k].key, v⟩) o mv := by
  refine h.bel (gset (World.grownBy.refl _ _) _ _) (List.length_set ..) rfl ?_
  have st := h.tl.set (k * 2 + 1) (.int .i64 v)
  rw [ces_setH (by simp only [List.length_append]; omega), List.getElem_append_left hk, List.set_append_left _ _ hk] at st
  exact st

end Go.Proofs.YtenmpciimocggaaGreat
namespace Go.Proofs.YtenmpciimocggaaGreat
open Go.RowKit

/-- A key laid where its way has the first cell without one. -/
def layC (l : List Ce) (key : ByteArray) (h : Int) : Option (List Ce) :=
  match (srchC l key).2 with
  | none => none
  | some k => match l[k]? with
    | some x => if x.h = -1 ∧ cntN l l.length = 1 then none else some (l.set k ⟨key, h⟩)
    | none => none
theorem layC_put {l : List Ce} {key : ByteArray} (hF : FitC l) (h0 : (srchC l key).1 = none) (h : Int) : layC l key h = putC l key h := by
  rw [putC_srch hF h0, layC]
  rfl
theorem layC_length {l l' : List Ce} {key : ByteArray} {h : Int} (e : layC l key h = some l') : l'.length = l.length := by
  unfold layC at e
  split at e
  · cases e
  · split at e
    · split at e
      · cases e
      · injection e with e; rw [← e, List.length_set]
    · cases e
theorem srchC_free_lt {l : List Ce} {key : ByteArray} {k : Nat} (hl : 0 < l.length) (h : (srchC l key).2 = some k) : k < l.length := srchD_free_lt hl _ _ _ _ (fun j e => by cases e) h

theorem gdrew {w w' : World} {r : Option Nat} (h : w.grownBy w' r) : w.grownBy w'.drew r := ⟨h.os, h.tape, h.output, h.size, h.block⟩

end Go.Proofs.YtenmpciimocggaaGreat
namespace Go.Proofs.YtenmpciimocggaaGreat
open Go.RowKit

theorem res2 {P : Program} {fn : Func} {p u : Tmp} {ty : TypeId} (h : fn.results = #[.cell p ty, .tmp u]) (tmps : Array Value) (w : World) (g : Nat) (t : TypeId) (cs : Array Value) (fr : Nat × Nat) (d : TypeDesc)
    (hp : tmps.getD p undef = .pointer (some ⟨g, 0, none⟩)) (hg : w.heap[g]? = some (.cells cs t fr))
    (hu : P.underlying ty = some d) (hd : (match d with | .struct _ | .array _ _ => true | _ => false) = true) (hi : (P.info? ty).map (·.size) = some cs.size) :
    (results fn tmps).run P w = .ok (.tuple #[.agg cs, tmps.getD u undef]) w := by
  have hp' : tmps[p]?.getD undef = .pointer (some ⟨g, 0, none⟩) := by simpa using hp
  simp [results, h, hp', asAddr, run_loadVar_row w g t ty cs fr d hg hu hd hi]

/-- What a maker answers: where all is as it asks, what R says; else nothing. -/
def Ans (ok : Prop) (R : Option (List Ce × List Ce × Int)) (L O : List Ce) (M : Int) (t : Bool) : Prop := (ok ∧ R = some (L, O, M) ∧ t = true) ∨ (¬ (ok ∧ ∃ x, R = some x) ∧ L = [] ∧ O = [] ∧ M = 0 ∧ t = false)
theorem Ans.det {ok : Prop} {R : Option (List Ce × List Ce × Int)} {L O L' O' : List Ce} {M M' : Int} {t t' : Bool} (x : Ans ok R L O M t) (y : Ans ok R L' O' M' t') : L = L' ∧ O = O' ∧ M = M' ∧ t = t' := by
  rcases x with ⟨a, b, rfl⟩ | ⟨n, rfl, rfl, rfl, rfl⟩ <;> rcases y with ⟨a', b', rfl⟩ | ⟨n', rfl, rfl, rfl, rfl⟩
  · rw [b] at b'
    injection b' with b'
    injection b' with e1 e2
    injection e2 with e2 e3
    exact ⟨e1, e2, e3, rfl⟩
  · exact absurd ⟨a, _, b⟩ n'
  · exact absurd ⟨a', _, b'⟩ n
  · exact ⟨rfl, rfl, rfl, rfl⟩
theorem Ans.small {ok : Prop} {R : Option (List Ce × List Ce × Int)} {L O : List Ce} {M : Int} {t : Bool} (x : Ans ok R L O M t) (h : ∀ l o m, ok → R = some (l, o, m) → l.length ≤ 64 ∧ o.length ≤ 64) : L.length ≤ 64 ∧ O.length ≤ 64 := by
  rcases x with ⟨a, b, rfl⟩ | ⟨n, rfl, rfl, rfl, rfl⟩
  · exact h _ _ _ a b
  · exact ⟨Nat.zero_le _, Nat.zero_le _⟩
/-- A maker's answer in memory. -/
def MadeT (w w' : World) (e : Ending) (ok : Prop) (R : Option (List Ce × List Ce × Int)) : Prop := ∃ (ao : Option Addr) (L : List Ce) (ca : Nat) (a' : Option Addr) (O : List Ce) (ca' : Nat) (M : Int) (t : Bool), e = .returned (.tuple #[tbV ao L.length ca a' O.length ca' M, .bool t]) ∧ Ans ok R L O M t ∧ w'.ownsRow w.heap.size 102 2 (.slice ao L.length ca) L.length (ces L) ∧ w'.ownsRow w.heap.size 102 2 (.slice a' O.length ca') O.length (ces O) ∧ apart2 (.slice ao L.length ca) (.slice a' O.length ca') ∧ Below w.heap.size w w'
/-- The three cells of a table stored anew. -/
def put3 (w : World) (r : Nat) (a b c : Value) : World := ((w.setCell ⟨r, 0, none⟩ a).setCell ⟨r, 1, none⟩ b).setCell ⟨r, 2, none⟩ c
theorem put3_blk {w : World} {r : Nat} {t : TypeId} {x y z : Value} (h : Blk w r t [x, y, z]) (a b c : Value) : Blk (put3 w r a b c) r t [a, b, c] := Blk.set (Blk.set (Blk.set h 0 a) 1 b) 2 c
theorem put3_below {w w' : World} {B r : Nat} (h : Below B w w') (hr : B ≤ r) (a b c : Value) : Below B w (put3 w' r a b c) := ((h.setCell (p := ⟨r, 0, none⟩) hr a).setCell (p := ⟨r, 1, none⟩) hr b).setCell (p := ⟨r, 2, none⟩) hr c
theorem own_put3 {w : World} {base n size r : Nat} {e : TypeId} {v : Value} {xs : List Value} (h : w.ownsRow base e size v n xs) (hne : ∀ k, v.ownBlock = some k → k ≠ r) (a b c : Value) : (put3 w r a b c).ownsRow base e size v n xs :=
  own_far (own_far (own_far h _ _ hne) _ _ hne) _ _ hne
theorem MadeT.no {w w1 : World} {r : Nat} {ok : Prop} {R : Option (List Ce × List Ce × Int)} (hB : Below w.heap.size w w1) (hr : w.heap.size ≤ r) (h : ¬ (ok ∧ ∃ x, R = some x)) (a b c : Value) :
    MadeT w (put3 w1 r a b c) (.returned (.tuple #[.agg #[.slice none 0 0, .slice none 0 0, .int .i64 0], .bool false])) ok R :=
  ⟨none, [], 0, none, [], 0, 0, false, rfl, .inr ⟨h, rfl, rfl, rfl, rfl⟩, World.ownsRow_nil _ _ _ _, World.ownsRow_nil _ _ _ _, (fun k hk => by cases hk), put3_below hB hr a b c⟩
theorem MadeT.yes {w w4 w5 : World} {r b c b' c' : Nat} {ok : Prop} {R : Option (List Ce × List Ce × Int)} {L O : List Ce} {M : Int} (hB : Below w.heap.size w w4) (hr : w.heap.size ≤ r) (hr4 : r < w4.heap.size)
    (o1 : w5.ownsRow w4.heap.size 102 2 (.slice (some ⟨b, 0, none⟩) L.length c) L.length (ces L)) (o2 : w5.ownsRow w4.heap.size 102 2 (.slice (some ⟨b', 0, none⟩) O.length c') O.length (ces O)) (hne : b ≠ b') (hb : Below w4.heap.size w4 w5) (hok : ok) (hR : R = some (L, O, M)) (x y z : Value) :
    MadeT w (put3 w5 r x y z) (.returned (.tuple #[.agg #[.slice (some ⟨b, 0, none⟩) L.length c, .slice (some ⟨b', 0, none⟩) O.length c', .int .i64 M], .bool true])) ok R := by
  refine ⟨_, L, c, _, O, c', M, true, rfl, .inl ⟨hok, hR, rfl⟩, own_base (own_put3 o1 (fun k hk => ?_) x y z) hB.size, own_base (own_put3 o2 (fun k hk => ?_) x y z) hB.size, (fun k hk hk' => ?_), put3_below (hB.trans (hb.mono hB.size)) hr x y z⟩
  · have := (o1.lt k hk).1
    omega
  · have := (o2.lt k hk).1
    omega
  · have e1 : b = k := Option.some.inj hk
    have e2 : b' = k := Option.some.inj hk'
    exact hne (by rw [e1, e2])
/-- The blocks of a table that came in, and of a result. -/
theorem boxes (w : World) (u v : Array Value) (t : TypeId) : Blk ((w.alloc (.cells u t)).alloc (.cells v t)) w.heap.size t u.toList ∧ Blk ((w.alloc (.cells u t)).alloc (.cells v t)) (w.heap.size + 1) t v.toList ∧ Below w.heap.size w ((w.alloc (.cells u t)).alloc (.cells v t)) := by
  refine ⟨Blk.more (Blk.new w _ _) _, ?_, below2 w _ _⟩
  have := Blk.new (w.alloc (.cells u t)) t v
  rw [World.size_alloc] at this
  exact this

def newR (n : Int) : Option (List Ce × List Ce × Int) := some (List.replicate n.toNat nC, [], 0)
def szOk (n : Int) : Prop := n = 4 ∨ n = 8 ∨ n = 16 ∨ n = 32 ∨ n = 64

set_option maxRecDepth 100000 in
set_option maxHeartbeats 2000000 in
theorem implNew_any (n : Int) (w : World) : Calls Tryz.prog 14 #[.int .i64 n] w fun e w' => MadeT w w' e (szOk n) (newR n) := by
  have CZ := hide1 (fun w => sizeFits_any n w)
  have F0 : Hid (Blk (w.alloc (.cells #[.slice none 0 0, .slice none 0 0, .int .i64 0] 30)) w.heap.size 30 [.slice none 0 0, .slice none 0 0, .int .i64 0] ∧ Below w.heap.size w (w.alloc (.cells #[.slice none 0 0, .slice none 0 0, .int .i64 0] 30))) := ⟨Blk.new w _ _, (Below.refl _ _).alloc (Nat.le_refl _) _⟩
  go_enter Tryz.func14, Tryz.ntmps14
  go_wp2_with fail
  generalize (w.alloc (.cells #[.slice none 0 0, .slice none 0 0, .int .i64 0] 30)) = w0 at F0 ⊢
  obtain ⟨R0, B0⟩ := F0.out
  have R0 := hide1 R0
  have B0 := hide1 B0
  clear F0
  refine (CZ.out w0).mono ?_
  rintro e w1 ⟨x, rfl, hx, rfl⟩
  have HX := hide1 hx
  clear hx CZ
  rcases x with _ | _
  · have HN := hide1 (MadeT.no (R := newR n) (ok := szOk n) B0.out (Nat.le_refl _) (fun h => by have := HX.out.2 h.1; cases this) (.slice none 0 0) (.slice none 0 0) (.int .i64 0))
    have HH := hide1 (put3_blk R0.out (.slice none 0 0) (.slice none 0 0) (.int .i64 0))
    have y0 : w0.cell? ⟨w.heap.size, 0, none⟩ = some (.slice none 0 0) := R0.out.cell 0
    have y1 : w0.cell? ⟨w.heap.size, 1, none⟩ = some (.slice none 0 0) := R0.out.cell 1
    have y2 : w0.cell? ⟨w.heap.size, 2, none⟩ = some (.int .i64 0) := R0.out.cell 2
    have yf : ∀ j, w0.frozen? ⟨w.heap.size, j, none⟩ = false := fun j => R0.out.froz j
    unfold put3 at HN HH
    clear HX
    go_wp2
    refine bodyPost_ret (res2 Tryz.results14 _ _ w.heap.size 30 #[.slice none 0 0, .slice none 0 0, .int .i64 0] (0, 0) _ rfl HH.out Tryz.underlying30 rfl (by kernel_rfl)) rfl ?_
    exact HN.out
  · have HSZ := hide1 (show szOk n from HX.out.1 rfl)
    obtain ⟨m, rfl⟩ := Int.eq_ofNat_of_zero_le (show 0 ≤ n by have := HX.out.1 rfl; omega)
    have hm : m ≤ 64 := by have := HX.out.1 rfl; omega
    have CN := hide1 (newBoard_any m 0 w0 (by omega))
    clear HX
    go_wp2_with fail
    refine CN.out.mono ?_
    rintro e w2 ⟨b, g, rfl, hbr, hb2⟩
    have R2 := hide1 (R0.out.below hb2 R0.out.lt)
    have B2 := hide1 (B0.out.trans (hb2.mono B0.out.size))
    have CT := hide1 (table_any (some ⟨g, 0, none⟩) (oldP g (List.replicate m nC).length 0) (List.replicate m nC) [] _ _ 0 hbr.hd (by rw [List.length_replicate]; omega) (Nat.zero_le _) hbr.cells hbr.olds)
    clear hbr hb2 CN
    go_wp2_with fail
    refine CT.out.mono ?_
    rintro e w3 ⟨v, rfl, b3, c3, b4, c4, rfl, ho3, ho4, hne, hb3⟩
    have R3 := hide1 (R2.out.below hb3 R2.out.lt)
    have hr2 := R2.out.lt
    have HN := hide1 (MadeT.yes (r := w.heap.size) (ok := szOk (m : Int)) (R := newR (m : Int)) B2.out (Nat.le_refl _) hr2 ho3 ho4 hne hb3 HSZ.out rfl (.slice (some ⟨b3, 0, none⟩) (List.replicate m nC).length c3) (.slice (some ⟨b4, 0, none⟩) (List.length ([] : List Ce)) c4) (.int .i64 0))
    have HH := hide1 (put3_blk R3.out (.slice (some ⟨b3, 0, none⟩) (List.replicate m nC).length c3) (.slice (some ⟨b4, 0, none⟩) (List.length ([] : List Ce)) c4) (.int .i64 0))
    have y0 : w3.cell? ⟨w.heap.size, 0, none⟩ = some (.slice none 0 0) := R3.out.cell 0
    have y1 : w3.cell? ⟨w.heap.size, 1, none⟩ = some (.slice none 0 0) := R3.out.cell 1
    have y2 : w3.cell? ⟨w.heap.size, 2, none⟩ = some (.int .i64 0) := R3.out.cell 2
    have yf : ∀ j, w3.frozen? ⟨w.heap.size, j, none⟩ = false := fun j => R3.out.froz j
    unfold put3 at HN HH
    unfold tbV
    rw [List.length_replicate, List.length_nil] at HN HH ⊢
    clear ho3 ho4 hb3 CT
    go_wp2
    refine bodyPost_ret (res2 Tryz.results14 _ _ w.heap.size 30 #[.slice (some ⟨b3, 0, none⟩) m c3, .slice (some ⟨b4, 0, none⟩) 0 c4, .int .i64 0] (0, 0) _ rfl HH.out Tryz.underlying30 rfl (by kernel_rfl)) rfl ?_
    exact HN.out
end Go.Proofs.YtenmpciimocggaaGreat
namespace Go.Proofs.YtenmpciimocggaaGreat
open Go.RowKit

theorem OkT.fit {l o : List Ce} {mv : Int} (h : OkT l o mv) : FitC l ∧ FitC o := ⟨(ok_iff.1 h.cells.1).1, (ok_iff.1 h.olds.1).1⟩
theorem OkT.len {l o : List Ce} {mv : Int} (h : OkT l o mv) : l.length ≤ 64 ∧ o.length ≤ 64 ∧ 0 < l.length := by
  have := h.size
  have := h.half
  omega

set_option maxRecDepth 100000 in
set_option maxHeartbeats 1000000 in
theorem implTOk_any (ao a' : Option Addr) (l o : List Ce) (ca ca' : Nat) (mv : Int) (w : World) (hl : l.length ≤ 1048576) (hl' : o.length ≤ 1048576) (hA : RdJ w ao l) (hA' : RdJ w a' o) :
    Calls Tryz.prog 38 #[tbV ao l.length ca a' o.length ca' mv] w fun e w' => ∃ x : Bool, e = .returned (.bool x) ∧ (x = true ↔ OkT l o mv) ∧ Below w.heap.size w w' := by
  have CB := hide1 (fun o1 => boardOf_any ao a' l o ca ca' mv (w.alloc o1) hl hl' (hA.later ((Below.refl _ _).alloc (Nat.le_refl _) _)) (hA'.later ((Below.refl _ _).alloc (Nat.le_refl _) _)))
  have BB := hide1 (fun o1 w1 (h : Below (w.alloc o1).heap.size (w.alloc o1) w1) => ((Below.refl w.heap.size w).alloc (Nat.le_refl _) o1).trans (h.mono (by rw [World.size_alloc]; omega)))
  clear hA hA'
  unfold tbV at CB ⊢
  go_enter Tryz.func38, Tryz.ntmps38
  go_wp2_with fail
  refine (CB.out _).mono ?_
  rintro e w1 ⟨⟨b, g, m, rfl, hm, hok, hbr⟩ | ⟨v, rfl, hn⟩, hb1⟩
  · have HY := hide1 hok
    have B1 := hide1 (BB.out _ _ hb1)
    clear hok hbr hb1 hm
    go_wp2
    go_ret
    exact ⟨true, rfl, ⟨(fun _ => HY.out), fun _ => rfl⟩, B1.out⟩
  · have HN := hide1 hn
    have B1 := hide1 (BB.out _ _ hb1)
    clear hn hb1
    go_wp2
    go_ret
    exact ⟨false, rfl, ⟨(fun h => by cases h), fun h => absurd h HN.out⟩, B1.out⟩

/-- What is left when a key is taken. -/
def takeR (l o : List Ce) (mv : Int) (key : ByteArray) : Option (List Ce × List Ce × Int) :=
  match seekC l key with
  | some k => some (l.set k gC, o, mv)
  | none => match seekC o key with
    | some k => some (l, o.set k gC, mv)
    | none => none

end Go.Proofs.YtenmpciimocggaaGreat
