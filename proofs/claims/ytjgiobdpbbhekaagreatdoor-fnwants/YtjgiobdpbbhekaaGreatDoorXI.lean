/- Cells of a board written, by the program: taking and laying a key. -/
import Derived.Test.YtjgiobdpbbhekaaGreatDoorXH
namespace Go.Proofs.YtjgiobdpbbhekaaGreatDoor
open Go.RowKit

/-- A cell that is gone. -/
def gC : Ce := ⟨⟨#[]⟩, -2⟩
theorem seg_set {A L C : List Ce} {k : Nat} (hk : k < L.length) (s : Ce) : (A ++ L ++ C).set (A.length + k) s = A ++ L.set k s ++ C := by
  rw [List.append_assoc, List.set_append_right _ _ (by omega), Nat.add_sub_cancel_left, List.set_append_left _ _ hk, List.append_assoc]
theorem seg_at {A L C : List Ce} {k : Nat} (hk : k < L.length) : (A ++ L ++ C)[A.length + k]'(by simp only [List.length_append]; omega) = L[k] := by
  rw [List.getElem_append_left (by simp only [List.length_append]; omega), List.getElem_append_right (by omega)]
  simp
theorem Blk.segset {w : World} {g k of : Nat} {A L C : List Ce} (h : Blk w g 132 (ces (A ++ L ++ C))) (ho : of = A.length * 2) (hk : k < L.length) (s : Ce) :
    Blk ((w.setCell ⟨g, of + k * 2, none⟩ (.string s.key)).setCell ⟨g, of + k * 2 + 1, none⟩ (.int .i64 s.h)) g 132 (ces (A ++ L.set k s ++ C)) := by
  subst ho
  have st := (h.set (A.length * 2 + k * 2) (.string s.key)).set (A.length * 2 + k * 2 + 1) (.int .i64 s.h)
  rw [show A.length * 2 + k * 2 = (A.length + k) * 2 by omega, ces_setK (by simp only [List.length_append]; omega), seg_set hk] at st
  rw [show A.length * 2 + k * 2 = (A.length + k) * 2 by omega]
  exact st
theorem Blk.segat {w : World} {g k of : Nat} {A L C : List Ce} (h : Blk w g 132 (ces (A ++ L ++ C))) (ho : of = A.length * 2) (hk : k < L.length) : cellO w g of k L[k] := by
  subst ho
  unfold cellO
  rw [show A.length * 2 + k * 2 = (A.length + k) * 2 by omega, h.cell, h.cell, ces_at0 (by simp only [List.length_append]; omega), ces_at1 (by simp only [List.length_append]; omega), seg_at hk]
  exact ⟨rfl, rfl⟩
theorem Brd.bel {B b g mv : Nat} {w w' : World} {l o : List Ce} (h : Brd B w b g l o mv) (hb : w.grownBy w' (some g)) {l' o' : List Ce} (hl : l'.length = l.length) (ho : o'.length = o.length) (hK : Blk w' g 132 (ces (l' ++ o'))) : Brd B w' b g l' o' mv := by
  refine ⟨h.lb, h.lg, h.ne, ?_, hK⟩
  rw [hl, ho]
  exact (hb.block b h.hd.lt (fun e => h.ne (Option.some.inj e))).trans h.hd
theorem Brd.setC {B b g mv k : Nat} {w : World} {l o : List Ce} (h : Brd B w b g l o mv) (hk : k < l.length) (s : Ce) : Brd B ((w.setCell ⟨g, k * 2, none⟩ (.string s.key)).setCell ⟨g, k * 2 + 1, none⟩ (.int .i64 s.h)) b g (l.set k s) o mv := by
  refine h.bel (gset (gset (World.grownBy.refl _ _) _ _) _ _) (List.length_set ..) rfl ?_
  have := Blk.segset (A := []) (L := l) (C := o) (of := 0) h.tl rfl hk s
  rw [Nat.zero_add] at this
  exact this
end Go.Proofs.YtjgiobdpbbhekaaGreatDoor
namespace Go.Proofs.YtjgiobdpbbhekaaGreatDoor
open Go.RowKit

end Go.Proofs.YtjgiobdpbbhekaaGreatDoor
namespace Go.Proofs.YtjgiobdpbbhekaaGreatDoor
open Go.RowKit

theorem res2 {P : Program} {fn : Func} {p u : Tmp} {ty : TypeId} (h : fn.results = #[.cell p ty, .tmp u]) (tmps : Array Value) (w : World) (g : Nat) (t : TypeId) (cs : Array Value) (fr : Nat × Nat) (d : TypeDesc)
    (hp : tmps.getD p undef = .pointer (some ⟨g, 0, none⟩)) (hg : w.heap[g]? = some (.cells cs t fr))
    (hu : P.underlying ty = some d) (hd : (match d with | .struct _ | .array _ _ => true | _ => false) = true) (hi : (P.info? ty).map (·.size) = some cs.size) :
    (results fn tmps).run P w = .ok (.tuple #[.agg cs, tmps.getD u undef]) w := by
  have hp' : tmps[p]?.getD undef = .pointer (some ⟨g, 0, none⟩) := by simpa using hp
  simp [results, h, hp', asAddr, run_loadVar_row w g t ty cs fr d hg hu hd hi]

/-- What a maker answers: where all is as it asks, what R says; else nothing. -/
def Ans (ok : Prop) (R : Option (List Ce × List Ce × Int)) (L O : List Ce) (M : Int) (t : Bool) : Prop := (ok ∧ R = some (L, O, M) ∧ t = true) ∨ (¬ (ok ∧ ∃ x, R = some x) ∧ L = [] ∧ O = [] ∧ M = 0 ∧ t = false)
theorem Ans.det {ok : Prop} {R : Option (List Ce × List Ce × Int)} {L O L' O' : List Ce} {M M' : Int} {t t' : Bool} (x : Ans ok R L O M t) (y : Ans ok R L' O' M' t') : L = L' ∧ O = O' ∧ M = M' ∧ t = t' := by
  rcases x with ⟨a, b, rfl⟩ | ⟨n, rfl, rfl, rfl, rfl⟩ <;> rcases y with ⟨a', b', rfl⟩ | ⟨n', rfl, rfl, rfl, rfl⟩
  · rw [b] at b'
    injection b' with b'
    injection b' with e1 e2
    injection e2 with e2 e3
    exact ⟨e1, e2, e3, rfl⟩
  · exact absurd ⟨a, _, b⟩ n'
  · exact absurd ⟨a', _, b'⟩ n
  · exact ⟨rfl, rfl, rfl, rfl⟩
theorem Ans.small {ok : Prop} {R : Option (List Ce × List Ce × Int)} {L O : List Ce} {M : Int} {t : Bool} (x : Ans ok R L O M t) (h : ∀ l o m, ok → R = some (l, o, m) → l.length ≤ 64 ∧ o.length ≤ 64) : L.length ≤ 64 ∧ O.length ≤ 64 := by
  rcases x with ⟨a, b, rfl⟩ | ⟨n, rfl, rfl, rfl, rfl⟩
  · exact h _ _ _ a b
  · exact ⟨Nat.zero_le _, Nat.zero_le _⟩
/-- A maker's answer in memory. -/
def MadeT (w w' : World) (e : Ending) (ok : Prop) (R : Option (List Ce × List Ce × Int)) : Prop := ∃ (ao : Option Addr) (L : List Ce) (ca : Nat) (a' : Option Addr) (O : List Ce) (ca' : Nat) (M : Int) (t : Bool), e = .returned (.tuple #[tbV ao L.length ca a' O.length ca' M, .bool t]) ∧ Ans ok R L O M t ∧ w'.ownsRow w.heap.size 132 2 (.slice ao L.length ca) L.length (ces L) ∧ w'.ownsRow w.heap.size 132 2 (.slice a' O.length ca') O.length (ces O) ∧ apart2 (.slice ao L.length ca) (.slice a' O.length ca') ∧ Below w.heap.size w w'
/-- The three cells of a table stored anew. -/
def put3 (w : World) (r : Nat) (a b c : Value) : World := ((w.setCell ⟨r, 0, none⟩ a).setCell ⟨r, 1, none⟩ b).setCell ⟨r, 2, none⟩ c
theorem put3_blk {w : World} {r : Nat} {t : TypeId} {x y z : Value} (h : Blk w r t [x, y, z]) (a b c : Value) : Blk (put3 w r a b c) r t [a, b, c] := Blk.set (Blk.set (Blk.set h 0 a) 1 b) 2 c
theorem put3_below {w w' : World} {B r : Nat} (h : Below B w w') (hr : B ≤ r) (a b c : Value) : Below B w (put3 w' r a b c) := ((h.setCell (p := ⟨r, 0, none⟩) hr a).setCell (p := ⟨r, 1, none⟩) hr b).setCell (p := ⟨r, 2, none⟩) hr c
theorem own_put3 {w : World} {base n size r : Nat} {e : TypeId} {v : Value} {xs : List Value} (h : w.ownsRow base e size v n xs) (hne : ∀ k, v.ownBlock = some k → k ≠ r) (a b c : Value) : (put3 w r a b c).ownsRow base e size v n xs :=
  own_far (own_far (own_far h _ _ hne) _ _ hne) _ _ hne
theorem MadeT.no {w w1 : World} {r : Nat} {ok : Prop} {R : Option (List Ce × List Ce × Int)} (hB : Below w.heap.size w w1) (hr : w.heap.size ≤ r) (h : ¬ (ok ∧ ∃ x, R = some x)) (a b c : Value) :
    MadeT w (put3 w1 r a b c) (.returned (.tuple #[.agg #[.slice none 0 0, .slice none 0 0, .int .i64 0], .bool false])) ok R :=
  ⟨none, [], 0, none, [], 0, 0, false, rfl, .inr ⟨h, rfl, rfl, rfl, rfl⟩, World.ownsRow_nil _ _ _ _, World.ownsRow_nil _ _ _ _, (fun k hk => by cases hk), put3_below hB hr a b c⟩
theorem MadeT.yes {w w4 w5 : World} {r b c b' c' : Nat} {ok : Prop} {R : Option (List Ce × List Ce × Int)} {L O : List Ce} {M : Int} (hB : Below w.heap.size w w4) (hr : w.heap.size ≤ r) (hr4 : r < w4.heap.size)
    (o1 : w5.ownsRow w4.heap.size 132 2 (.slice (some ⟨b, 0, none⟩) L.length c) L.length (ces L)) (o2 : w5.ownsRow w4.heap.size 132 2 (.slice (some ⟨b', 0, none⟩) O.length c') O.length (ces O)) (hne : b ≠ b') (hb : Below w4.heap.size w4 w5) (hok : ok) (hR : R = some (L, O, M)) (x y z : Value) :
    MadeT w (put3 w5 r x y z) (.returned (.tuple #[.agg #[.slice (some ⟨b, 0, none⟩) L.length c, .slice (some ⟨b', 0, none⟩) O.length c', .int .i64 M], .bool true])) ok R := by
  refine ⟨_, L, c, _, O, c', M, true, rfl, .inl ⟨hok, hR, rfl⟩, own_base (own_put3 o1 (fun k hk => ?_) x y z) hB.size, own_base (own_put3 o2 (fun k hk => ?_) x y z) hB.size, (fun k hk hk' => ?_), put3_below (hB.trans (hb.mono hB.size)) hr x y z⟩
  · have := (o1.lt k hk).1
    omega
  · have := (o2.lt k hk).1
    omega
  · have e1 : b = k := Option.some.inj hk
    have e2 : b' = k := Option.some.inj hk'
    exact hne (by rw [e1, e2])
/-- The blocks of a table that came in, and of a result. -/
theorem boxes (w : World) (u v : Array Value) (t : TypeId) : Blk ((w.alloc (.cells u t)).alloc (.cells v t)) w.heap.size t u.toList ∧ Blk ((w.alloc (.cells u t)).alloc (.cells v t)) (w.heap.size + 1) t v.toList ∧ Below w.heap.size w ((w.alloc (.cells u t)).alloc (.cells v t)) := by
  refine ⟨Blk.more (Blk.new w _ _) _, ?_, below2 w _ _⟩
  have := Blk.new (w.alloc (.cells u t)) t v
  rw [World.size_alloc] at this
  exact this

def newR (n : Int) : Option (List Ce × List Ce × Int) := some (List.replicate n.toNat nC, [], 0)
def szOk (n : Int) : Prop := n = 4 ∨ n = 8 ∨ n = 16 ∨ n = 32 ∨ n = 64

end Go.Proofs.YtjgiobdpbbhekaaGreatDoor
namespace Go.Proofs.YtjgiobdpbbhekaaGreatDoor
open Go.RowKit

theorem OkT.fit {l o : List Ce} {mv : Int} (h : OkT l o mv) : FitC l ∧ FitC o := ⟨(ok_iff.1 h.cells.1).1, (ok_iff.1 h.olds.1).1⟩
theorem OkT.len {l o : List Ce} {mv : Int} (h : OkT l o mv) : l.length ≤ 64 ∧ o.length ≤ 64 ∧ 0 < l.length := by
  have := h.size
  have := h.half
  omega

set_option maxRecDepth 100000 in
set_option maxHeartbeats 1000000 in
theorem implTOk_any (ao a' : Option Addr) (l o : List Ce) (ca ca' : Nat) (mv : Int) (w : World) (hl : l.length ≤ 1048576) (hl' : o.length ≤ 1048576) (hA : RdJ w ao l) (hA' : RdJ w a' o) :
    Calls Tryz.prog 104 #[tbV ao l.length ca a' o.length ca' mv] w fun e w' => ∃ x : Bool, e = .returned (.bool x) ∧ (x = true ↔ OkT l o mv) ∧ Below w.heap.size w w' := by
  have CB := hide1 (fun o1 => boardOf_any ao a' l o ca ca' mv (w.alloc o1) hl hl' (hA.later ((Below.refl _ _).alloc (Nat.le_refl _) _)) (hA'.later ((Below.refl _ _).alloc (Nat.le_refl _) _)))
  have BB := hide1 (fun o1 w1 (h : Below (w.alloc o1).heap.size (w.alloc o1) w1) => ((Below.refl w.heap.size w).alloc (Nat.le_refl _) o1).trans (h.mono (by rw [World.size_alloc]; omega)))
  clear hA hA'
  unfold tbV at CB ⊢
  go_enter Tryz.func104, Tryz.ntmps104
  go_wp2_with fail
  refine (CB.out _).mono ?_
  rintro e w1 ⟨⟨b, g, m, rfl, hm, hok, hbr⟩ | ⟨v, rfl, hn⟩, hb1⟩
  · have HY := hide1 hok
    have B1 := hide1 (BB.out _ _ hb1)
    clear hok hbr hb1 hm
    go_wp2
    go_ret
    exact ⟨true, rfl, ⟨(fun _ => HY.out), fun _ => rfl⟩, B1.out⟩
  · have HN := hide1 hn
    have B1 := hide1 (BB.out _ _ hb1)
    clear hn hb1
    go_wp2
    go_ret
    exact ⟨false, rfl, ⟨(fun h => by cases h), fun h => absurd h HN.out⟩, B1.out⟩

set_option maxRecDepth 100000 in
set_option maxHeartbeats 2000000 in
theorem implSeek_any (ao a' : Option Addr) (l o : List Ce) (ca ca' : Nat) (mv : Int) (key : ByteArray) (w : World) (hl : l.length ≤ 1048576) (hl' : o.length ≤ 1048576) (hk : key.size ≤ 1048576) (hA : RdJ w ao l) (hA' : RdJ w a' o) :
    Calls Tryz.prog 79 #[tbV ao l.length ca a' o.length ca' mv, .string key] w fun e w' => ∃ (h : Int) (t : Bool), e = .returned (.tuple #[.int .i64 h, .bool t]) ∧ SeekA l o mv key h t ∧ Below w.heap.size w w' := by
  have CB := hide1 (fun o1 => boardOf_any ao a' l o ca ca' mv (w.alloc o1) hl hl' (hA.later ((Below.refl _ _).alloc (Nat.le_refl _) _)) (hA'.later ((Below.refl _ _).alloc (Nat.le_refl _) _)))
  have BB := hide1 (fun o1 w1 (h : Below (w.alloc o1).heap.size (w.alloc o1) w1) => ((Below.refl w.heap.size w).alloc (Nat.le_refl _) o1).trans (h.mono (by rw [World.size_alloc]; omega)))
  clear hA hA'
  unfold tbV at CB ⊢
  go_enter Tryz.func79, Tryz.ntmps79
  go_wp2_with fail
  refine (CB.out _).mono ?_
  rintro e w1 ⟨⟨b, g, m, rfl, hm, hok, hbr⟩ | ⟨v, rfl, hn⟩, hb1⟩
  · have HOK := hide1 hok
    have HF := hide1 hok.fit
    have B1 := hide1 (BB.out _ _ hb1)
    have D1 := hide1 hbr
    have x0 : w1.cell? ⟨b, 0, none⟩ = some (.slice (some ⟨g, 0, none⟩) l.length l.length) := hbr.hd.cell 0
    have CP := hide1 (placeOf_any (some ⟨g, 0, none⟩) l l.length key w1 hl hk hbr.cells)
    clear hok hbr hb1 hm
    go_wp2_with fail
    refine CP.out.mono ?_
    rintro e w2 ⟨rfl, hb2⟩
    have D2 := hide1 (D1.out.later hb2)
    have B2 := hide1 (B1.out.trans (hb2.mono B1.out.size))
    clear hb2 CP D1 x0
    rcases hs : (srchC l key).1 with _ | k
    · have x1 : w2.cell? ⟨b, 1, none⟩ = some (.slice (oldP g l.length o.length) o.length o.length) := D2.out.hd.cell 1
      have CP := hide1 (placeOf_any (oldP g l.length o.length) o o.length key w2 hl' hk D2.out.olds)
      have HS := hide1 hs
      generalize oldP g l.length o.length = op at *
      unfold optI
      clear hs
      go_wp2_with fail
      refine CP.out.mono ?_
      rintro e w3 ⟨rfl, hb3⟩
      have B3 := hide1 (B2.out.trans (hb3.mono B2.out.size))
      have D3 := hide1 (D2.out.later hb3)
      clear hb3 CP x1
      rcases hs : (srchC o key).1 with _ | k
      · have HN := hide1 (show SeekA l o mv key 0 false from .inr ⟨rfl, rfl, fun h => by
          obtain ⟨x, hx⟩ := h.2.2
          rw [seekT, ← srchC_seek HF.out.1 h.2.1, HS.out] at hx
          simp only [] at hx
          rw [← srchC_seek HF.out.2 h.2.1, hs] at hx
          cases hx⟩)
        unfold optI
        clear hs
        go_wp2
        go_ret2
        exact ⟨0, false, rfl, HN.out, B3.out⟩
      · have hkl := srchC_lt hs
        have k1 : (k : Int) < (o.length : Int) := by omega
        have hne : key.toList ≠ [] := fun e => by rw [srchC_none e] at hs; cases hs
        have HN := hide1 (show SeekA l o mv key o[k].h true from .inl ⟨rfl, HOK.out, hne, by
          rw [seekT, ← srchC_seek HF.out.1 hne, HS.out]
          simp only []
          rw [← srchC_seek HF.out.2 hne, hs]
          simp only []
          rw [List.getElem?_eq_getElem hkl]
          rfl⟩)
        obtain ⟨bb, oo, hop, hbl, hc⟩ := D3.out.olds k hkl
        have x1 : w3.cell? ⟨b, 1, none⟩ = some (.slice (oldP g l.length o.length) o.length o.length) := D3.out.hd.cell 1
        have z1 := hc.2
        rw [hop] at x1
        have q : ((k : Int) != (-1 : Int)) = true := by simp
        generalize o[k].h = hv at *
        unfold optI
        clear hs hne hc hop
        go_wp2
        go_ret2
        exact ⟨hv, true, rfl, HN.out, B3.out⟩
    · have hkl := srchC_lt hs
      have k1 : (k : Int) < (l.length : Int) := by omega
      have hne : key.toList ≠ [] := fun e => by rw [srchC_none e] at hs; cases hs
      have HN := hide1 (show SeekA l o mv key l[k].h true from .inl ⟨rfl, HOK.out, hne, by
        rw [seekT, ← srchC_seek HF.out.1 hne, hs]
        simp only []
        rw [List.getElem?_eq_getElem hkl]
        rfl⟩)
      have x0 : w2.cell? ⟨b, 0, none⟩ = some (.slice (some ⟨g, 0, none⟩) l.length l.length) := D2.out.hd.cell 0
      have z1 : w2.cell? ⟨g, k * 2 + 1, none⟩ = some (.int .i64 l[k].h) := by have := (Blk.segat (A := []) (L := l) (C := o) (of := 0) D2.out.tl rfl hkl).2; rw [Nat.zero_add] at this; exact this
      have q : ((k : Int) != (-1 : Int)) = true := by simp
      generalize l[k].h = hv at *
      unfold optI
      clear hs hne
      go_wp2
      go_ret2
      exact ⟨hv, true, rfl, HN.out, B2.out⟩
  · have HN := hide1 (show SeekA l o mv key 0 false from .inr ⟨rfl, rfl, fun h => hn h.1⟩)
    have B1 := hide1 (BB.out _ _ hb1)
    clear hn hb1
    go_wp2
    go_ret2
    exact ⟨0, false, rfl, HN.out, B1.out⟩

/-- What is left when a key is taken. -/
def takeR (l o : List Ce) (mv : Int) (key : ByteArray) : Option (List Ce × List Ce × Int) :=
  match seekC l key with
  | some k => some (l.set k gC, o, mv)
  | none => match seekC o key with
    | some k => some (l, o.set k gC, mv)
    | none => none

end Go.Proofs.YtjgiobdpbbhekaaGreatDoor
