/- What the model answers: a new table, a key taken. -/
import Derived.Test.YtenmpciimocggaaGreatXJ
import Derived.Deep.SlicePairs
import Derived.Lib.SmallJoins
import Derived.ProofKit
import Derived.OpenShut
namespace Go.Proofs.YtenmpciimocggaaGreat
open Go.RowKit

theorem MadeT.fin {w W : World} {r n c m c' : Nat} {ao a' : Option Addr} {ok : Prop} {R : Option (List Ce × List Ce × Int)} {L O : List Ce} {M : Int} (hB : Below w.heap.size w W) (hr : w.heap.size ≤ r)
    (o1 : W.ownsRow w.heap.size 102 2 (.slice ao n c) n (ces L)) (hn : L.length = n) (o2 : W.ownsRow w.heap.size 102 2 (.slice a' m c') m (ces O)) (hm : O.length = m) (hap : apart2 (.slice ao n c) (.slice a' m c'))
    (r1 : ∀ k, (Value.slice ao n c).ownBlock = some k → k ≠ r) (r2 : ∀ k, (Value.slice a' m c').ownBlock = some k → k ≠ r) (hok : ok) (hR : R = some (L, O, M)) (x y z : Value) :
    MadeT w (put3 W r x y z) (.returned (.tuple #[.agg #[.slice ao n c, .slice a' m c', .int .i64 M], .bool true])) ok R := by
  subst hn hm
  exact ⟨ao, L, c, a', O, c', M, true, rfl, .inl ⟨hok, hR, rfl⟩, own_put3 o1 r1 x y z, own_put3 o2 r2 x y z, hap, put3_below hB hr x y z⟩
theorem apart_ne {b c b' c' n m : Nat} (h : b ≠ b') : apart2 (.slice (some ⟨b, 0, none⟩) n c) (.slice (some ⟨b', 0, none⟩) m c') := fun k hk hk' => h ((show b = k from Option.some.inj hk).trans (show b' = k from Option.some.inj hk').symm)

set_option maxRecDepth 100000 in
set_option maxHeartbeats 2000000 in
theorem specNewT_any (n : Int) (w : World) : Calls Tryz.prog 18 #[.int .i64 n] w fun e w' => MadeT w w' e (szOk n) (newR n) := by
  have CZ := hide1 (fun w => specSize_any n w)
  have F0 : Hid (Blk (w.alloc (.cells #[.slice none 0 0, .slice none 0 0, .int .i64 0] 30)) w.heap.size 30 [.slice none 0 0, .slice none 0 0, .int .i64 0] ∧ Below w.heap.size w (w.alloc (.cells #[.slice none 0 0, .slice none 0 0, .int .i64 0] 30))) := ⟨Blk.new w _ _, (Below.refl _ _).alloc (Nat.le_refl _) _⟩
  go_enter Tryz.func18, Tryz.ntmps18
  go_wp2_with fail
  generalize (w.alloc (.cells #[.slice none 0 0, .slice none 0 0, .int .i64 0] 30)) = w0 at F0 ⊢
  obtain ⟨R0, B0⟩ := F0.out
  have R0 := hide1 R0
  have B0 := hide1 B0
  clear F0
  refine (CZ.out w0).mono ?_
  rintro e w1 ⟨x, rfl, hx, rfl⟩
  have HX := hide1 hx
  clear hx CZ
  rcases x with _ | _
  · have HN := hide1 (MadeT.no (R := newR n) (ok := szOk n) B0.out (Nat.le_refl _) (fun h => by have := HX.out.2 h.1; cases this) (.slice none 0 0) (.slice none 0 0) (.int .i64 0))
    have HH := hide1 (put3_blk R0.out (.slice none 0 0) (.slice none 0 0) (.int .i64 0))
    have y0 : w0.cell? ⟨w.heap.size, 0, none⟩ = some (.slice none 0 0) := R0.out.cell 0
    have y1 : w0.cell? ⟨w.heap.size, 1, none⟩ = some (.slice none 0 0) := R0.out.cell 1
    have y2 : w0.cell? ⟨w.heap.size, 2, none⟩ = some (.int .i64 0) := R0.out.cell 2
    have yf : ∀ j, w0.frozen? ⟨w.heap.size, j, none⟩ = false := fun j => R0.out.froz j
    unfold put3 at HN HH
    clear HX
    go_wp2
    refine bodyPost_ret (res2 Tryz.results18 _ _ w.heap.size 30 #[.slice none 0 0, .slice none 0 0, .int .i64 0] (0, 0) _ rfl HH.out Tryz.underlying30 rfl (by kernel_rfl)) rfl ?_
    exact HN.out
  · have HSZ := hide1 (show szOk n from HX.out.1 rfl)
    obtain ⟨m, rfl⟩ := Int.eq_ofNat_of_zero_le (show 0 ≤ n by have := HX.out.1 rfl; omega)
    have hm : m ≤ 64 := by have := HX.out.1 rfl; omega
    have CN := hide1 (specCells_any m w0 (by omega))
    clear HX
    go_wp2_with fail
    refine CN.out.mono ?_
    rintro e w2 ⟨b, c, rfl, ho2, hb2⟩
    have R2 := hide1 (R0.out.below hb2 R0.out.lt)
    have hrl := R0.out.lt
    have B2 := hide1 (B0.out.trans (hb2.mono B0.out.size))
    have HN := hide1 (MadeT.fin (r := w.heap.size) (ok := szOk (m : Int)) (R := newR (m : Int)) B2.out (Nat.le_refl _) (own_base ho2 B0.out.size) (List.length_replicate ..) (World.ownsRow_nil w2 w.heap.size 102 2) (O := []) rfl (fun k _ hk => by cases hk) (fun k hk => by have := (ho2.lt k hk).1; omega) (fun k hk => by cases hk) HSZ.out rfl (.slice b m c) (.slice none 0 0) (.int .i64 0))
    have HH := hide1 (put3_blk R2.out (.slice b m c) (.slice none 0 0) (.int .i64 0))
    have y0 : w2.cell? ⟨w.heap.size, 0, none⟩ = some (.slice none 0 0) := R2.out.cell 0
    have y1 : w2.cell? ⟨w.heap.size, 1, none⟩ = some (.slice none 0 0) := R2.out.cell 1
    have y2 : w2.cell? ⟨w.heap.size, 2, none⟩ = some (.int .i64 0) := R2.out.cell 2
    have yf : ∀ j, w2.frozen? ⟨w.heap.size, j, none⟩ = false := fun j => R2.out.froz j
    unfold put3 at HN HH
    clear ho2 hb2 CN
    go_wp2
    refine bodyPost_ret (res2 Tryz.results18 _ _ w.heap.size 30 #[.slice b m c, .slice none 0 0, .int .i64 0] (0, 0) _ rfl HH.out Tryz.underlying30 rfl (by kernel_rfl)) rfl ?_
    exact HN.out

end Go.Proofs.YtenmpciimocggaaGreat
namespace Go.Proofs.YtenmpciimocggaaGreat
open Go.RowKit

theorem seekD_key {l : List Ce} {key : ByteArray} {p : Nat} : ∀ (d i k : Nat), seekD l key p i d = some k → ∃ x, l[k]? = some x ∧ x.key.toList = key.toList
  | 0, _, _, h => by cases h
  | d + 1, i, k, h => by
    rw [seekD] at h
    have hs : ∀ r, stepS l key ((p + i) % l.length) = some (some r) → ∃ x, l[r]? = some x ∧ x.key.toList = key.toList := by
      intro r hr
      unfold stepS at hr
      split at hr
      · rename_i x hx
        split at hr
        · rename_i hc
          injection hr with hr
          injection hr with hr
          rw [← hr]
          exact ⟨x, hx, hc.1⟩
        · split at hr <;> cases hr
      · cases hr
    split at h
    · rename_i r hr; subst h; exact hs k hr
    · exact seekD_key d (i + 1) k h
theorem seekC_key {l : List Ce} {key : ByteArray} {k : Nat} (h : seekC l key = some k) (hk : k < l.length) : l[k].key = key := by
  obtain ⟨x, hx, e⟩ := seekD_key _ _ _ h
  rw [List.getElem?_eq_getElem hk] at hx
  rw [Option.some.inj hx]
  exact bytes_eq e

theorem putC_length {l l' : List Ce} {key : ByteArray} {h : Int} (e : putC l key h = some l') : l'.length = l.length := by
  unfold putC at e
  split at e
  · split at e
    · split at e
      · cases e
      · injection e with e; rw [← e, List.length_set]
    · cases e
  · cases e

end Go.Proofs.YtenmpciimocggaaGreat
namespace Go.Proofs.YtenmpciimocggaaGreat
open Go.RowKit

end Go.Proofs.YtenmpciimocggaaGreat
namespace Go.Proofs.YtenmpciimocggaaGreat
open Go.ChangeShapes Go.WideShapes Go.ChangeAt Go.RowKit Go.Deep Go.Joins

instance : Inhabited Ce := ⟨zC⟩

/-- A variable that holds a table. -/
def VarT (w : World) (t : TypeId) (A : Nat) (ao : Option Addr) (n c : Nat) (a' : Option Addr) (m c' : Nat) (M : Int) : Prop := Blk w A t [.slice ao n c, .slice a' m c', .int .i64 M]
theorem VarT.cells {w : World} {t : TypeId} {A n c m c' : Nat} {ao a' : Option Addr} {M : Int} (h : VarT w t A ao n c a' m c' M) : A < w.heap.size ∧ w.cell? ⟨A, 0, none⟩ = some (.slice ao n c) ∧ w.cell? ⟨A, 1, none⟩ = some (.slice a' m c') ∧ w.cell? ⟨A, 2, none⟩ = some (.int .i64 M) :=
  ⟨Blk.lt h, Blk.cell h 0, Blk.cell h 1, Blk.cell h 2⟩
theorem VarT.later {w w' : World} {t : TypeId} {A n c m c' : Nat} {ao a' : Option Addr} {M : Int} (h : VarT w t A ao n c a' m c' M) (hb : Below w.heap.size w w') : VarT w' t A ao n c a' m c' M := Blk.below h hb (Blk.lt h)
theorem VarT.below {w w' : World} {t : TypeId} {A n c m c' B : Nat} {ao a' : Option Addr} {M : Int} (h : VarT w t A ao n c a' m c' M) (hb : Below B w w') (hA : A < B) : VarT w' t A ao n c a' m c' M := Blk.below h hb hA
theorem VarT.box {w w1 : World} {t : TypeId} {n c m c' : Nat} {ao a' : Option Addr} {M : Int} (hb : Below (w.alloc (.cells #[.slice ao n c, .slice a' m c', .int .i64 M] t)).heap.size (w.alloc (.cells #[.slice ao n c, .slice a' m c', .int .i64 M] t)) w1) : VarT w1 t w.heap.size ao n c a' m c' M :=
  Blk.below (Blk.new w t _) hb (by rw [World.size_alloc]; omega)
theorem box_below {w w1 : World} {o : Obj} (hb : Below (w.alloc o).heap.size (w.alloc o) w1) : Below w.heap.size w w1 := ((Below.refl _ _).alloc (Nat.le_refl _) _).trans (hb.mono (by rw [World.size_alloc]; omega))
theorem box_size {w w1 : World} {o : Obj} (hb : Below (w.alloc o).heap.size (w.alloc o) w1) : w.heap.size + 1 ≤ w1.heap.size := by have := hb.size; rw [World.size_alloc] at this; exact this
theorem RdC.below {w w' : World} {a : Option Addr} {l : List Ce} {B : Nat} (h : RdC w a l) (hb : Below B w w') (hB : ∀ b, a = some ⟨b, 0, none⟩ → b < B) : RdC w' a l := by
  rcases h with h | ⟨g, ha, hg, hc⟩
  · exact .inl h
  · exact .inr ⟨g, ha, Nat.lt_of_lt_of_le hg hb.size, fun i hi => (hc i hi).below hb (hB g ha)⟩
theorem RdJ.below {w w' : World} {a : Option Addr} {l : List Ce} {B : Nat} (h : RdJ w a l) (hb : Below B w w') (hB : ∀ b f, a = some ⟨b, f, none⟩ → l ≠ [] → b < B) : RdJ w' a l := by
  intro i hi
  obtain ⟨b, o, ha, hg, hc⟩ := h i hi
  exact ⟨b, o, ha, Nat.lt_of_lt_of_le hg hb.size, hc.below hb (hB b o ha (fun e => by subst e; simp at hi))⟩
theorem RdJ.inB {w : World} {a : Option Addr} {l : List Ce} {B : Nat} (h : RdJ w a l) (hB : w.heap.size ≤ B) : ∀ b f, a = some ⟨b, f, none⟩ → l ≠ [] → b < B := by
  intro b f ha hne
  obtain ⟨b', f', ha', hg, _⟩ := h 0 (List.length_pos_iff.2 hne)
  rw [ha] at ha'
  simp at ha'
  omega
theorem own_lt2 {w : World} {base n c : Nat} {ao : Option Addr} {xs : List Value} (h : w.ownsRow base 102 2 (.slice ao n c) n xs) : ∀ b, ao = some ⟨b, 0, none⟩ → b < w.heap.size := fun b e => (h.lt b (by rw [e]; rfl)).2
/-- Two rows of a table that are the call's own, behind a bound. -/
def Own2 (w : World) (B : Nat) (ao : Option Addr) (c : Nat) (L : List Ce) (a' : Option Addr) (c' : Nat) (O : List Ce) : Prop := w.ownsRow B 102 2 (.slice ao L.length c) L.length (ces L) ∧ w.ownsRow B 102 2 (.slice a' O.length c') O.length (ces O) ∧ apart2 (.slice ao L.length c) (.slice a' O.length c')
theorem Own2.rd {w : World} {B c c' : Nat} {ao a' : Option Addr} {L O : List Ce} (h : Own2 w B ao c L a' c' O) : RdC w ao L ∧ RdC w a' O := ⟨rdC_of_own h.1, rdC_of_own h.2.1⟩
theorem Own2.later {w w' : World} {B c c' : Nat} {ao a' : Option Addr} {L O : List Ce} (h : Own2 w B ao c L a' c' O) (hb : Below w.heap.size w w') : Own2 w' B ao c L a' c' O := ⟨own_kept h.1 hb, own_kept h.2.1 hb, h.2.2⟩
theorem Own2.base {w : World} {B B' c c' : Nat} {ao a' : Option Addr} {L O : List Ce} (h : Own2 w B ao c L a' c' O) (hB : B' ≤ B) : Own2 w B' ao c L a' c' O := ⟨own_base h.1 hB, own_base h.2.1 hB, h.2.2⟩
/-- The blocks of two rows lie between two bounds. -/
theorem Own2.lt {w : World} {B c c' : Nat} {ao a' : Option Addr} {L O : List Ce} (h : Own2 w B ao c L a' c' O) : ∀ g, ((Value.slice ao L.length c).ownBlock = some g ∨ (Value.slice a' O.length c').ownBlock = some g) → B ≤ g ∧ g < w.heap.size := by
  rintro g (e | e)
  · exact h.1.lt g e
  · exact h.2.1.lt g e
/-- What a mark of a table leaves as it was: all but its rows. -/
structure Mk2 (w w' : World) (u v : Value) : Prop where
  block : ∀ j, j < w.heap.size → u.ownBlock ≠ some j → v.ownBlock ≠ some j → w'.heap[j]? = w.heap[j]?
  os : w'.os = w.os
  tape : w'.tape = w.tape
  output : w'.output = w.output
  size : w.heap.size ≤ w'.heap.size
theorem Mk2.below {w w' : World} {u v : Value} {B : Nat} (h : Mk2 w w' u v) (hB : ∀ g, (u.ownBlock = some g ∨ v.ownBlock = some g) → B ≤ g) (hs : B ≤ w.heap.size) : Below B w w' :=
  ⟨h.os, h.tape, h.output, h.size, fun k hk => h.block k (by omega) (fun e => by have := hB k (.inl e); omega) (fun e => by have := hB k (.inr e); omega)⟩
theorem Mk2.blk {w w' : World} {u v : Value} {r : Nat} {t : TypeId} {cs : List Value} (h : Mk2 w w' u v) (hB : Blk w r t cs) (h1 : u.ownBlock ≠ some r) (h2 : v.ownBlock ≠ some r) : Blk w' r t cs := (h.block r hB.lt h1 h2).trans hB
theorem Mk2.own {w w' : World} {u v x : Value} {base n : Nat} {xs : List Value} (h : Mk2 w w' u v) (hO : w.ownsRow base 102 2 x n xs) (h1 : ∀ k, x.ownBlock = some k → u.ownBlock ≠ some k) (h2 : ∀ k, x.ownBlock = some k → v.ownBlock ≠ some k) : w'.ownsRow base 102 2 x n xs := by
  refine ⟨hO.1, ?_⟩
  rcases hO.2 with ⟨hv, hn⟩ | ⟨g, cap, cur, hv, hb, hh, r⟩
  · exact .inl ⟨hv, hn⟩
  · have e : x.ownBlock = some g := by rw [hv]; rfl
    exact .inr ⟨g, cap, cur, hv, hb, (h.block g (Array.getElem?_eq_some_iff.1 hh).1 (h1 g e) (h2 g e)).trans hh, r⟩
theorem put_small {l o : List Ce} {mv : Int} {key : ByteArray} {h : Int} {L O : List Ce} {M : Int} {t : Bool} (x : Ans (putOk l o mv key h) (putR l o mv key h) L O M t) : L.length ≤ 64 ∧ O.length ≤ 64 := by
  refine x.small fun l1 o1 m ok e => ?_
  have hl := ok.1.len
  unfold putR at e
  split at e
  · injection e with e
    injection e with e1 e2
    injection e2 with e2 e3
    rw [← e1, ← e2, List.length_set]
    exact ⟨hl.1, hl.2.1⟩
  · split at e
    · rename_i l' hp
      injection e with e
      injection e with e1 e2
      injection e2 with e2 e3
      rw [← e1, ← e2, goneO_length, putC_length hp]
      exact ⟨hl.1, hl.2.1⟩
    · cases e
theorem take_small {l o : List Ce} {mv : Int} {key : ByteArray} {L O : List Ce} {M : Int} {t : Bool} (x : Ans (OkT l o mv ∧ key.toList ≠ []) (takeR l o mv key) L O M t) : L.length ≤ 64 ∧ O.length ≤ 64 := by
  refine x.small fun l1 o1 m ok e => ?_
  have hl := ok.1.len
  unfold takeR at e
  split at e
  · injection e with e
    injection e with e1 e2
    injection e2 with e2 e3
    rw [← e1, ← e2, List.length_set]
    exact ⟨hl.1, hl.2.1⟩
  · split at e
    · injection e with e
      injection e with e1 e2
      injection e2 with e2 e3
      rw [← e1, ← e2, List.length_set]
      exact ⟨hl.1, hl.2.1⟩
    · cases e
theorem grow_small {l o : List Ce} {mv : Int} {L O : List Ce} {M : Int} {t : Bool} (x : Ans (growOk l o mv) (growR l) L O M t) : L.length ≤ 64 ∧ O.length ≤ 64 := by
  refine x.small fun l1 o1 m ok e => ?_
  injection e with e
  injection e with e1 e2
  injection e2 with e2 e3
  rw [← e1, ← e2, List.length_replicate]
  exact ⟨ok.2.2, ok.1.len.1⟩
theorem new_small {n : Int} {L O : List Ce} {M : Int} {t : Bool} (x : Ans (szOk n) (newR n) L O M t) : L.length ≤ 64 ∧ O.length ≤ 64 := by
  refine x.small fun l1 o1 m ok e => ?_
  injection e with e
  injection e with e1 e2
  injection e2 with e2 e3
  rw [← e1, ← e2, List.length_replicate]
  have : n = 4 ∨ n = 8 ∨ n = 16 ∨ n = 32 ∨ n = 64 := ok
  exact ⟨by omega, Nat.zero_le _⟩
end Go.Proofs.YtenmpciimocggaaGreat
