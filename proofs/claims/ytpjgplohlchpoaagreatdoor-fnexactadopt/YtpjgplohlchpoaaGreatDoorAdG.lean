/- A seat in memory: the member in rows of its own, what it told in rows of its own, the seat's block apart from them. -/
import Derived.Test.YtpjgplohlchpoaaGreatDoorAdF
import Derived.Test.YtpjgplohlchpoaaGreatDoorMgD
namespace Go.Proofs.YtpjgplohlchpoaaGreatDoor
open Go.RowKit
set_option linter.unusedVariables false

/-- The blocks of X stand. -/
structure FrX (X : Nat → Prop) (w w' : World) : Prop where
  os : w'.os = w.os
  tape : w'.tape = w.tape
  output : w'.output = w.output
  size : w.heap.size ≤ w'.heap.size
  block : ∀ k, X k → w'.heap[k]? = w.heap[k]?
theorem FrX.refl (X : Nat → Prop) (w : World) : FrX X w w := ⟨rfl, rfl, rfl, Nat.le_refl _, fun _ _ => rfl⟩
theorem FrX.trans {X : Nat → Prop} {a b c : World} (h : FrX X a b) (k : FrX X b c) : FrX X a c :=
  ⟨k.os.trans h.os, k.tape.trans h.tape, k.output.trans h.output, Nat.le_trans h.size k.size, fun j hj => (k.block j hj).trans (h.block j hj)⟩
theorem FrX.of {X : Nat → Prop} {B : Nat} {w w' : World} (h : Below B w w') (hX : ∀ k, X k → k < B) : FrX X w w' := ⟨h.os, h.tape, h.output, h.size, fun k hk => h.block k (hX k hk)⟩
theorem FrX.bel {X : Nat → Prop} {B : Nat} {w w' : World} (h : FrX X w w') (hB : ∀ k, k < B → X k) : Below B w w' := ⟨h.os, h.tape, h.output, h.size, fun k hk => h.block k (hB k hk)⟩
theorem FrX.less {X Y : Nat → Prop} {w w' : World} (h : FrX X w w') (hY : ∀ k, Y k → X k) : FrX Y w w' := ⟨h.os, h.tape, h.output, h.size, fun k hk => h.block k (hY k hk)⟩
theorem FrX.grown {X : Nat → Prop} {w w' : World} {r : Option Nat} (h : w.grownBy w' r) (hX : ∀ k, X k → k < w.heap.size ∧ r ≠ some k) : FrX X w w' :=
  ⟨h.os, h.tape, h.output, h.size, fun k hk => h.block k (hX k hk).1 (fun e => (hX k hk).2 e.symm)⟩
/-- The rows of a member lie there. -/
def InM (m : Mb) (A : MA) (g : Nat) : Prop := (Value.slice A.wa m.wa.length A.wc).ownBlock = some g ∨ (Value.slice A.ia m.is.length A.ic).ownBlock = some g ∨ (Value.slice A.la m.tk.lf.length A.lc).ownBlock = some g
/-- The rows of messages lie there. -/
def InD (b : Option Addr) (c : Nat) (D : List Mv) (g : Nat) : Prop := (Value.slice b D.length c).ownBlock = some g ∨ ∃ x ∈ D, (Value.slice x.a x.m.is.length x.c).ownBlock = some g
/-- Messages in a row of one's own, each with items of its own. -/
structure OwnMs (w : World) (B : Nat) (b : Option Addr) (c : Nat) (D : List Mv) : Prop where
  o : w.ownsRow B 61 6 (.slice b D.length c) D.length (rowG mvC D)
  r : ∀ x ∈ D, w.ownsRow B 34 3 (.slice x.a x.m.is.length x.c) x.m.is.length (rowG imC x.m.is)
  d : D.Pairwise (fun x y => ∀ g, (Value.slice x.a x.m.is.length x.c).ownBlock = some g → (Value.slice y.a y.m.is.length y.c).ownBlock ≠ some g)
  n : ∀ x ∈ D, ∀ g, (Value.slice b D.length c).ownBlock = some g → (Value.slice x.a x.m.is.length x.c).ownBlock ≠ some g
theorem OwnMs.nil (w : World) (B : Nat) : OwnMs w B none 0 [] := ⟨World.ownsRow_nil _ _ _ _, by simp, List.Pairwise.nil, by simp⟩
theorem OwnMs.rd {w : World} {B c : Nat} {b : Option Addr} {D : List Mv} (h : OwnMs w B b c D) : RdMs w b D := ⟨rdG_of_own encMv.len h.o rfl, fun x hx => rdG_of_own encIm.len (h.r x hx) rfl⟩
theorem OwnMs.base {w : World} {B B' c : Nat} {b : Option Addr} {D : List Mv} (h : OwnMs w B b c D) (hB : B' ≤ B) : OwnMs w B' b c D := ⟨own_base h.o hB, fun x hx => own_base (h.r x hx) hB, h.d, h.n⟩
theorem OwnMs.lt {w : World} {B c g : Nat} {b : Option Addr} {D : List Mv} (h : OwnMs w B b c D) (hg : InD b c D g) : B ≤ g ∧ g < w.heap.size := by
  rcases hg with hg | ⟨x, hx, hg⟩
  · exact h.o.lt g hg
  · exact (h.r x hx).lt g hg
theorem OwnMs.off {w w' : World} {B c : Nat} {b : Option Addr} {D : List Mv} (h : OwnMs w B b c D) (hs : w.heap.size ≤ w'.heap.size) (hf : ∀ g, InD b c D g → w'.heap[g]? = w.heap[g]?) : OwnMs w' B b c D :=
  ⟨own_blkT h.o hs (fun g hg => hf g (.inl hg)), fun x hx => own_blkT (h.r x hx) hs (fun g hg => hf g (.inr ⟨x, hx, hg⟩)), h.d, h.n⟩
theorem OwnMs.later {w w' : World} {B c : Nat} {b : Option Addr} {D : List Mv} (h : OwnMs w B b c D) (hb : Below w.heap.size w w') : OwnMs w' B b c D := h.off hb.size (fun g hg => hb.block g (h.lt hg).2)
theorem OwnMb.ltM {w : World} {B g : Nat} {m : Mb} {A : MA} (h : OwnMb w B m A) (hg : InM m A g) : B ≤ g ∧ g < w.heap.size := by
  rcases hg with hg | hg | hg
  · exact h.wo.lt g hg
  · exact h.io.lt g hg
  · exact h.lo.lt g hg
theorem OwnMb.offM {w w' : World} {B : Nat} {m : Mb} {A : MA} (h : OwnMb w B m A) (hs : w.heap.size ≤ w'.heap.size) (hf : ∀ g, InM m A g → w'.heap[g]? = w.heap[g]?) : OwnMb w' B m A :=
  ⟨own_blkT h.wo hs (fun g hg => hf g (.inl hg)), own_blkT h.io hs (fun g hg => hf g (.inr (.inl hg))), own_blkT h.lo hs (fun g hg => hf g (.inr (.inr hg))), h.wi, h.wl, h.il⟩
structure SeA (S : Nat) (w : World) (X : Nat) (q : Int) (v : Value) (m : Mb) (A : MA) (b : Option Addr) (c : Nat) (D : List Mv) : Prop where
  bx : BlkA w X 94 (seatA (.int .i32 q) (.int .u32 0) v m A (.slice b D.length c) (.slice none 0 0))
  hX : S ≤ X
  mo : OwnMb w S m A
  tw : OwnMs w S b c D
  mx : ¬ InM m A X
  dx : ¬ InD b c D X
  md : ∀ g, InM m A g → ¬ InD b c D g
theorem SeA.later {S : Nat} {w w' : World} {X : Nat} {q : Int} {v : Value} {m : Mb} {A : MA} {b : Option Addr} {c : Nat} {D : List Mv} (h : SeA S w X q v m A b c D) (hb : Below w.heap.size w w') : SeA S w' X q v m A b c D :=
  ⟨h.bx.below hb h.bx.lt, h.hX, h.mo.later hb, h.tw.later hb, h.mx, h.dx, h.md⟩
theorem SeA.size {S : Nat} {w : World} {X : Nat} {q : Int} {v : Value} {m : Mb} {A : MA} {b : Option Addr} {c : Nat} {D : List Mv} (h : SeA S w X q v m A b c D) : S ≤ w.heap.size := Nat.le_trans h.hX (Nat.le_of_lt h.bx.lt)
/-- The seat's own cells are written. -/
theorem SeA.grow {S : Nat} {w w' : World} {X : Nat} {q q' : Int} {v : Value} {m m' : Mb} {A A' : MA} {b : Option Addr} {c : Nat} {D : List Mv} (h : SeA S w X q v m A b c D) (hg : w.grownBy w' (some X)) (hb : BlkA w' X 94 (seatA (.int .i32 q') (.int .u32 0) v m' A' (.slice b D.length c) (.slice none 0 0)))
    (hm : OwnMb w' S m' A') (hi : ∀ g, InM m' A' g → InM m A g ∨ (w.heap.size ≤ g)) : SeA S w' X q' v m' A' b c D ∧ FrX (fun g => g < w.heap.size ∧ g ≠ X) w w' := by
  refine ⟨⟨hb, h.hX, hm, h.tw.off hg.size (fun g hg2 => hg.block g (h.tw.lt hg2).2 (fun e => h.dx (by injection e with e; exact e ▸ hg2))), fun hx => ?_, h.dx, fun g hg2 hd => ?_⟩, FrX.grown hg (fun k hk => ⟨hk.1, fun e => hk.2 (by injection e with e; exact e.symm)⟩)⟩
  · rcases hi X hx with h1 | h1
    · exact h.mx h1
    · have := h.bx.lt; omega
  · rcases hi g hg2 with h1 | h1
    · exact h.md g h1 hd
    · have := (h.tw.lt hd).2; omega
/-- A message more. -/
theorem SeA.push {S : Nat} {w w1 w2 : World} {X : Nat} {q : Int} {v : Value} {m : Mb} {A : MA} {b b' : Option Addr} {c c' : Nat} {D : List Mv} {y : Mv} (h : SeA S w X q v m A b c D) (hy : w.ownsRow S 34 3 (.slice y.a y.m.is.length y.c) y.m.is.length (rowG imC y.m.is))
    (hyn : ∀ g, (Value.slice y.a y.m.is.length y.c).ownBlock = some g → g ≠ X ∧ ¬ InM m A g ∧ ¬ InD b c D g)
    (ho : w1.ownsRow S 61 6 (.slice b' (D.length + 1) c') (D.length + 1) (rowG mvC (D ++ [y]))) (hg : w.grownBy w1 (Value.slice b D.length c).ownBlock) (hl : ∀ x, b' = some x → (Value.slice b D.length c).ownBlock = some x.block ∨ w.heap.size ≤ x.block)
    (hs : w1.grownBy w2 (some X)) (hb : BlkA w2 X 94 (seatA (.int .i32 q) (.int .u32 0) v m A (.slice b' (D.length + 1) c') (.slice none 0 0))) :
    SeA S w2 X q v m A b' c' (D ++ [y]) ∧ FrX (fun g => g < w.heap.size ∧ g ≠ X ∧ ¬ InD b c D g) w w2 ∧ (∀ g, InD b' c' (D ++ [y]) g → InD b c D g ∨ w.heap.size ≤ g ∨ (Value.slice y.a y.m.is.length y.c).ownBlock = some g) := by
  have e1 : (D ++ [y]).length = D.length + 1 := by simp
  have hn : ∀ g, (Value.slice b' (D.length + 1) c').ownBlock = some g → (Value.slice b D.length c).ownBlock = some g ∨ w.heap.size ≤ g := fun g hg2 => by
    obtain ⟨x, hx, rfl⟩ := own_blkEq ho hg2
    exact hl x hx
  have hin : ∀ g, InD b' c' (D ++ [y]) g → InD b c D g ∨ w.heap.size ≤ g ∨ (Value.slice y.a y.m.is.length y.c).ownBlock = some g := fun g hg2 => by
    rcases hg2 with h1 | ⟨x, hx, h1⟩
    · rw [e1] at h1
      rcases hn g h1 with h2 | h2
      · exact .inl (.inl h2)
      · exact .inr (.inl h2)
    · rcases List.mem_append.1 hx with hx | hx
      · exact .inl (.inr ⟨x, hx, h1⟩)
      · rw [List.mem_singleton.1 hx] at h1; exact .inr (.inr h1)
  have st : ∀ g, g < w.heap.size → g ≠ X → (Value.slice b D.length c).ownBlock ≠ some g → w2.heap[g]? = w.heap[g]? := fun g h1 h2 h3 =>
    (hs.block g (Nat.lt_of_lt_of_le h1 hg.size) (fun e => h2 (by injection e))).trans (hg.block g h1 (fun e => h3 e.symm))
  have sz : w.heap.size ≤ w2.heap.size := Nat.le_trans hg.size hs.size
  have hX1 : ¬ (Value.slice b' (D.length + 1) c').ownBlock = some X := fun e => by
    rcases hn X e with h2 | h2
    · exact h.dx (.inl h2)
    · have := h.bx.lt; omega
  have RY : ∀ x ∈ D ++ [y], w2.ownsRow S 34 3 (.slice x.a x.m.is.length x.c) x.m.is.length (rowG imC x.m.is) := fun x hx => by
    rcases List.mem_append.1 hx with hx | hx
    · exact own_blkT (h.tw.r x hx) sz (fun g hg2 => st g ((h.tw.r x hx).lt g hg2).2 (fun e => h.dx (.inr ⟨x, hx, e ▸ hg2⟩)) (fun e => h.tw.n x hx g e hg2))
    · rw [List.mem_singleton.1 hx]
      exact own_blkT hy sz (fun g hg2 => st g (hy.lt g hg2).2 (hyn g hg2).1 (fun e => (hyn g hg2).2.2 (.inl e)))
  refine ⟨⟨by rw [e1]; exact hb, h.hX, h.mo.offM sz (fun g hg2 => st g (h.mo.ltM hg2).2 (fun e => h.mx (e ▸ hg2)) (fun e => h.md g hg2 (.inl e))), ⟨?_, RY, ?_, fun x hx g h1 h2 => ?_⟩, h.mx, fun hd => ?_, fun g hm hd => ?_⟩, ⟨hs.os.trans hg.os, hs.tape.trans hg.tape, hs.output.trans hg.output, sz, fun k hk => st k hk.1 hk.2.1 (fun e => hk.2.2 (.inl e))⟩, hin⟩
  · rw [e1]
    exact own_blkT ho hs.size (fun g hg2 => hs.block g (ho.lt g hg2).2 (fun e => hX1 (by injection e with e; rw [← e]; exact hg2)))
  · rw [List.pairwise_append]
    refine ⟨h.tw.d, List.pairwise_singleton _ _, fun x hx z hz g h1 h2 => ?_⟩
    rw [List.mem_singleton.1 hz] at h2
    exact (hyn g h2).2.2 (.inr ⟨x, hx, h1⟩)
  · rw [e1] at h1
    rcases List.mem_append.1 hx with hx | hx
    · rcases hn g h1 with h3 | h3
      · exact h.tw.n x hx g h3 h2
      · have := ((h.tw.r x hx).lt g h2).2; omega
    · rw [List.mem_singleton.1 hx] at h2
      rcases hn g h1 with h3 | h3
      · exact (hyn g h2).2.2 (.inl h3)
      · have := (hy.lt g h2).2; omega
  · rcases hin X hd with h1 | h1 | h1
    · exact h.dx h1
    · have := h.bx.lt; omega
    · exact (hyn X h1).1 rfl
  · rcases hin g hd with h1 | h1 | h1
    · exact h.md g hm h1
    · have := (h.mo.ltM hm).2; omega
    · exact (hyn g h1).2.1 hm
set_option maxRecDepth 100000 in
set_option maxHeartbeats 4000000 in
theorem seatOf_any (m : Mb) (A : MA) (va : Option Addr) (n vc : Nat) (w : World) (hl : SzMb m) (hA : RdMb w m A) :
    Calls Tryz.prog 30 #[.agg (mbA m A), .slice va n vc] w fun e w' => (∃ (X : Nat) (B : MA), e = .returned (.pointer (some ⟨X, 0, none⟩)) ∧ SeA w.heap.size w' X 0 (.slice va n vc) m B none 0 []) ∧ Below w.heap.size w w' := by
  have F0 := hide1 (And.intro (BlkA.new w 38 (mbA m A)) ((Below.refl w.heap.size w).alloc (Nat.le_refl _) (.cells (mbA m A) 38)))
  have HA := hide1 hA
  have HL := hide1 hl
  clear hA hl
  unfold mbA at F0
  unfold mbA
  go_enter Tryz.func30, Tryz.ntmps30
  go_upto_region 1 with fail
  generalize (w.alloc (.cells #[.int .i64 m.id, .int .i64 m.ep, .bool m.fe, .bool m.ba, .bool m.le, .bool m.se, .slice A.wa m.wa.length A.wc, .slice A.ia m.is.length A.ic, .int .i64 m.cn, .int .i64 m.tk.op, .int .i64 m.tk.cl, .int .i64 m.tk.nu, .string m.tk.it.k, .string m.tk.it.v, .int .i64 m.tk.it.n, .slice A.la m.tk.lf.length A.lc] 38)) = w0 at F0 ⊢
  have C := hide1 (newMember_any m A w0 HL.out (HA.out.later F0.out.2))
  go_wp2_with (first | (refine wpList_load_rowG rfl 38 _ rfl w.heap.size rfl 38 (mbA m A) _ F0.out.1 Tryz.underlying38 rfl sizeMb ?_) | (go_at_call 51; refine C.out.mono ?_; rintro e w2 ⟨B, rfl, hO, hb⟩; have HO := hide1 hO; have HB := hide1 hb; unfold mbA; clear hO hb))
  go_ret
  have s0 : w.heap.size ≤ w0.heap.size := F0.out.2.size
  have BN := (Below.refl w2.heap.size w2).alloc (Nat.le_refl _) (.cells (seatA (.int .i32 0) (.int .u32 0) (.slice va n vc) m B (.slice none 0 0) (.slice none 0 0)) 94)
  refine ⟨⟨w2.heap.size, B, rfl, BlkA.new w2 94 (seatA (.int .i32 0) (.int .u32 0) (.slice va n vc) m B (.slice none 0 0) (.slice none 0 0)), ?_, (HO.out.base s0).later BN, OwnMs.nil _ _, fun h => ?_, fun h => ?_, fun g _ h => ?_⟩, (F0.out.2.trans (HB.out.mono s0)).trans (BN.mono (by have := HB.out.size; omega))⟩
  · have := HB.out.size; omega
  · have := (HO.out.ltM h).2; omega
  · rcases h with h | ⟨x, hx, _⟩
    · cases h
    · cases hx
  · rcases h with h | ⟨x, hx, _⟩
    · cases h
    · cases hx
end Go.Proofs.YtpjgplohlchpoaaGreatDoor
