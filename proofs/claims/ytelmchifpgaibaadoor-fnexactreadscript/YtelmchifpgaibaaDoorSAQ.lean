/- What has been read of a script, in memory. -/
import Derived.Test.YtelmchifpgaibaaDoorSAN
import Derived.Test.YtelmchifpgaibaaDoorSAO
import Derived.Test.YtelmchifpgaibaaDoorSAL
import Derived.Test.YtelmchifpgaibaaDoorSAH
import Derived.Test.YtelmchifpgaibaaDoorSAP
import Derived.Test.YtelmchifpgaibaaDoorSAI
import Derived.Deep.RegionHeld3
import Derived.Laws.StructEq
import Derived.Test.YtelmchifpgaibaaDoorSAJ
import Derived.Deep.DeepCutAuto
namespace Go.Proofs.YtelmchifpgaibaaDoor
open Go.RowKit
set_option linter.unusedVariables false

/-- The blocks of X stand. -/
structure ScF (X : Nat → Prop) (w w' : World) : Prop where
  os : w'.os = w.os
  tape : w'.tape = w.tape
  output : w'.output = w.output
  size : w.heap.size ≤ w'.heap.size
  block : ∀ k, X k → w'.heap[k]? = w.heap[k]?
theorem ScF.refl (X : Nat → Prop) (w : World) : ScF X w w := ⟨rfl, rfl, rfl, Nat.le_refl _, fun _ _ => rfl⟩
theorem ScF.trans {X : Nat → Prop} {a b c : World} (h : ScF X a b) (k : ScF X b c) : ScF X a c :=
  ⟨k.os.trans h.os, k.tape.trans h.tape, k.output.trans h.output, Nat.le_trans h.size k.size, fun j hj => (k.block j hj).trans (h.block j hj)⟩
theorem ScF.of {X : Nat → Prop} {B : Nat} {w w' : World} (h : Below B w w') (hX : ∀ k, X k → k < B) : ScF X w w' := ⟨h.os, h.tape, h.output, h.size, fun k hk => h.block k (hX k hk)⟩
theorem ScF.bel {X : Nat → Prop} {B : Nat} {w w' : World} (h : ScF X w w') (hB : ∀ k, k < B → X k) : Below B w w' := ⟨h.os, h.tape, h.output, h.size, fun k hk => h.block k (hB k hk)⟩
theorem ScF.less {X Y : Nat → Prop} {w w' : World} (h : ScF X w w') (hY : ∀ k, Y k → X k) : ScF Y w w' := ⟨h.os, h.tape, h.output, h.size, fun k hk => h.block k (hY k hk)⟩
theorem ScF.grown {X : Nat → Prop} {w w' : World} {r : Option Nat} (h : w.grownBy w' r) (hX : ∀ k, X k → k < w.heap.size ∧ r ≠ some k) : ScF X w w' :=
  ⟨h.os, h.tape, h.output, h.size, fun k hk => h.block k (hX k hk).1 (fun e => (hX k hk).2 e.symm)⟩
theorem ScF.set {X : Nat → Prop} {G : Nat} {w w' : World} (h : ScF X w w') (hG : ∀ k, X k → k ≠ G) (j : Nat) (v : Value) : ScF X w (w'.setCell ⟨G, j, none⟩ v) :=
  ⟨h.os, h.tape, h.output, Nat.le_trans h.size (gset (World.grownBy.refl w' (some G)) j v).size, fun k hk => (Below.heap_setCell _ _ _ _ (hG k hk)).trans (h.block k hk)⟩
theorem ScF.cell {X : Nat → Prop} {w w' : World} (h : ScF X w w') {k j : Nat} (hk : X k) : w'.cell? ⟨k, j, none⟩ = w.cell? ⟨k, j, none⟩ := World.cell?_of_block (h.block k hk)
/-- Where views and events lie. -/
structure Sca where
  va : Option Addr
  vc : Nat
  ea : Option Addr
  ec : Nat
  M : List Vw
structure ScA (S G : Nat) (w : World) (a : Sca) (st : Sc) : Prop where
  bx : Blk w G 46 [.slice a.va a.M.length a.vc, .slice a.ea st.es.length a.ec]
  lt : G < S
  hS : S ≤ w.heap.size
  vs : OwnVs w S a.va a.vc a.M
  ml : a.M.map (·.l) = st.vs
  es : w.ownsRow S 40 6 (.slice a.ea st.es.length a.ec) st.es.length (rowG evC st.es)
  ne : ∀ g, (Value.slice a.ea st.es.length a.ec).ownBlock = some g → (Value.slice a.va a.M.length a.vc).ownBlock ≠ some g ∧ ∀ x ∈ a.M, (Value.slice x.a x.l.length x.c).ownBlock ≠ some g
theorem ScA.later {S G : Nat} {w w' : World} {a : Sca} {st : Sc} (h : ScA S G w a st) (hb : Below w.heap.size w w') : ScA S G w' a st :=
  ⟨h.bx.below hb h.bx.lt, h.lt, Nat.le_trans h.hS hb.size, h.vs.later hb, h.ml, own_kept h.es hb, h.ne⟩
theorem ScA.nv {S G : Nat} {w : World} {a : Sca} {st : Sc} (h : ScA S G w a st) : a.M.length = st.vs.length := by rw [← h.ml, List.length_map]
theorem setS {S G B n k : Nat} {w : World} {e : TypeId} {v : Value} {xs : List Value} (h : w.ownsRow B e k v n xs) (hG : G < B) (j : Nat) (u : Value) : (w.setCell ⟨G, j, none⟩ u).ownsRow B e k v n xs := ownsRow_setCell_below h hG u
/-- The blocks of X are not those of the script. -/
structure OffA (X : Nat → Prop) (G : Nat) (w : World) (a : Sca) (st : Sc) : Prop where
  lt : ∀ k, X k → k < w.heap.size
  g : ∀ k, X k → k ≠ G
  v : ∀ k, X k → (Value.slice a.va a.M.length a.vc).ownBlock ≠ some k
  e : ∀ k, X k → (Value.slice a.ea st.es.length a.ec).ownBlock ≠ some k
theorem OffA.later {X : Nat → Prop} {G : Nat} {w w' : World} {a : Sca} {st : Sc} (h : OffA X G w a st) (hb : Below w.heap.size w w') : OffA X G w' a st := ⟨fun k hk => Nat.lt_of_lt_of_le (h.lt k hk) hb.size, h.g, h.v, h.e⟩
/-- An event more. -/
theorem ScA.event {X : Nat → Prop} {S G : Nat} {w w5 : World} {a : Sca} {st : Sc} {x : Ev} (h : ScA S G w a st) (hX : OffA X G w a st) {b : Option Addr} {c : Nat} (ho : w5.ownsRow S 40 6 (.slice b (st.es.length + 1) c) (st.es.length + 1) (rowG evC (st.es ++ [x])))
    (hg : w.grownBy w5 (Value.slice a.ea st.es.length a.ec).ownBlock) (hl : ∀ q, b = some q → (Value.slice a.ea st.es.length a.ec).ownBlock = some q.block ∨ w.heap.size ≤ q.block) :
    ScA S G (w5.setCell ⟨G, 1, none⟩ (.slice b (st.es.length + 1) c)) ⟨a.va, a.vc, b, c, a.M⟩ ⟨st.vs, st.es ++ [x]⟩ ∧ ScF X w (w5.setCell ⟨G, 1, none⟩ (.slice b (st.es.length + 1) c)) := by
  have e1 : (st.es ++ [x]).length = st.es.length + 1 := by simp
  have hne : ∀ g, (Value.slice a.ea st.es.length a.ec).ownBlock = some g → S ≤ g := fun g hg => (h.es.lt g hg).1
  have hGE : (Value.slice a.ea st.es.length a.ec).ownBlock ≠ some G := fun e => by have := hne G e; have := h.lt; omega
  have BX := gblk hg h.bx hGE
  have F : ScF X w w5 := ScF.grown hg (fun k hk => ⟨hX.lt k hk, hX.e k hk⟩)
  have hnew : ∀ g, (Value.slice b (st.es.length + 1) c).ownBlock = some g → (Value.slice a.ea st.es.length a.ec).ownBlock = some g ∨ w.heap.size ≤ g := fun g hg2 => by
    obtain ⟨q, hq, rfl⟩ := own_blkEq ho hg2
    exact hl q hq
  have lt0 := h.lt
  refine ⟨⟨?_, h.lt, ?_, ⟨?_, fun y hy => ?_, h.vs.d, h.vs.n⟩, h.ml, ?_, fun g hg2 => ?_⟩, F.set hX.g 1 _⟩
  · have := BX.set 1 (.slice b (st.es.length + 1) c)
    rw [e1]
    exact this
  · exact Nat.le_trans (Nat.le_trans h.hS hg.size) (gset (World.grownBy.refl w5 (some G)) _ _).size
  · exact setS (S := S) (gown hg h.vs.o (fun g e1 e2 => (h.ne g e2).1 e1)) h.lt 1 _
  · exact setS (S := S) (gown hg (h.vs.r y hy) (fun g e1 e2 => (h.ne g e2).2 y hy e1)) h.lt 1 _
  · rw [e1]; exact setS (S := S) ho h.lt 1 _
  · rw [e1] at hg2
    rcases hnew g hg2 with h1 | h1
    · exact h.ne g h1
    · exact ⟨fun e => by have := (h.vs.o.lt g e).2; omega, fun y hy e => by have := ((h.vs.r y hy).lt g e).2; omega⟩
/-- A view more. -/
theorem ScA.view {X : Nat → Prop} {S G : Nat} {w w5 : World} {a : Sca} {st : Sc} {x : Vw} (h : ScA S G w a st) (hX : OffA X G w a st) (hx : OwnK w S x.a x.c x.l) (hxn : ∀ g, (Value.slice x.a x.l.length x.c).ownBlock = some g → (Value.slice a.va a.M.length a.vc).ownBlock ≠ some g ∧ (Value.slice a.ea st.es.length a.ec).ownBlock ≠ some g ∧ ∀ y ∈ a.M, (Value.slice y.a y.l.length y.c).ownBlock ≠ some g)
    {b : Option Addr} {c : Nat} (ho : w5.ownsRow S 35 1 (.slice b (a.M.length + 1) c) (a.M.length + 1) (rowG vwC (a.M ++ [x])))
    (hg : w.grownBy w5 (Value.slice a.va a.M.length a.vc).ownBlock) (hl : ∀ q, b = some q → (Value.slice a.va a.M.length a.vc).ownBlock = some q.block ∨ w.heap.size ≤ q.block) :
    ScA S G (w5.setCell ⟨G, 0, none⟩ (.slice b (a.M.length + 1) c)) ⟨b, c, a.ea, a.ec, a.M ++ [x]⟩ ⟨st.vs ++ [x.l], st.es⟩ ∧ ScF X w (w5.setCell ⟨G, 0, none⟩ (.slice b (a.M.length + 1) c)) := by
  have e1 : (a.M ++ [x]).length = a.M.length + 1 := by simp
  have hne : ∀ g, (Value.slice a.va a.M.length a.vc).ownBlock = some g → S ≤ g := fun g hg => (h.vs.o.lt g hg).1
  have hGE : (Value.slice a.va a.M.length a.vc).ownBlock ≠ some G := fun e => by have := hne G e; have := h.lt; omega
  have BX := gblk hg h.bx hGE
  have F : ScF X w w5 := ScF.grown hg (fun k hk => ⟨hX.lt k hk, hX.v k hk⟩)
  have hnew : ∀ g, (Value.slice b (a.M.length + 1) c).ownBlock = some g → (Value.slice a.va a.M.length a.vc).ownBlock = some g ∨ w.heap.size ≤ g := fun g hg2 => by
    obtain ⟨q, hq, rfl⟩ := own_blkEq ho hg2
    exact hl q hq
  have lt0 := h.lt
  have mem : ∀ y ∈ a.M ++ [x], y ∈ a.M ∨ y = x := fun y hy => by
    rcases List.mem_append.1 hy with h | h
    · exact .inl h
    · exact .inr (List.mem_singleton.1 h)
  have RY : ∀ y ∈ a.M ++ [x], OwnK w S y.a y.c y.l := fun y hy => by rcases mem y hy with h1 | h1; exact h.vs.r y h1; rw [h1]; exact hx
  have NY : ∀ y ∈ a.M ++ [x], ∀ g, (Value.slice a.va a.M.length a.vc).ownBlock = some g → (Value.slice y.a y.l.length y.c).ownBlock ≠ some g := fun y hy g e1 e2 => by
    rcases mem y hy with h1 | h1
    · exact h.vs.n y h1 g e1 e2
    · rw [h1] at e2; exact (hxn g e2).1 e1
  refine ⟨⟨?_, h.lt, ?_, ⟨?_, fun y hy => ?_, ?_, fun y hy g hg2 => ?_⟩, ?_, ?_, fun g hg2 => ?_⟩, F.set hX.g 0 _⟩
  · have := BX.set 0 (.slice b (a.M.length + 1) c)
    dsimp only
    rw [e1]
    exact this
  · exact Nat.le_trans (Nat.le_trans h.hS hg.size) (gset (World.grownBy.refl w5 (some G)) _ _).size
  · dsimp only; rw [e1]; exact setS (S := S) ho h.lt 0 _
  · exact setS (S := S) (gown hg (RY y hy) (fun g e1 e2 => NY y hy g e2 e1)) h.lt 0 _
  · dsimp only
    rw [List.pairwise_append]
    refine ⟨h.vs.d, List.pairwise_singleton _ _, fun y hy z hz => ?_⟩
    rw [List.mem_singleton.1 hz]
    intro g e1 e2
    exact (hxn g e2).2.2 y hy e1
  · dsimp only at hg2 ⊢
    rw [e1] at hg2
    rcases hnew g hg2 with h1 | h1
    · exact NY y hy g h1
    · intro e; have := ((RY y hy).lt g e).2; omega
  · dsimp only; rw [List.map_append, h.ml]; rfl
  · exact setS (S := S) (gown hg h.es (fun g e1 e2 => (h.ne g e1).1 e2)) h.lt 0 _
  · dsimp only at hg2 ⊢
    rw [e1]
    refine ⟨fun e => ?_, fun y hy e => ?_⟩
    · rcases hnew g e with h1 | h1
      · exact (h.ne g hg2).1 h1
      · have := (h.es.lt g hg2).2; omega
    · rcases mem y hy with h1 | h1
      · exact (h.ne g hg2).2 y h1 e
      · rw [h1] at e; exact (hxn g e).2.1 hg2
end Go.Proofs.YtelmchifpgaibaaDoor
namespace Go.Proofs.YtelmchifpgaibaaDoor
open Go.RowKit
set_option linter.unusedVariables false

theorem conv_newX {P : Program} (w : World) (src dst e : TypeId) (s : ByteArray) (hs : P.underlying src = some .string) (hd : P.underlying dst = some (.slice e)) (he : P.underlying e = some (.int .u8)) :
    ∃ v w1, (convert src dst (.string s)).run P w = .ok v w1 ∧ (convert dst src v).run P w1 = .ok (.string s) w1 ∧ Below w.heap.size w w1 := by
  refine ⟨_, _, run_bytes_of_string w src dst e s hs hd he, ?_, (Below.refl _ _).drew.alloc (Nat.le_refl _) _⟩
  have hl : s.size = s.data.toList.length := by simp
  rw [hl, run_convert_bytes_back _ dst src e ⟨w.heap.size, 0, none⟩ _ s.data.toList hd he hs]
  intro j hj
  have hj' : j < s.data.size := by simpa using hj
  rw [Addr.add_lit, Nat.zero_add]
  have := World.cell?_alloc_mark w.drew (bytesRow s (grownCap w s.size 0 e)) e ((bytesRow s (grownCap w s.size 0 e)).size, (bytesRow s (grownCap w s.size 0 e)).size + 1) j
  rw [bytesRow_at s _ j hj'] at this
  rw [← hl]
  simpa using this

theorem newX_any (s : ByteArray) (w : World) : Calls Tryd.prog 50 #[.string s] w fun e w' => e = .returned (.string s) ∧ Below w.heap.size w w' := by
  obtain ⟨v, w1, r1, r2, hb⟩ := conv_newX (P := Tryd.prog) w 9 59 5 s Tryd.underlying9 Tryd.underlying59 Tryd.underlying5
  go_enter Tryd.func50, Tryd.ntmps50
  go_wp2
  go_ret
  exact ⟨rfl, hb⟩

theorem keyX_any (k : ByteArray) (w : World) : Calls Tryd.prog 71 #[.string k] w fun e w' => e = .returned (.bool (decide (1 ≤ k.size ∧ k.size ≤ 12))) ∧ w' = w := by
  by_cases h1 : 1 ≤ k.size
  · by_cases h2 : k.size ≤ 12
    · have HF := hide1 (show decide (1 ≤ k.size ∧ k.size ≤ 12) = true by simp [h1, h2])
      go_enter Tryd.func71, Tryd.ntmps71
      go_wp2
      go_ret
      exact ⟨by first | rfl | (rw [HF.out]; first | rfl | (show Ending.returned (.bool (decide ((k.size : Int) ≤ 12))) = _; rw [decide_eq_true (by omega)])), rfl⟩
    · have HF := hide1 (show decide (1 ≤ k.size ∧ k.size ≤ 12) = false by simp [h2])
      go_enter Tryd.func71, Tryd.ntmps71
      go_wp2
      go_ret
      exact ⟨by rw [HF.out]; first | rfl | (show Ending.returned (.bool (decide ((k.size : Int) ≤ 12))) = _; rw [decide_eq_false (by omega)]), rfl⟩
  · have HF := hide1 (show decide (1 ≤ k.size ∧ k.size ≤ 12) = false by simp [h1])
    go_enter Tryd.func71, Tryd.ntmps71
    go_wp2
    go_ret
    exact ⟨by first | rfl | (rw [HF.out]; rfl), rfl⟩

def fitX (k v : ByteArray) : Prop := (1 ≤ k.size ∧ k.size ≤ 12) ∧ v.size ≤ 20
instance (k v : ByteArray) : Decidable (fitX k v) := by unfold fitX; infer_instance
theorem fitX_any (k v : ByteArray) (w : World) : Calls Tryd.prog 65 #[.string k, .string v] w fun e w' => e = .returned (.bool (decide (fitX k v))) ∧ w' = w := by
  have CK := hide1 (fun w => keyX_any k w)
  by_cases hk : 1 ≤ k.size ∧ k.size ≤ 12
  · rw [decide_eq_true hk] at CK
    by_cases h3 : v.size ≤ 20
    · have HF := hide1 (show decide (fitX k v) = true from decide_eq_true ⟨hk, h3⟩)
      clear hk
      go_enter Tryd.func65, Tryd.ntmps65
      go_wp2_with fail
      refine (CK.out _).mono ?_
      rintro e w1 ⟨rfl, rfl⟩
      go_wp2
      go_ret
      exact ⟨by rw [HF.out]; first | rfl | (show Ending.returned (.bool (decide ((v.size : Int) ≤ 20))) = _; rw [decide_eq_true (by omega)]), rfl⟩
    · have HF := hide1 (show decide (fitX k v) = false from decide_eq_false (fun h => h3 h.2))
      clear hk
      go_enter Tryd.func65, Tryd.ntmps65
      go_wp2_with fail
      refine (CK.out _).mono ?_
      rintro e w1 ⟨rfl, rfl⟩
      go_wp2
      go_ret
      exact ⟨by rw [HF.out]; first | rfl | (show Ending.returned (.bool (decide ((v.size : Int) ≤ 20))) = _; rw [decide_eq_false (by omega)]), rfl⟩
  · have HF := hide1 (show decide (fitX k v) = false from decide_eq_false (fun h => hk h.1))
    rw [decide_eq_false hk] at CK
    clear hk
    go_enter Tryd.func65, Tryd.ntmps65
    go_wp2_with fail
    refine (CK.out _).mono ?_
    rintro e w1 ⟨rfl, rfl⟩
    go_wp2
    go_ret
    exact ⟨by rw [HF.out]; rfl, rfl⟩

theorem okIm_fit (x : Im) : okIm x ↔ fitX x.k x.v ∧ 1 ≤ x.n ∧ x.n ≤ 1000000000 := by unfold okIm fitX; constructor <;> (intro h; exact ⟨by first | exact ⟨h.1, h.2.1⟩ | exact h.1.1, by first | exact h.2.2 | exact ⟨h.1.2, h.2⟩⟩)
set_option maxRecDepth 100000 in
theorem nodeFits_any (n : Int) (w : World) : Calls Tryd.prog 59 #[.int .i64 n] w fun e w' => e = .returned (.bool (decide (1 ≤ n ∧ n ≤ 6))) ∧ w' = w := by
  by_cases h1 : 1 ≤ n
  · by_cases h2 : n ≤ 6
    · rw [show decide (1 ≤ n ∧ n ≤ 6) = true by simp [h1, h2]]
      go_enter Tryd.func59, Tryd.ntmps59
      go_wp2
      go_ret
      exact ⟨rfl, rfl⟩
    · rw [show decide (1 ≤ n ∧ n ≤ 6) = false by simp [h2]]
      go_enter Tryd.func59, Tryd.ntmps59
      go_wp2
      go_ret
      exact ⟨rfl, rfl⟩
  · rw [show decide (1 ≤ n ∧ n ≤ 6) = false by simp [h1]]
    go_enter Tryd.func59, Tryd.ntmps59
    go_wp2
    go_ret
    exact ⟨rfl, rfl⟩
/-- What the program's countFits answers: no count fits where there is no such kind. -/
def cntF (k : Int) (c : Nat) : Prop := (1 ≤ k ∧ k ≤ 8) ∧ manyOk k c
instance (k : Int) (c : Nat) : Decidable (cntF k c) := by unfold cntF; infer_instance
end Go.Proofs.YtelmchifpgaibaaDoor
namespace Go.Proofs.YtelmchifpgaibaaDoor
open Go.RowKit
set_option linter.unusedVariables false

theorem okIm_z {x : Im} (h : okIm x) : x.k.size ≤ 1048576 ∧ x.v.size ≤ 1048576 := by have h1 := h.1.2; have h2 := h.2.1; omega
theorem okIms_z {l : List Im} (h : okIms l) : ∀ x ∈ l, x.k.size ≤ 1048576 ∧ x.v.size ≤ 1048576 := fun x hx => okIm_z (h.1 x hx)
theorem fieldsIm : Tryd.prog.underlying 76 = some (.struct (Tryd.prog.fieldsOf 76)) := by kernel_rfl
theorem heldIm : Tryd.prog.stoodInHeld 76 = false := by kernel_rfl
theorem listIm : (Tryd.prog.fieldsOf 76).toList.map (fun f => (f.name, f.type, f.offset)) = [("Key", 9, 0), ("Val", 9, 1), ("Ver", 3, 2)] := by kernel_rfl
theorem guardIm : Tryd.prog.eqGuardType Tryd.prog.depth 76 = false := by kernel_rfl
theorem part_oneI (w : World) (t : TypeId) (d : TypeDesc) (hd : Tryd.prog.underlying t = some d) (hn : (match d with | .struct _ | .array _ _ => true | _ => false) = false) (xs : Array Value) (i : Nat) (v : Value) (h : xs[i]? = some v) : (part t xs i).run Tryd.prog w = .ok v w := by
  unfold part isAgg
  cases d <;> simp_all [run_underlying hd]
def eqSI (d : Nat) (xs ys : Array Value) : List (String × TypeId × Nat) → Sem Bool
  | [] => pure true
  | f :: fs =>
    if f.1 ≠ "_" then do
      let a ← part f.2.1 xs f.2.2
      let b ← part f.2.1 ys f.2.2
      let r ← Op.equalIn d f.2.1 a b
      if (!r) = true then pure false else eqSI d xs ys fs
    else eqSI d xs ys fs
theorem eqSI_of (d : Nat) (xs ys : Array Value) : ∀ fs : List Field, Op.eqFields d xs ys fs = eqSI d xs ys (fs.map (fun f => (f.name, f.type, f.offset)))
  | [] => rfl
  | f :: fs => by rw [List.map_cons, Op.eqFields, eqSI, eqSI_of d xs ys fs]
theorem eqImV (d : Nat) (k v : ByteArray) (n : Int) (w : World) : (Op.equalIn (d + 2) 76 (.agg #[.string k, .string v, .int .i64 n]) (.agg #[.string k, .string v, .int .i64 n])).run Tryd.prog w = .ok true w := by
  rw [run_equalIn_struct w (d + 1) 76 _ _ fieldsIm heldIm, eqSI_of, listIm]
  have pi := fun (xs : Array Value) i v h => part_oneI w 3 _ Tryd.underlying3 rfl xs i v h
  have ps := fun (xs : Array Value) i v h => part_oneI w 9 _ Tryd.underlying9 rfl xs i v h
  have ei := fun x y => run_equalIn_int w d 3 .i64 .i64 x y Tryd.underlying3
  have es := fun x y => run_equalIn_string w d 9 x y Tryd.underlying9
  have ne : ∀ s, s ∈ ["Key", "Val", "Ver"] → s ≠ "_" := by decide
  simp only [eqSI, ne "Key" (by simp), ne "Val" (by simp), ne "Ver" (by simp), ne_eq, not_false_eq_true, if_true, Sem.run_bind]
  rw [ps _ 0 (.string k) rfl, Result.andThen_ok, ps _ 0 (.string k) rfl, Result.andThen_ok, es, Result.andThen_ok]
  rw [show (k.toList == k.toList) = true by simp, if_neg (by simp), Sem.run_bind, ps _ 1 (.string v) rfl, Result.andThen_ok, Sem.run_bind, ps _ 1 (.string v) rfl, Result.andThen_ok, Sem.run_bind, es, Result.andThen_ok]
  rw [show (v.toList == v.toList) = true by simp, if_neg (by simp), Sem.run_bind, pi _ 2 (.int .i64 n) rfl, Result.andThen_ok, Sem.run_bind, pi _ 2 (.int .i64 n) rfl, Result.andThen_ok, Sem.run_bind, ei, Result.andThen_ok]
  rw [show (n == n) = true by simp, if_neg (by simp)]
  rfl
end Go.Proofs.YtelmchifpgaibaaDoor
namespace Go.Proofs.YtelmchifpgaibaaDoor
open Go.RowKit
set_option linter.unusedVariables false

theorem tx_ne {a b : ByteArray} (h : ¬ a = b) : (a.toList == b.toList) = false := by
  rw [beq_eq_false_iff_ne]
  exact fun e => h (tx_inj e)
theorem eqIm_dec (d : Nat) (x y : Im) (w : World) : (Op.equalIn (d + 2) 76 (.agg #[.string x.k, .string x.v, .int .i64 x.n]) (.agg #[.string y.k, .string y.v, .int .i64 y.n])).run Tryd.prog w = .ok (decide (x = y)) w := by
  have pi := fun (xs : Array Value) i v h => part_oneI w 3 _ Tryd.underlying3 rfl xs i v h
  have ps := fun (xs : Array Value) i v h => part_oneI w 9 _ Tryd.underlying9 rfl xs i v h
  have ei := fun x y => run_equalIn_int w d 3 .i64 .i64 x y Tryd.underlying3
  have es := fun x y => run_equalIn_string w d 9 x y Tryd.underlying9
  have ne : ∀ s, s ∈ ["Key", "Val", "Ver"] → s ≠ "_" := by decide
  rw [run_equalIn_struct w (d + 1) 76 _ _ fieldsIm heldIm, eqSI_of, listIm]
  simp only [eqSI, ne "Key" (by simp), ne "Val" (by simp), ne "Ver" (by simp), ne_eq, not_false_eq_true, if_true, Sem.run_bind]
  rw [ps _ 0 (.string x.k) rfl, Result.andThen_ok, ps _ 0 (.string y.k) rfl, Result.andThen_ok, es, Result.andThen_ok]
  by_cases h0 : x.k = y.k
  · rw [show (x.k.toList == y.k.toList) = true by rw [h0]; simp, if_neg (by simp), Sem.run_bind, ps _ 1 (.string x.v) rfl, Result.andThen_ok, Sem.run_bind, ps _ 1 (.string y.v) rfl, Result.andThen_ok, Sem.run_bind, es, Result.andThen_ok]
    by_cases h1 : x.v = y.v
    · rw [show (x.v.toList == y.v.toList) = true by rw [h1]; simp, if_neg (by simp), Sem.run_bind, pi _ 2 (.int .i64 x.n) rfl, Result.andThen_ok, Sem.run_bind, pi _ 2 (.int .i64 y.n) rfl, Result.andThen_ok, Sem.run_bind, ei, Result.andThen_ok]
      by_cases h2 : x.n = y.n
      · rw [show (x.n == y.n) = true by simp [h2], if_neg (by simp), decide_eq_true (show x = y by cases x; cases y; simp_all)]
        rfl
      · rw [show (x.n == y.n) = false by simp [h2], if_pos (by simp), decide_eq_false (fun e : x = y => h2 (by rw [e]))]
        rfl
    · rw [tx_ne h1, if_pos (by simp), decide_eq_false (fun e : x = y => h1 (by rw [e]))]
      rfl
  · rw [tx_ne h0, if_pos (by simp), decide_eq_false (fun e : x = y => h0 (by rw [e]))]
    rfl
end Go.Proofs.YtelmchifpgaibaaDoor
namespace Go.Proofs.YtelmchifpgaibaaDoor
open Go.RowKit
set_option linter.unusedVariables false

def idTo (l : List Int) (i : Nat) : Prop := ∀ j (h : j < l.length), j < i → (1 ≤ l[j] ∧ l[j] ≤ 6) ∧ ∀ m (hm : m < l.length), m + 1 = j → l[m] < l[j]
theorem idTo_next {l : List Int} {i : Nat} (h : idTo l i) (hi : i < l.length) (h1 : 1 ≤ l[i] ∧ l[i] ≤ 6) (h2 : ∀ m (hm : m < l.length), m + 1 = i → l[m] < l[i]) : idTo l (i + 1) := fun j hj hlt => by
  by_cases c : j < i
  · exact h j hj c
  · have : j = i := (by omega)
    subst this
    exact ⟨h1, h2⟩
theorem asc_of {l : List Int} (h : ∀ i (hi : i + 1 < l.length), l[i] < l[i + 1]) : l.Pairwise (· < ·) := by
  rw [List.pairwise_iff_getElem]
  have key : ∀ d i (hj : i + d + 1 < l.length), l[i]'(by omega) < l[i + d + 1] := by
    intro d
    induction d with
    | zero => intro i hj; exact h i hj
    | succ d ih => intro i hj; exact Int.lt_trans (ih i (by omega)) (h (i + d + 1) (by omega))
  intro i j hi hj hij
  obtain ⟨d, rfl⟩ : ∃ d, j = i + d + 1 := ⟨j - i - 1, by omega⟩
  exact key d i hj
theorem idTo_all {l : List Int} (h : idTo l l.length) : okIds l := by
  refine ⟨fun x hx => ?_, asc_of (fun i hi => (h (i + 1) hi hi).2 i (by omega) rfl)⟩
  obtain ⟨j, hj, rfl⟩ := List.getElem_of_mem hx
  exact (h j hj hj).1
theorem ids_no {l : List Int} {i : Nat} (hi : i < l.length) (h : ¬ (1 ≤ l[i] ∧ l[i] ≤ 6)) : decide (okIds l) = false := decide_eq_false (fun e => h (e.1 _ (List.getElem_mem hi)))
theorem ids_no2 {l : List Int} {i m : Nat} (hi : i < l.length) (hm : m < l.length) (e : m + 1 = i) (h : ¬ l[m] < l[i]) : decide (okIds l) = false := decide_eq_false (fun o => h ((List.pairwise_iff_getElem.1 o.2) m i hm hi (by omega)))
end Go.Proofs.YtelmchifpgaibaaDoor
