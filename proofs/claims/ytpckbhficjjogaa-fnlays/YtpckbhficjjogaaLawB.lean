/- Variables that hold places; what becomes of a slot that is laid, lifted and laid again; plain. -/
import Derived.Test.YtpckbhficjjogaaLawA
namespace Go.Proofs.Ytpckbhficjjogaa
open Go.RowKit

theorem upGen_ne (g : Int) : upGen g ≠ g := by unfold upGen; split <;> omega
theorem lifted_none {l : List Sl} {f F h : Int} {k : Nat} (hk : k < l.length) (hat : AtA l f h k) : ∀ j, ¬ AtA (l.set k (lifted l[k] f)) F h j := by
  intro j hj
  have h1 := hj.place
  have h2 := hat.place
  obtain rfl : j = k := by omega
  have := hj.used
  rw [List.getElem_set_self] at this
  simp [lifted] at this
/-- A variable that holds a place, in a block; what it reads as. -/
structure Var (w : World) (A b c : Nat) (l : List Sl) (f : Int) : Prop where
  rd : RdA w (some ⟨b, 0, none⟩) l
  blk : Blk w A 26 [.slice (some ⟨b, 0, none⟩) l.length c, .int .i64 f]
theorem Var.later {w w' : World} {A b c : Nat} {l : List Sl} {f : Int} (h : Var w A b c l f) (hb : Below w.heap.size w w') : Var w' A b c l f := ⟨h.rd.later hb, h.blk.below hb h.blk.lt⟩
theorem Var.v0 {w : World} {A b c : Nat} {l : List Sl} {f : Int} (h : Var w A b c l f) : w.cell? ⟨A, 0, none⟩ = some (.slice (some ⟨b, 0, none⟩) l.length c) := h.blk.cell 0
theorem Var.v1 {w : World} {A b c : Nat} {l : List Sl} {f : Int} (h : Var w A b c l f) : w.cell? ⟨A, 1, none⟩ = some (.int .i64 f) := h.blk.cell 1
theorem Var.at {w : World} {A b c : Nat} {l : List Sl} {f : Int} (h : Var w A b c l f) (i : Nat) (hi : i < l.length) : slotAt w b i l[i] := by
  obtain ⟨b0, hb0, _, hsl⟩ := h.rd.at i hi
  obtain rfl : b = b0 := by simpa using hb0
  exact hsl
/-- A new variable that is set to what a call made. -/
theorem Var.new {w : World} {base b c n : Nat} {l : List Sl} (f : Int) (hn : n = l.length) (h : w.ownsRow base 40 5 (.slice (some ⟨b, 0, none⟩) n c) n (sls l)) : Var (w.alloc (.cells #[.slice (some ⟨b, 0, none⟩) n c, .int .i64 f] 26)) w.heap.size b c l f := by
  subst hn
  exact ⟨rdA_of_own (own_kept h ((Below.refl _ _).alloc (Nat.le_refl _) _)), Blk.new w _ _⟩

/-- A slot is laid, lifted, laid again: handles, how many are used. -/
theorem laid_facts {l : List Sl} {k : Nat} (hok : OkA l (k : Int)) (hk : k < l.length) {ky vl : ByteArray} (hf : 1 ≤ ky.size ∧ ky.size ≤ 12 ∧ vl.size ≤ 20) {M1 M2 M3 : List Sl} {F1 : Int} (hF : F1 = l[k].next) (h1 : M1 = l.set k ⟨l[k].gen, true, ky, vl, 0⟩) (hk1 : k < M1.length) (h2 : M2 = M1.set k (lifted M1[k] F1)) (hk2 : k < M2.length) {k3 v3 : ByteArray} (h3f : 1 ≤ k3.size ∧ k3.size ≤ 12 ∧ v3.size ≤ 20) (h3 : M3 = M2.set k ⟨M2[k].gen, true, k3, v3, 0⟩) {F3 : Int} (hF3 : F3 = M2[k].next) :
    OkA M1 F1 ∧ AtA M1 F1 (hnd l k) k ∧ M1[k].key = ky ∧ M1[k].val = vl ∧ OkA M2 (k : Int) ∧ (∀ j, ¬ AtA M2 (k : Int) (hnd l k) j) ∧ OkA M3 F3 ∧ (∀ j, ¬ AtA M3 F3 (hnd l k) j) ∧ hnd M2 k ≠ hnd l k ∧ usedN l l.length < l.length ∧ usedN M1 l.length = usedN l l.length + 1 ∧ usedN M2 l.length = usedN l l.length := by
  have e1 : M1[k] = ⟨l[k].gen, true, ky, vl, 0⟩ := by simp [h1]
  have o1 : OkA M1 F1 := by rw [h1, hF]; exact hok.lay hk ky vl hf.1 hf.2.1 hf.2.2
  have n1 : M1.length = l.length := by rw [h1, List.length_set]
  have hh : hnd M1 k = hnd l k := by rw [hnd_at hk1, hnd_at hk, e1]
  have a1 : AtA M1 F1 (hnd l k) k := by rw [← hh]; exact o1.hnd_AtA hk1 (by rw [e1])
  have o2 : OkA M2 (k : Int) := by rw [h2]; exact o1.lift hk1 (by rw [e1])
  have e2 : M2[k] = lifted M1[k] F1 := by simp [h2]
  have n2 : M2.length = l.length := by rw [h2, List.length_set, n1]
  have x2 : ∀ j, ¬ AtA M2 (k : Int) (hnd l k) j := by rw [h2]; exact lifted_none hk1 a1
  have g2 : M2[k].gen = upGen l[k].gen := by rw [e2, e1]; rfl
  have o3 : OkA M3 F3 := by rw [h3, hF3]; exact o2.lay hk2 k3 v3 h3f.1 h3f.2.1 h3f.2.2
  have x3 : ∀ j, ¬ AtA M3 F3 (hnd l k) j := by
    intro j hj
    have p1 := hj.place
    have p2 := a1.place
    obtain rfl : j = k := by omega
    have p3 := hj.gen
    have p4 := a1.gen
    rw [← p4, e1] at p3
    have hj3 := hj.lt
    have p5 : M3[j].gen = M2[j].gen := by simp [h3]
    rw [p5, g2] at p3
    exact upGen_ne _ p3
  have x4 : hnd M2 k ≠ hnd l k := by
    rw [hnd_at hk2, hnd_at hk, g2]
    intro e
    exact upGen_ne l[k].gen (by omega)
  obtain ⟨V, hV, _⟩ := hok.chain
  match V, hV with
  | [], hV => have e : (k : Int) = -1 := hV; omega
  | p :: V, hV =>
    have hnd := hV.nodup
    have c0 := used_chain hok hV
    obtain ⟨e, hp, hc⟩ := hV
    obtain rfl : k = p := by omega
    have hkV : k ∉ V := (List.nodup_cons.1 hnd).1
    have c1 : Chain M1 F1 V := by rw [h1, hF]; exact hc.set k _ hkV
    have c2 : Chain M2 (k : Int) (k :: V) := by
      refine ⟨rfl, hk2, ?_⟩
      rw [e2]
      rw [h2]
      exact c1.set k _ hkV
    have u1 := used_chain o1 c1
    have u2 := used_chain o2 c2
    rw [n1] at u1
    rw [n2] at u2
    rw [List.length_cons] at c0 u2
    exact ⟨o1, a1, by rw [e1], by rw [e1], o2, x2, o3, x3, x4, by omega, by omega, by omega⟩
theorem full_used {l : List Sl} (hok : OkA l (-1)) : usedN l l.length = l.length := by
  obtain ⟨V, hV, _⟩ := hok.chain
  have c0 := used_chain hok hV
  match V, hV with
  | [], _ => simpa using c0
  | p :: V, hV => have e : (-1 : Int) = (p : Int) := hV.1; omega
end Go.Proofs.Ytpckbhficjjogaa
