/- Rings, by the program: the nodes of a ring; plain: when a ring is right. -/
import Derived.Test.YtdgpencendphbaaDoorRiN
import Derived.Test.YtdgpencendphbaaDoorRiZa
import Derived.Test.YtdgpencendphbaaDoorSetK
namespace Go.Proofs.YtdgpencendphbaaDoor
open Go.RowKit Go.Maps Go.Sort Go.Shelf
set_option linter.unusedVariables false

theorem sortsA (m : Nat) : AnyZI.SortsIn Tryd.prog sortedA_ren Fence.wide m :=
  ⟨fun blk off cap ss W hH hblk hsz => callsIn_wide.2 (AnyM.slices_Sort_int sortA blk off cap ss W hH hblk hsz),
   fun p cap W => callsIn_wide.2 (AnyM.slices_Sort_int_none sortA p cap W)⟩
theorem mapsKeys_any (mb : Option Nat) (W : World) : Calls Tryd.prog 40 #[.map mb] W fun e w' => e = .returned (.func (.func 65) #[] #[.pointer (some ⟨W.heap.size, 0, none⟩)]) ∧ w' = W.alloc (.cells #[.map mb] 66) :=
  (callsIn_wide (n := 5)).1 (AnyZI.keys_in keysA Fence.wide 5 trivial rfl mb W)

set_option maxHeartbeats 1000000 in
theorem sortedKeys_any {H : Type} (b nn : Nat) (D0 : DataW H) (R : Value → Option (DataW H × List MemPlace)) (w : World) (hown : w.ownsMap Tryd.prog 3 R b nn D0) (hmax : Maps.size D0 ≤ maxLen) (hbytes : Maps.size D0 * 8 ≤ 140737488355328) :
    Calls Tryd.prog 39 #[.func (.func 65) #[] #[.pointer (some ⟨w.heap.size, 0, none⟩)]] (w.alloc (.cells #[.map (some b)] 66)) fun e w' => ∃ (v : Value) (ss : List Int), e = .returned v ∧ ss.Perm (intKeys D0) ∧
      w'.ownsRow (w.alloc (.cells #[.map (some b)] 66)).heap.size 3 1 v ss.length ((ss.mergeSort (fun x y => decide (x ≤ y))).map encZ) ∧ (v = .slice none 0 0 ↔ ss = []) ∧ Below (w.alloc (.cells #[.map (some b)] 66)).heap.size (w.alloc (.cells #[.map (some b)] 66)) w' := by
  refine (callsIn_wide (n := 5)).1 ?_
  have hbl := hown.lt
  have hseq : SeqGives Fence.wide 2 Tryd.prog 65 #[.pointer (some ⟨w.heap.size, 0, none⟩)] encZ (fun ss => ss.Perm (intKeys D0)) (Maps.size D0) (w.alloc (.cells #[.map (some b)] 66)) :=
    AnyZI.keys_gives (ρ := keysA_ren) { keysA with } Fence.wide _ trivial rfl (by omega) w.heap.size b nn D0 _ (by simp) (by simp) (by
      obtain ⟨es, clock, hb, Ft, hs, hD⟩ := hown
      exact ⟨es, clock, (Below.heap_alloc _ _ b hbl).trans hb, Ft, hs, hD⟩)
  exact AnyZI.sorted_in sortedA Fence.wide 5 trivial trivial trivial trivial rfl (by omega) (sortsA _) (enters_of Tryd.func64 (by kernel_rfl) rfl) 65 #[.pointer (some ⟨w.heap.size, 0, none⟩)] trivial (enters_of Tryd.func65 (by kernel_rfl) rfl) _ _ hmax hbytes _ hseq

/-- The nodes of a ring, ascending. -/
def nodesZ (l : List Sp) : List Int := (nodesV l).mergeSort leI
theorem SetD.perm {w : World} {b n : Nat} {D : DataW Unit} {S : List Int} (h : SetD D S) (hown : w.ownsMap Tryd.prog 3 unitElem b n D) : S.Perm (intKeys D) := by
  obtain ⟨es, e1, hk⟩ := hown.keysOf
  obtain ⟨es', e2, hp⟩ := h.tidy
  have e3 : es' = es := by rw [e1] at e2; injection e2 with e2; exact e2.symm
  subst e3
  have hh : ∀ z : Int, Maps.has D (.int .i64 z) = decide (z ∈ S) := h.has
  rw [e1] at hh ⊢
  refine perm_intKeys hp (fun p hp' => ?_) h.nd (fun x => ?_)
  · obtain ⟨v, hv⟩ := hk p hp'
    obtain ⟨x, _, hx, _⟩ := Maps.keyOf_i64 Tryd.underlying3 hv
    exact ⟨x, hx⟩
  · rw [hh x]
    simp
theorem nodesZ_mem {l : List Sp} {z : Int} : z ∈ nodesZ l ↔ ∃ s ∈ l, s.2 = z := by
  unfold nodesZ
  rw [(List.mergeSort_perm _ _).mem_iff, nodesV_mem]
theorem nodesV_nodup (l : List Sp) : (nodesV l).Nodup := by
  unfold nodesV
  have e : l.length = (l.map (·.2)).length := by simp
  rw [e, homesI_all]
  exact once_nodup
theorem nodesZ_asc (l : List Sp) : (nodesZ l).Pairwise (· < ·) := by
  have tr : ∀ a b c : Int, leI a b = true → leI b c = true → leI a c = true := fun a b c h1 h2 => by simp only [leI, decide_eq_true_eq] at *; exact Int.le_trans h1 h2
  have tot : ∀ a b : Int, (leI a b || leI b a) = true := fun a b => by simp only [leI, Bool.or_eq_true, decide_eq_true_eq]; exact Int.le_total a b
  have h1 := List.pairwise_mergeSort tr tot (nodesV l)
  have h2 : (nodesZ l).Nodup := (List.mergeSort_perm (nodesV l) leI).nodup_iff.2 (nodesV_nodup l)
  unfold nodesZ at h2 ⊢
  unfold List.Nodup at h2
  exact (h1.and h2).imp (fun {a b} h => by
    have h3 : a ≤ b := by simpa [leI] using h.1
    have h4 : a ≠ b := h.2
    omega)
theorem nodesZ_length (l : List Sp) : (nodesZ l).length ≤ l.length := by
  unfold nodesZ
  rw [List.length_mergeSort]
  exact nodesV_length l
/-- Nodes that a ring takes ascend. -/
theorem okNds.asc {L : List Int} (h : okNds L) : L.Pairwise (· < ·) := by
  have step : ∀ i j, ∀ (hij : i < j) (hj : j < L.length), L[i]'(by omega) < L[j] := by
    intro i j
    induction j with
    | zero => intro hij; omega
    | succ j ih =>
      intro hij hj
      have h1 := (h.2 (j + 1) hj hj).2 (by omega)
      simp only [Nat.add_sub_cancel] at h1
      rcases Nat.lt_or_ge i j with e | e
      · exact Int.lt_trans (ih e (by omega)) h1
      · obtain rfl : i = j := by omega
        exact h1
  rw [List.pairwise_iff_getElem]
  intro i j hi hj hij
  exact step i j hij hj
theorem okNds.rng {L : List Int} (h : okNds L) : ∀ v ∈ L, 1 ≤ v ∧ v ≤ 9 := by
  intro v hv
  obtain ⟨i, hi, rfl⟩ := List.getElem_of_mem hv
  exact (h.2 i hi hi).1
theorem okNds_of {L : List Int} (h1 : 1 ≤ L.length ∧ L.length ≤ 6) (h2 : L.Pairwise (· < ·)) (h3 : ∀ v ∈ L, 1 ≤ v ∧ v ≤ 9) : okNds L := by
  refine ⟨h1, fun i hi hi' => ⟨h3 _ (List.getElem_mem hi), fun h0 => ?_⟩⟩
  rw [List.pairwise_iff_getElem] at h2
  exact h2 (i - 1) i (by omega) hi (by omega)
theorem nodesZ_ring {nodes : List Int} (h : okNds nodes) : nodesZ (ringL spotF nodes) = nodes :=
  asc_ext _ _ (nodesZ_asc _) h.asc (fun x => by rw [nodesZ_mem, ringL_node])
theorem RingA.small {L : List Int} {R : List Sp} {t : Bool} (h : RingA L R t) : R.length ≤ 24 := by
  rcases h with ⟨h1, rfl, _⟩ | ⟨_, rfl, _⟩
  · have := h1.1.2
    rw [ringL_len]
    omega
  · exact Nat.zero_le _
/-- A ring is right. -/
def okRing (l : List Sp) : Prop := ∃ nodes, okNds nodes ∧ l = ringL spotF nodes
theorem okRing_Z {l R : List Sp} {t : Bool} (h : RingA (nodesZ l) R t) : (t = true ∧ l = R) ↔ okRing l := by
  constructor
  · rintro ⟨rfl, rfl⟩
    rcases h with ⟨h1, h2, _⟩ | ⟨_, _, h3⟩
    · exact ⟨_, h1, h2⟩
    · cases h3
  · rintro ⟨nodes, hn, rfl⟩
    rw [nodesZ_ring hn] at h
    rcases h with ⟨_, h2, h3⟩ | ⟨h1, _⟩
    · exact ⟨h3, h2.symm⟩
    · exact absurd hn h1
theorem okRing_L {l R : List Sp} {t : Bool} (h : RingA (nodesL l) R t) : (t = true ∧ l = R) ↔ okRing l := by
  constructor
  · rintro ⟨rfl, rfl⟩
    rcases h with ⟨h1, h2, _⟩ | ⟨_, _, h3⟩
    · exact ⟨_, h1, h2⟩
    · cases h3
  · rintro ⟨nodes, hn, rfl⟩
    rw [nodesL_ring spotF hn.asc hn.rng] at h
    rcases h with ⟨_, h2, h3⟩ | ⟨h1, _⟩
    · exact ⟨h3, h2.symm⟩
    · exact absurd hn h1

set_option maxRecDepth 100000 in
set_option maxHeartbeats 1000000 in
theorem implNodes_any (ao : Option Addr) (l : List Sp) (ca : Nat) (w : World) (hl : l.length ≤ 1048576) (hA : RdP w ao l) (hw : WfN l) :
    Calls Tryd.prog 13 #[riV ao l.length ca] w fun e w' => MadeH w w' e (nodesZ l) := by
  have F0 := hide1 (And.intro (Blk.new w 28 #[.slice ao l.length ca]) ((Below.refl w.heap.size w).alloc (Nat.le_refl _) (.cells #[.slice ao l.length ca] 28)))
  have CN := hide1 (fun w' (hb : Below w.heap.size w w') => nodesOn_any ao l ca w' hl (hA.later hb) hw)
  clear hA hw
  unfold riV
  go_enter Tryd.func13, Tryd.ntmps13
  go_wp2_with fail
  generalize (w.alloc (.cells #[.slice ao l.length ca] 28)) = w0 at F0 ⊢
  have B0 := hide1 F0.out.2
  refine (CN.out w0 F0.out.2).mono ?_
  rintro e w1 ⟨bm, rfl, hbm, hM, hb1⟩
  have B1 := hide1 (B0.out.trans (hb1.mono B0.out.size))
  obtain ⟨D, hD, hS⟩ := hM
  have hsz : Maps.size D ≤ 1048576 := by
    rw [hS.size]
    exact Nat.le_trans (nodesV_length l) hl
  have HP := hide1 (hS.perm hD)
  have CS := hide1 (sortedKeys_any bm l.length D unitElem w1 hD (by unfold maxLen; omega) (by omega))
  have CK := hide1 (mapsKeys_any (some bm) w1)
  clear hb1 hD hS F0 CN B0
  go_wp2_with fail
  refine CK.out.mono ?_
  rintro e w2 ⟨rfl, rfl⟩
  clear CK
  go_wp2_with fail
  refine CS.out.mono ?_
  rintro e w3 ⟨v, ss, rfl, hp, ho, hn, hb⟩
  have hz : ss.mergeSort (fun x y => decide (x ≤ y)) = nodesZ l := mergeSort_of_perm_i (hp.trans HP.out.symm)
  have hlen : ss.length = (nodesZ l).length := by rw [← hz, List.length_mergeSort]
  rw [hz, hlen] at ho
  obtain ⟨vo, vc, rfl⟩ := own_slice ho
  have O3 := hide1 (own_base (base := w.heap.size) ho (by have := B1.out.size; rw [World.size_alloc]; omega))
  have B3 := hide1 (B1.out.trans ((((Below.refl w1.heap.size w1).alloc (Nat.le_refl _) (.cells #[.map (some bm)] 66)).trans (hb.mono (by rw [World.size_alloc]; omega))).mono B1.out.size))
  clear ho hb hp hn CS hz hlen
  go_wp2
  go_ret
  exact ⟨_, _, rfl, O3.out, B3.out⟩
end Go.Proofs.YtdgpencendphbaaDoor
