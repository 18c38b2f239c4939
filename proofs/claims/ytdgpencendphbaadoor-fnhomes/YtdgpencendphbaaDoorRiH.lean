/- Rings, by the program: the first spot for a key, its home. -/
import Derived.Test.YtdgpencendphbaaDoorRiS
import Derived.Test.YtdgpencendphbaaDoorHashI
namespace Go.Proofs.YtdgpencendphbaaDoor
open Go.RowKit
set_option linter.unusedVariables false

set_option maxRecDepth 100000 in
set_option maxHeartbeats 1000000 in
theorem implPlace_any (ao : Option Addr) (l : List Sp) (ca : Nat) (k : ByteArray) (w : World) (hl : l.length ≤ 1048576) (hk : k.size ≤ 1048576) (hA : RdP w ao l) :
    Calls Tryd.prog 44 #[.slice ao l.length ca, .string k] w fun e w' => e = .returned (.int .i64 (fromS l (hashN k 0 : Int) : Int)) ∧ Below w.heap.size w w' := by
  have CH := hide1 (fun w' => implHash_any k 0 w' hk (by omega) (by omega))
  obtain ⟨h, hh⟩ : ∃ h, hashN k 0 = h := ⟨_, rfl⟩
  rw [hh] at CH ⊢
  clear hh
  have HR := hide1 hA
  clear hA
  go_enter Tryd.func44, Tryd.ntmps44
  go_wp2_with fail
  refine (CH.out w).mono ?_
  rintro e w1 ⟨rfl, rfl⟩
  clear CH
  go_wp2
  go_loopw [12] (fun iv wr => ∃ i : Nat, i ≤ l.length ∧ iv = .int .i64 (i : Int) ∧ Hid (∀ j (hj : j < i) (hl : j < l.length), ¬ (h : Int) ≤ l[j].1) ∧ Below w.heap.size w wr) (fun iv _ => l.length - (intOf iv).toNat)
  case atStart => exact ⟨0, by omega, rfl, fun j hj _ => by omega, Below.refl _ _⟩
  case round =>
    obtain ⟨i, hi, rfl, hn, hbel⟩ := hrel
    have hbs := hbel.size
    by_cases hlt : i < l.length
    · have k1 : (i : Int) < (l.length : Int) := by omega
      obtain ⟨g, rfl, hg, x1, x2⟩ := (HR.out.later hbel).at i hlt
      have HI := hide1 hlt
      by_cases c : (h : Int) ≤ l[i].1
      · have HF := hide1 (fromS_hit hlt c (fun j hj => hn.out j hj (by omega)))
        generalize l[i].1 = z at *
        generalize l[i].2 = z2 at *
        go_wp2
        go_ret
        exact ⟨by rw [HF.out]; rfl, by go_grown⟩
      · have HC := hide1 c
        obtain ⟨z, hz, y1⟩ : ∃ z, (¬ (h : Int) ≤ z) ∧ wr.cell? ⟨g, i * 2, none⟩ = some (.int .i64 z) := ⟨_, c, x1⟩
        generalize l[i].2 = z2 at *
        clear x1 c
        go_wp2
        go_roundw
        case rel =>
          refine ⟨i + 1, by omega, by go_num, fun j hj hjl => ?_, by go_grown⟩
          by_cases e : j < i
          · exact hn.out j e hjl
          · obtain rfl : j = i := by omega
            exact HC.out
        case measure => simp [intOf]; omega
    · have HF := hide1 (fromS_none (l := l) (n := (h : Int)) (fun s hs => by
        obtain ⟨j, hj, rfl⟩ := List.getElem_of_mem hs
        exact hn.out j (by omega) hj))
      go_wp2
      go_ret
      exact ⟨by rw [HF.out]; rfl, hbel⟩

set_option maxRecDepth 100000 in
set_option maxHeartbeats 1000000 in
theorem implHome_any (ao : Option Addr) (l : List Sp) (ca : Nat) (k : ByteArray) (w : World) (hl : l.length ≤ 1048576) (hk : k.size ≤ 1048576) (hA : RdP w ao l) :
    Calls Tryd.prog 15 #[riV ao l.length ca, .string k] w fun e w' => e = .returned (.int .i64 (homeS l (hashN k 0 : Int))) ∧ Below w.heap.size w w' := by
  have F0 := hide1 (And.intro (Blk.new w 28 #[.slice ao l.length ca]) ((Below.refl w.heap.size w).alloc (Nat.le_refl _) (.cells #[.slice ao l.length ca] 28)))
  by_cases h0 : l = []
  · subst h0
    have e : homeS [] (hashN k 0 : Int) = 0 := rfl
    rw [e]
    unfold riV
    go_enter Tryd.func15, Tryd.ntmps15
    go_wp2
    go_ret
    exact ⟨rfl, F0.out.2⟩
  · have HL := hide1 (homeS_at h0 (hashN k 0 : Int))
    have hlt := fromS_lt h0 (hashN k 0 : Int)
    have CF := hide1 (fun w' (hb : Below w.heap.size w w') => implPlace_any ao l ca k w' hl hk (hA.later hb))
    obtain ⟨g, rfl, hg, -, x1⟩ := hA.at _ hlt
    generalize homeS l (hashN k 0 : Int) = R at *
    have HR := hide1 (show w.cell? ⟨g, fromS l (hashN k 0 : Int) * 2 + 1, none⟩ = some (.int .i64 R) by rw [HL.out]; exact x1)
    clear HL x1
    generalize fromS l (hashN k 0 : Int) = q at *
    have hq : (q : Int) < (l.length : Int) := by omega
    have hn : ((l.length : Int) == 0) = false := by
      have : l.length ≠ 0 := fun e => h0 (List.eq_nil_of_length_eq_zero e)
      simp; omega
    clear hA h0
    unfold riV
    go_enter Tryd.func15, Tryd.ntmps15
    go_wp2_with fail
    generalize (w.alloc (.cells #[.slice (some ⟨g, 0, none⟩) l.length ca] 28)) = w0 at F0 ⊢
    have x0 : w0.cell? ⟨w.heap.size, 0, none⟩ = some (.slice (some ⟨g, 0, none⟩) l.length ca) := F0.out.1.cell 0
    have hw0 := F0.out.1.lt
    have X0 := hide1 x0
    have x1 := (F0.out.2.cell (p := ⟨g, q * 2 + 1, none⟩) hg).trans HR.out
    go_wp2_with fail
    go_region_held3 (fun w' => w'.cell? ⟨w.heap.size, 0, none⟩ = some (.slice (some ⟨g, 0, none⟩) l.length ca) ∧ w'.cell? ⟨g, q * 2 + 1, none⟩ = some (.int .i64 R)) (first | go_keep | exact ⟨(b1.out.cell (p := ⟨w.heap.size, 0, none⟩) hw0).trans X0.out, (F1.out.cell (p := ⟨g, q * 2 + 1, none⟩) hg).trans HR.out⟩ | exact ⟨x0, (F0.out.2.cell (p := ⟨g, q * 2 + 1, none⟩) hg).trans HR.out⟩) ((go_at_call 44; refine (CF.out _ (F0.out.2.trans (show Below w.heap.size w0 _ by go_grown))).mono ?_; rintro e w1 ⟨rfl, hb1⟩; have b1 : Hid (Below w0.heap.size w0 w1) := (show Below w0.heap.size w0 _ by go_grown).trans (hb1.mono (by go_size)); have F1 := hide1 (F0.out.2.trans (b1.out.mono F0.out.2.size)); clear hb1))
    go_wp2
    go_ret
    exact ⟨rfl, F1.out⟩
end Go.Proofs.YtdgpencendphbaaDoor
