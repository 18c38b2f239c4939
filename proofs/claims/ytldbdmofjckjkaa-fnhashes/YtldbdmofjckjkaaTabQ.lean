/- A key sought in a table, by the model. -/
import Derived.Test.YtldbdmofjckjkaaTabK
namespace Go.Proofs.Ytldbdmofjckjkaa
open Go.RowKit

/-- The handle of a key, in cells or old ones. -/
def seekT (l o : List Ce) (key : ByteArray) : Option Int :=
  match seekC l key with
  | some k => (l[k]?).map (·.h)
  | none => match seekC o key with
    | some k => (o[k]?).map (·.h)
    | none => none
/-- What SeekKey answers. -/
def SeekA (l o : List Ce) (mv : Int) (key : ByteArray) (h : Int) (t : Bool) : Prop := (t = true ∧ OkT l o mv ∧ key.toList ≠ [] ∧ seekT l o key = some h) ∨ (t = false ∧ h = 0 ∧ ¬ (OkT l o mv ∧ key.toList ≠ [] ∧ ∃ x, seekT l o key = some x))
theorem SeekA.det {l o : List Ce} {mv : Int} {key : ByteArray} {h h' : Int} {t t' : Bool} (x : SeekA l o mv key h t) (y : SeekA l o mv key h' t') : h = h' ∧ t = t' := by
  rcases x with ⟨rfl, x1, x2, x3⟩ | ⟨rfl, rfl, x1⟩ <;> rcases y with ⟨rfl, y1, y2, y3⟩ | ⟨rfl, rfl, y1⟩
  · rw [x3] at y3; injection y3 with y3; exact ⟨y3, rfl⟩
  · exact absurd ⟨x1, x2, h, x3⟩ y1
  · exact absurd ⟨y1, y2, h', y3⟩ x1
  · exact ⟨rfl, rfl⟩

set_option maxRecDepth 100000 in
set_option maxHeartbeats 1000000 in
theorem specSeekKey_any (ao a' : Option Addr) (l o : List Ce) (ca ca' : Nat) (mv : Int) (key : ByteArray) (w : World) (hl : l.length ≤ 1048576) (hl' : o.length ≤ 1048576) (hk : key.size ≤ 1048576) (hA : RdC w ao l) (hA' : RdC w a' o) :
    Calls Try.prog 19 #[tbV ao l.length ca a' o.length ca' mv, .string key] w fun e w' => ∃ (h : Int) (t : Bool), e = .returned (.tuple #[.int .i64 h, .bool t]) ∧ SeekA l o mv key h t ∧ Below w.heap.size w w' := by
  have CT := hide1 (fun w' (hb : Below w.heap.size w w') => specTOk_any ao a' l o ca ca' mv w' hl hl' (hA.later hb) (hA'.later hb))
  have C1 := hide1 (fun w' (hb : Below w.heap.size w w') => specSeek_any ao l ca key w' hl hk (hA.later hb))
  have C2 := hide1 (fun w' (hb : Below w.heap.size w w') => specSeek_any a' o ca' key w' hl' hk (hA'.later hb))
  have HA := hide1 hA
  have HA' := hide1 hA'
  have F0 : Hid (Blk (w.alloc (.cells #[.slice ao l.length ca, .slice a' o.length ca', .int .i64 mv] 29)) w.heap.size 29 [.slice ao l.length ca, .slice a' o.length ca', .int .i64 mv] ∧ Below w.heap.size w (w.alloc (.cells #[.slice ao l.length ca, .slice a' o.length ca', .int .i64 mv] 29))) := ⟨Blk.new w _ _, (Below.refl _ _).alloc (Nat.le_refl _) _⟩
  clear hA hA'
  unfold tbV at CT ⊢
  go_enter Try.func19, Try.ntmps19
  go_wp2_with fail
  generalize (w.alloc (.cells #[.slice ao l.length ca, .slice a' o.length ca', .int .i64 mv] 29)) = w0 at F0 ⊢
  obtain ⟨K0, B0⟩ := F0.out
  have K0 := hide1 K0
  have B0 := hide1 B0
  clear F0
  refine (CT.out w0 B0.out).mono ?_
  rintro e w1 ⟨x, rfl, hx, hb1⟩
  have HX := hide1 hx
  have K1 := hide1 (K0.out.below hb1 K0.out.lt)
  have B1 := hide1 (B0.out.trans (hb1.mono B0.out.size))
  have u0 : w1.cell? ⟨w.heap.size, 0, none⟩ = some (.slice ao l.length ca) := K1.out.cell 0
  clear hx hb1 K0 B0
  rcases x with _ | _
  · have HN := hide1 (show SeekA l o mv key 0 false from .inr ⟨rfl, rfl, fun h => by have := HX.out.2 h.1; cases this⟩)
    clear HX
    go_wp2
    go_ret2
    exact ⟨0, false, rfl, HN.out, B1.out⟩
  · have HOK := hide1 (HX.out.1 rfl)
    clear HX
    by_cases d1 : key.toList = []
    · have b1 : key.toList.isEmpty = true := by rw [d1]; rfl
      have HN := hide1 (show SeekA l o mv key 0 false from .inr ⟨rfl, rfl, fun h => h.2.1 d1⟩)
      go_wp2
      go_ret2
      exact ⟨0, false, rfl, HN.out, B1.out⟩
    · have b1 : key.toList.isEmpty = false := by cases h : key.toList with | nil => exact absurd h d1 | cons a b => rfl
      have HD := hide1 d1
      go_wp2_with fail
      refine (C1.out w1 B1.out).mono ?_
      rintro e w2 ⟨rfl, hb2⟩
      have K2 := hide1 (K1.out.below hb2 K1.out.lt)
      have B2 := hide1 (B1.out.trans (hb2.mono B1.out.size))
      have v0 : w2.cell? ⟨w.heap.size, 0, none⟩ = some (.slice ao l.length ca) := K2.out.cell 0
      have v1 : w2.cell? ⟨w.heap.size, 1, none⟩ = some (.slice a' o.length ca') := K2.out.cell 1
      clear hb2 K1 B1 u0 b1 d1
      rcases hq : seekC l key with _ | k
      · unfold optI
        have HQ := hide1 hq
        clear hq
        go_wp2_with fail
        refine (C2.out w2 B2.out).mono ?_
        rintro e w3 ⟨rfl, hb3⟩
        have K3 := hide1 (K2.out.below hb3 K2.out.lt)
        have B3 := hide1 (B2.out.trans (hb3.mono B2.out.size))
        have t1 : w3.cell? ⟨w.heap.size, 1, none⟩ = some (.slice a' o.length ca') := K3.out.cell 1
        clear hb3 v0 v1
        rcases hq2 : seekC o key with _ | k
        · have HN := hide1 (show SeekA l o mv key 0 false from .inr ⟨rfl, rfl, fun h => by obtain ⟨x, hx⟩ := h.2.2; rw [seekT, HQ.out] at hx; simp only [hq2] at hx; cases hx⟩)
          unfold optI
          clear hq2
          go_wp2
          go_ret2
          exact ⟨0, false, rfl, HN.out, B3.out⟩
        · have hkl : k < o.length := seekD_lt _ _ _ hq2
          have k1 : (k : Int) < (o.length : Int) := by omega
          obtain ⟨g, hao, hg, h1⟩ := (HA'.out.later B3.out).at k hkl
          have x1 := h1.2
          have HN := hide1 (show SeekA l o mv key o[k].h true from .inl ⟨rfl, HOK.out, HD.out, by rw [seekT, HQ.out]; simp only [hq2]; rw [List.getElem?_eq_getElem hkl]; rfl⟩)
          rw [hao] at t1
          generalize o[k].h = hv at *
          have q : decide ((0 : Int) ≤ (k : Int)) = true := by simp
          unfold optI
          clear hq2 hao h1
          go_wp2
          go_ret2
          exact ⟨hv, true, rfl, HN.out, B3.out⟩
      · have hkl : k < l.length := seekD_lt _ _ _ hq
        have k1 : (k : Int) < (l.length : Int) := by omega
        obtain ⟨g, hao, hg, h1⟩ := (HA.out.later B2.out).at k hkl
        have x1 := h1.2
        have HN := hide1 (show SeekA l o mv key l[k].h true from .inl ⟨rfl, HOK.out, HD.out, by rw [seekT, hq]; simp only []; rw [List.getElem?_eq_getElem hkl]; rfl⟩)
        rw [hao] at v0
        generalize l[k].h = hv at *
        have q : decide ((0 : Int) ≤ (k : Int)) = true := by simp
        unfold optI
        clear hq hao h1
        go_wp2
        go_ret2
        exact ⟨hv, true, rfl, HN.out, B2.out⟩
end Go.Proofs.Ytldbdmofjckjkaa
