/- What the laws on drawn places use: the draw, the test of bytes, and what the program answers at a right place. -/
import Derived.Test.YtpckbhficjjogaaDrawC
import Derived.Test.YtpckbhficjjogaaXRI
namespace Go.Proofs.Ytpckbhficjjogaa
open Go.RowKit

theorem big3_no (a : Option Addr) (len cap : Nat) (w : World) (h : len ≤ 1048576) : Calls Try.prog 13 #[.slice a len cap] w fun e w' => e = .returned (.bool false) ∧ w = w' := by
  have q : decide ((1048576 : Int) < (len : Int)) = false := by simp; omega
  go_enter Try.func13, Try.ntmps13
  go_wp2
  go_ret
  exact ⟨rfl, rfl⟩
theorem big3_yes (a : Option Addr) (len cap : Nat) (w : World) (h : ¬ len ≤ 1048576) : Calls Try.prog 13 #[.slice a len cap] w fun e w' => e = .returned (.bool true) ∧ w = w' := by
  have q : decide ((1048576 : Int) < (len : Int)) = true := by simp; omega
  go_enter Try.func13, Try.ntmps13
  go_wp2
  go_ret
  exact ⟨rfl, rfl⟩

set_option maxRecDepth 100000 in
set_option maxHeartbeats 1000000 in
theorem drawRight_any (w : World) (a : Option Addr) (len cap : Nat) (hc : Code w.heap.size w a len) :
    Calls Try.prog 14 #[.slice a len cap] w fun e w' => ∃ (b c : Nat) (l : List Sl) (f : Int) (ky vl : ByteArray), e = .returned (.tuple #[.agg #[.slice (some ⟨b, 0, none⟩) l.length c, .int .i64 f], .string ky, .string vl]) ∧ OkA l f ∧ (1 ≤ ky.size ∧ ky.size ≤ 12 ∧ vl.size ≤ 20) ∧ w'.ownsRow w.heap.size 40 5 (.slice (some ⟨b, 0, none⟩) l.length c) l.length (sls l) ∧ Below w.heap.size w w' := by
  have C1 := hide1 (fun o => new_any (w.alloc o) a len cap ⟨hc.le, fun j hj => by
    obtain ⟨b, o2, v, h1, h2, h3, h4⟩ := hc.cells j hj
    exact ⟨b, o2, v, h1, by rw [World.size_alloc]; omega, (World.cell?_alloc_lt w o ⟨b, o2 + j, none⟩ h2).trans h3, h4⟩⟩)
  clear hc
  go_enter Try.func14, Try.ntmps14
  go_wp2_with fail
  refine (C1.out _).mono ?_
  rintro e w1 ⟨g, rfl, hD1, hb1⟩
  have N1 : Hid (Blk w1 w.heap.size 26 [.slice none 0 0, .int .i64 0]) := Blk.below (Blk.new w 26 #[.slice none 0 0, .int .i64 0]) hb1 (by rw [World.size_alloc]; omega)
  have B1 := hide1 (below_box hb1)
  have hgN : Hid (w.heap.size < g) := by have := hD1.cur.1; rw [World.size_alloc] at this; show w.heap.size < g; omega
  have D1 := hide1 hD1
  have CA := hide1 (arenaD_any hD1)
  unfold arV at CA
  clear hb1 hD1 C1
  go_wp2_with fail
  refine CA.out.mono ?_
  rintro e w2 ⟨b, c, l, f, rfl, hok, hown, hD2, hg2⟩
  have CK := hide1 (key_any hD2)
  have HOK := hide1 hok
  have OW2 := hide1 hown
  have G2 := hide1 hg2
  have s12 : Hid (w.heap.size < w1.heap.size ∧ g < w1.heap.size) := ⟨N1.out.lt, D1.out.lt⟩
  clear hok hown hD2 hg2 CA
  go_wp2_with fail
  refine CK.out.mono ?_
  rintro e w3 ⟨ky, rfl, k1, k2, hD3, hg3⟩
  have CV := hide1 (val_any hD3)
  have G3 := hide1 (grow_trans G2.out hg3)
  have O3 := hide1 (own_grow OW2.out hg3 s12.out.2)
  clear hD3 hg3 CK OW2 G2
  go_wp2_with fail
  refine CV.out.mono ?_
  rintro e w4 ⟨vl, rfl, vz, hD4, hg4⟩
  have G4 := hide1 (grow_trans G3.out hg4)
  have O4 := hide1 (own_grow O3.out hg4 s12.out.2)
  have N4 : Hid (w4.heap[w.heap.size]? = some (.cells #[.slice none 0 0, .int .i64 0] 26 (0, 0))) := Blk.grow N1.out G4.out (Nat.ne_of_lt hgN.out)
  have y0 : w4.cell? ⟨w.heap.size, 0, none⟩ = some (.slice none 0 0) := by rw [cell_of_row w4 w.heap.size 0 _ _ _ N4.out]; rfl
  have y1 : w4.cell? ⟨w.heap.size, 1, none⟩ = some (.int .i64 0) := by rw [cell_of_row w4 w.heap.size 1 _ _ _ N4.out]; rfl
  have f0 : ∀ j, w4.frozen? ⟨w.heap.size, j, none⟩ = false := fun j => Blk.froz (show Blk w4 w.heap.size 26 [.slice none 0 0, .int .i64 0] from N4.out) j
  clear hD4 hg4 CV G3 O3
  go_wp2
  refine bodyPost_ret (results_row3 Try.results14 _ _ w.heap.size 26 #[.slice (some ⟨b, 0, none⟩) l.length c, .int .i64 f] (0, 0) _ rfl (heap2 N4.out _ _) Try.underlying26 rfl (by kernel_rfl)) rfl ?_
  have hlow : ∀ j, (Value.slice (some ⟨b, 0, none⟩) l.length c).ownBlock = some j → j ≠ w.heap.size := by
    intro j hj
    have := (O4.out.lt j hj).1
    have := s12.out.1
    omega
  refine ⟨b, c, l, f, ky, vl, rfl, HOK.out, ⟨k1, k2, vz⟩, own_base (own_far (own_far O4.out _ _ hlow) _ _ hlow) (by have := s12.out.1; omega), ?_⟩
  have B4 : Below w.heap.size w w4 := B1.out.trans (grow_below G4.out (Nat.le_of_lt hgN.out) (Nat.le_of_lt s12.out.1))
  exact (B4.setCell (p := ⟨w.heap.size, 0, none⟩) (Nat.le_refl _) _).setCell (p := ⟨w.heap.size, 1, none⟩) (Nat.le_refl _) _

/-- The handle of a slot. -/
def hnd (l : List Sl) (k : Nat) : Int := 24 * genAt l k + (k : Int)
theorem hnd_at {l : List Sl} {k : Nat} (hk : k < l.length) : hnd l k = 24 * l[k].gen + (k : Int) := by rw [hnd, genAt, List.getElem?_eq_getElem hk]; rfl
theorem OkA.hnd_in {l : List Sl} {f : Int} (h : OkA l f) {k : Nat} (hk : k < l.length) : 0 ≤ hnd l k ∧ hnd l k ≤ 1000000000 ∧ hnd l k % 24 = (k : Int) ∧ hnd l k / 24 = l[k].gen := by
  have hs := h.slots k hk
  have hm := h.most
  rw [hnd_at hk]
  have h1 := hs.1
  have h2 := hs.2.1
  omega
theorem OkA.hnd_AtA {l : List Sl} {f : Int} (h : OkA l f) {k : Nat} (hk : k < l.length) (hu : l[k].used = true) : AtA l f (hnd l k) k := by
  obtain ⟨h1, _, h3, h4⟩ := h.hnd_in hk
  exact ⟨h, h1, hk, h3, hu, h4.symm⟩
theorem kHandle {ao : Option Addr} {l : List Sl} {ca : Nat} {f : Int} {w : World} (hok : OkA l f) (hA : RdA w ao l) {k : Nat} (hk : k < l.length) (hu : l[k].used = true) :
    Calls Try.prog 20 #[.agg #[.slice ao l.length ca, .int .i64 f], .int .i64 (k : Int)] w fun e w' => e = .returned (.int .i64 (hnd l k)) ∧ Below w.heap.size w w' := by
  refine (implHandle_any ao l ca f (k : Int) w (by have := hok.most; omega) hA).mono ?_
  rintro e w' ⟨⟨r, rfl, hr⟩, hb⟩
  rcases hr with ⟨j, hj, e1, _, _, rfl⟩ | ⟨_, hno⟩
  · obtain rfl : k = j := by omega
    exact ⟨by rw [hnd_at hk], hb⟩
  · exact absurd ⟨k, hk, rfl, hok, hu⟩ hno
theorem kHandleNo {ao : Option Addr} {l : List Sl} {ca : Nat} {f : Int} {w : World} (hok : OkA l f) (hA : RdA w ao l) {p : Int} (hno : ¬ ∃ (k : Nat) (hk : k < l.length), p = (k : Int) ∧ l[k].used = true) :
    Calls Try.prog 20 #[.agg #[.slice ao l.length ca, .int .i64 f], .int .i64 p] w fun e w' => e = .returned (.int .i64 (-1)) ∧ Below w.heap.size w w' := by
  refine (implHandle_any ao l ca f p w (by have := hok.most; omega) hA).mono ?_
  rintro e w' ⟨⟨r, rfl, hr⟩, hb⟩
  rcases hr with ⟨j, hj, e1, _, hu, rfl⟩ | ⟨rfl, _⟩
  · exact absurd ⟨j, hj, e1, hu⟩ hno
  · exact ⟨rfl, hb⟩
theorem kLook {ao : Option Addr} {l : List Sl} {ca : Nat} {f h : Int} {w : World} (hA : RdA w ao l) {k : Nat} (hk : k < l.length) (hat : AtA l f h k) (hh : h ≤ 1000000000) :
    Calls Try.prog 18 #[.agg #[.slice ao l.length ca, .int .i64 f], .int .i64 h] w fun e w' => e = .returned (.tuple #[.string l[k].key, .string l[k].val, .bool true]) ∧ Below w.heap.size w w' := by
  refine (implLook_any ao l ca f h w (by have := hat.ok.most; omega) (by have := hat.nonneg; omega) (by omega) hA).mono ?_
  rintro e w' ⟨⟨j, hj, rfl, hj2⟩ | ⟨_, hno⟩, hb⟩
  · obtain rfl : j = k := by have h1 := hj2.place; have h2 := hat.place; omega
    exact ⟨rfl, hb⟩
  · exact absurd hat (hno k)
theorem kLookNo {ao : Option Addr} {l : List Sl} {ca : Nat} {f h : Int} {w : World} (hl : l.length ≤ 24) (hA : RdA w ao l) (hno : ∀ k, ¬ AtA l f h k) (h1 : -1 ≤ h) (h2 : h ≤ 1000000000) :
    Calls Try.prog 18 #[.agg #[.slice ao l.length ca, .int .i64 f], .int .i64 h] w fun e w' => e = .returned (.tuple #[.string ⟨#[]⟩, .string ⟨#[]⟩, .bool false]) ∧ Below w.heap.size w w' := by
  refine (implLook_any ao l ca f h w (by omega) (by omega) (by omega) hA).mono ?_
  rintro e w' ⟨⟨j, hj, rfl, hj2⟩ | ⟨rfl, _⟩, hb⟩
  · exact absurd hj2 (hno j)
  · exact ⟨rfl, hb⟩
theorem kUsed {ao : Option Addr} {l : List Sl} {ca : Nat} {f : Int} {w : World} (hok : OkA l f) (hA : RdA w ao l) :
    Calls Try.prog 16 #[.agg #[.slice ao l.length ca, .int .i64 f]] w fun e w' => e = .returned (.int .i64 (usedN l l.length : Int)) ∧ Below w.heap.size w w' := by
  refine (implUsed_any ao l ca f w (by have := hok.most; omega) hA).mono ?_
  rintro e w' ⟨⟨r, rfl, h1, _⟩, hb⟩
  exact ⟨by rw [h1 hok], hb⟩
theorem kOk {ao : Option Addr} {l : List Sl} {ca : Nat} {f : Int} {w : World} (hok : OkA l f) (hA : RdA w ao l) :
    Calls Try.prog 17 #[.agg #[.slice ao l.length ca, .int .i64 f]] w fun e w' => e = .returned (.bool true) ∧ Below w.heap.size w w' := by
  refine (implOk_any ao l ca f w (by have := hok.most; omega) hA).mono ?_
  rintro e w' ⟨x, rfl, hx, hb⟩
  exact ⟨by rw [hx.2 hok], hb⟩
theorem kLift {ao : Option Addr} {l : List Sl} {ca : Nat} {f h : Int} {w : World} (hA : RdA w ao l) {k : Nat} (hk : k < l.length) (hat : AtA l f h k) (hh : h ≤ 1000000000) :
    Calls Try.prog 19 #[.agg #[.slice ao l.length ca, .int .i64 f], .int .i64 h] w fun e w' => ∃ b c, e = .returned (.tuple #[.agg #[.slice (some ⟨b, 0, none⟩) l.length c, .int .i64 (k : Int)], .bool true]) ∧ w'.ownsRow w.heap.size 40 5 (.slice (some ⟨b, 0, none⟩) l.length c) l.length (sls (l.set k (lifted l[k] f))) ∧ Below w.heap.size w w' := by
  refine (implLift_any ao l ca f h w (by have := hat.ok.most; omega) (by have := hat.nonneg; omega) (by omega) hA).mono ?_
  rintro e w' ⟨⟨j, b, c, hj, rfl, hj2, ho⟩ | ⟨_, hno⟩, hb⟩
  · obtain rfl : j = k := by have h1 := hj2.place; have h2 := hat.place; omega
    exact ⟨b, c, rfl, ho, hb⟩
  · exact absurd hat (hno k)
theorem kLiftNo {ao : Option Addr} {l : List Sl} {ca : Nat} {f h : Int} {w : World} (hl : l.length ≤ 24) (hA : RdA w ao l) (hno : ∀ k, ¬ AtA l f h k) (h1 : -1 ≤ h) (h2 : h ≤ 1000000000) :
    Calls Try.prog 19 #[.agg #[.slice ao l.length ca, .int .i64 f], .int .i64 h] w fun e w' => e = .returned (.tuple #[.agg #[.slice none 0 0, .int .i64 0], .bool false]) ∧ Below w.heap.size w w' := by
  refine (implLift_any ao l ca f h w (by omega) (by omega) (by omega) hA).mono ?_
  rintro e w' ⟨⟨j, b, c, hj, rfl, hj2, _⟩ | ⟨rfl, _⟩, hb⟩
  · exact absurd hj2 (hno j)
  · exact ⟨rfl, hb⟩
theorem kLay {ao : Option Addr} {l : List Sl} {ca k : Nat} {w : World} (hok : OkA l (k : Int)) (hA : RdA w ao l) (hk : k < l.length) {ky vl : ByteArray} (hf : 1 ≤ ky.size ∧ ky.size ≤ 12 ∧ vl.size ≤ 20) :
    Calls Try.prog 15 #[.agg #[.slice ao l.length ca, .int .i64 (k : Int)], .string ky, .string vl] w fun e w' => ∃ b c, e = .returned (.tuple #[.agg #[.slice (some ⟨b, 0, none⟩) l.length c, .int .i64 l[k].next], .int .i64 (hnd l k), .bool true]) ∧ w'.ownsRow w.heap.size 40 5 (.slice (some ⟨b, 0, none⟩) l.length c) l.length (sls (l.set k ⟨l[k].gen, true, ky, vl, 0⟩)) ∧ Below w.heap.size w w' := by
  refine (implLay_any ao l ca (k : Int) ky vl w (by have := hok.most; omega) hA).mono ?_
  rintro e w' ⟨⟨j, b, c, hj, rfl, hj2, _, _, _, _, ho⟩ | ⟨_, hno⟩, hb⟩
  · obtain rfl : k = j := by omega
    exact ⟨b, c, by rw [hnd_at hk]; rfl, ho, hb⟩
  · exact absurd ⟨hok, by omega, hf⟩ hno
theorem kLayNo {ao : Option Addr} {l : List Sl} {ca : Nat} {w : World} (hl : l.length ≤ 24) (hA : RdA w ao l) {ky vl : ByteArray} :
    Calls Try.prog 15 #[.agg #[.slice ao l.length ca, .int .i64 (-1)], .string ky, .string vl] w fun e w' => e = .returned (.tuple #[.agg #[.slice none 0 0, .int .i64 0], .int .i64 0, .bool false]) ∧ Below w.heap.size w w' := by
  refine (implLay_any ao l ca (-1) ky vl w (by omega) hA).mono ?_
  rintro e w' ⟨⟨j, b, c, hj, rfl, hj2, _⟩ | ⟨rfl, _⟩, hb⟩
  · omega
  · exact ⟨rfl, hb⟩
theorem kNew {m : Nat} (h1 : 1 ≤ m) (h2 : m ≤ 24) (w : World) :
    Calls Try.prog 22 #[.int .i64 (m : Int)] w fun e w' => ∃ b c, e = .returned (.tuple #[.agg #[.slice (some ⟨b, 0, none⟩) m c, .int .i64 0], .bool true]) ∧ w'.ownsRow w.heap.size 40 5 (.slice (some ⟨b, 0, none⟩) m c) m (sls (newL m m)) ∧ Below w.heap.size w w' := by
  refine (implNewA_any (m : Int) w).mono ?_
  rintro e w' ⟨⟨j, b, c, hj, _, _, rfl, ho⟩ | ⟨_, hno⟩, hb⟩
  · obtain rfl : m = j := by omega
    exact ⟨b, c, rfl, ho, hb⟩
  · exact absurd ⟨by omega, by omega⟩ hno

theorem Try.infoInt3 : (Try.prog.info? 3).map (fun i => (i.zero, i.size, i.bytes)) = some (some (.int .i64 0), 1, 8) := by kernel_rfl
/-- The cells of a row of whole numbers. -/
def icI (L : List Int) : List Value := L.map fun n => Value.int .i64 n

set_option maxRecDepth 100000 in
theorem lawIn_any (v : Value) (L : List Int) (x : Int) (base : Nat) (w : World) (hl : L.length ≤ 1048576) (hown : w.ownsRow base 3 1 v L.length (icI L)) :
    Calls Try.prog 21 #[v, .int .i64 x] w fun e w' => ∃ y : Bool, e = .returned (.bool y) ∧ (y = true ↔ x ∈ L) ∧ w = w' := by
  obtain ⟨ao, c, rfl⟩ : ∃ ao c, v = .slice ao L.length c := by
    rcases hown.2 with ⟨hv, h0⟩ | ⟨g, cap, cur, hv, _⟩
    · exact ⟨none, 0, by rw [hv, h0]⟩
    · exact ⟨_, _, hv⟩
  have HO := hide1 hown
  clear hown
  go_enter Try.func21, Try.ntmps21
  go_wp2
  go_loop [5] (fun iv => ∃ i : Nat, i ≤ L.length ∧ iv = .int .i64 (i : Int) ∧ Hid (∀ j (h : j < L.length), j < i → L[j] ≠ x)) (fun iv => L.length - (intOf iv).toNat)
  case atStart => exact ⟨0, by omega, rfl, fun j _ h => by omega⟩
  case round =>
    obtain ⟨i, hi, rfl, hno⟩ := hrel
    by_cases hlt : i < L.length
    · have k1 : (i : Int) < (L.length : Int) := by omega
      obtain ⟨g, rfl⟩ : ∃ g, ao = some ⟨g, 0, none⟩ := by
        rcases HO.out.2 with ⟨hv, h0⟩ | ⟨g, cap, cur, hv, _⟩
        · omega
        · injection hv with h1 h2 h3; exact ⟨g, h1⟩
      have hc : w.cell? ⟨g, i, none⟩ = some (.int .i64 L[i]) := (HO.out.cellAt i (by omega)).trans (by rw [icI, List.getElem?_map, List.getElem?_eq_getElem hlt]; rfl)
      rcases hq : (L[i] == x) with _ | _
      · have hne : Hid (L[i] ≠ x) := by simpa [Hid] using hq
        go_wp2
        go_round
        case rel => exact ⟨i + 1, by omega, by go_num, fun j hj h2 => by
          by_cases e : j < i
          · exact hno.out j hj e
          · obtain rfl : j = i := by omega
            exact hne.out⟩
        case measure => simp [intOf]; omega
      · have he : Hid (L[i] = x) := by simpa [Hid] using hq
        go_wp2
        go_ret
        have hin : x ∈ L := by rw [← he.out]; exact List.getElem_mem hlt
        first | exact .inr ⟨rfl, hin, rfl⟩ | exact ⟨true, rfl, ⟨fun _ => hin, fun _ => rfl⟩, rfl⟩
    · have HX : Hid (x ∉ L) := fun h => by
        obtain ⟨j, hj, e⟩ := List.mem_iff_getElem.1 h
        exact absurd e (hno.out j hj (by omega))
      go_wp2
      go_ret
      first | exact .inl ⟨rfl, HX.out, rfl⟩ | exact ⟨false, rfl, ⟨(fun h => by cases h), fun h => absurd h HX.out⟩, rfl⟩
end Go.Proofs.Ytpckbhficjjogaa
