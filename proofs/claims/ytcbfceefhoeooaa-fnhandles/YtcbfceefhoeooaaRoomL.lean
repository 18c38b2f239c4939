/- The contract of the function that makes the links of a room. -/
import Derived.Test.YtcbfceefhoeooaaRoomP
import Derived.Deep.LoopGhost
import Derived.Deep.Cut
namespace Go.Proofs.Ytcbfceefhoeooaa
open Go.RowKit

/-- The links from a cell on, up to another cell. -/
def Seg (w : World) : Addr → List Nat → Addr → Prop
  | a, [], e => a = e
  | a, k :: V, e => ∃ b, w.cell? a = some (.pointer (some ⟨b, 0, none⟩)) ∧ a.block < b ∧ b < w.heap.size ∧ w.cell? ⟨b, 0, none⟩ = some (.int .i64 (k : Int)) ∧ Seg w ⟨b, 1, none⟩ V e
theorem Seg.le {w : World} : ∀ {V : List Nat} {a e : Addr}, Seg w a V e → a.block ≤ e.block
  | [], a, e, h => by have h' : a = e := h; rw [h']; exact Nat.le_refl _
  | k :: V, a, e, h => by
    obtain ⟨b, _, h2, _, _, h5⟩ := h
    have := Seg.le h5
    simp only at this
    omega
theorem Seg.snoc {w : World} {eb eo k : Nat} {t : TypeId} (he : eb < w.heap.size) (ho : eo ≠ 0) (hc : ∃ u, w.cell? ⟨eb, eo, none⟩ = some u) : ∀ {V : List Nat} {a : Addr}, Seg w a V ⟨eb, eo, none⟩ →
    Seg ((w.alloc (.cells #[.int .i64 (k : Int), .pointer none] t)).setCell ⟨eb, eo, none⟩ (.pointer (some ⟨w.heap.size, 0, none⟩))) a (V ++ [k]) ⟨w.heap.size, 1, none⟩
  | [], a, h => by
    have h' : a = ⟨eb, eo, none⟩ := h
    subst h'
    refine ⟨w.heap.size, ?_, he, by simp [World.setCell], ?_, rfl⟩
    · obtain ⟨u, hu⟩ := hc
      exact World.cell?_setCell_same _ _ _ ((World.cell?_alloc_lt w _ ⟨eb, eo, none⟩ he).trans hu)
    · rw [World.cell?_setCell_other _ _ _ _ (by intro e; injection e with e1 e2; omega)]
      exact World.cell?_alloc_at _ _ _ _ rfl
  | k' :: V, a, h => by
    obtain ⟨b, h1, h2, h3, h4, h5⟩ := h
    have hle := h5.le
    simp only at hle
    refine ⟨b, ?_, h2, by simp [World.setCell]; omega, ?_, Seg.snoc he ho hc h5⟩
    · rw [World.cell?_setCell_other _ _ _ _ (by rintro rfl; simp only at h2; omega), World.cell?_alloc_lt w _ a (by omega)]
      exact h1
    · rw [World.cell?_setCell_other _ _ _ _ (by intro e; injection e with e1 e2; omega), World.cell?_alloc_lt w _ ⟨b, 0, none⟩ h3]
      exact h4
theorem Seg.lnk {w : World} {r : Nat} {e : Addr} (he : w.cell? e = some (.pointer none)) : ∀ {V : List Nat} {a : Addr} {p : Option Addr}, r ≤ a.block → w.cell? a = some (.pointer p) → Seg w a V e → Lnk w r p V
  | [], a, p, _, hp, h => by
    have h' : a = e := h
    subst h'
    rw [he] at hp
    injection hp with hp
    injection hp with hp
    exact hp.symm
  | k :: V, a, p, hr, hp, h => by
    obtain ⟨b, h1, h2, h3, h4, h5⟩ := h
    rw [h1] at hp
    injection hp with hp
    injection hp with hp
    subst hp
    have hq : ∃ q, w.cell? ⟨b, 1, none⟩ = some (.pointer q) := by
      match V, h5 with
      | [], h5 => have e' : (⟨b, 1, none⟩ : Addr) = e := h5; exact ⟨none, by rw [e']; exact he⟩
      | _ :: _, h5 => obtain ⟨b', g1, _⟩ := h5; exact ⟨_, g1⟩
    obtain ⟨q, hq⟩ := hq
    exact ⟨b, q, rfl, by omega, h3, h4, hq, Seg.lnk he (by simp only; omega) hq h5⟩

theorem no_chain_out {l : List Sl} {f a : Int} {vis : List Nat} (h : Path l f vis a) (ha : a ≠ -1) (ho : ¬ (0 ≤ a ∧ a < (l.length : Int))) : ∀ V, ¬ Chain l f V := by
  intro V hV
  obtain ⟨V', rfl, hc⟩ := h.chain.1 hV
  match V', hc with
  | [], hc => exact ha hc
  | p :: V', hc =>
    have e : a = (p : Int) := hc.1
    have hp := hc.2.1
    omega
theorem no_chain_long {l : List Sl} {f a : Int} {vis : List Nat} (h : Path l f vis a) (ha : a ≠ -1) (ho : l.length ≤ vis.length) : ∀ V, ¬ Chain l f V := by
  intro V hV
  have hp := pigeon l.length V hV.nodup hV.lt
  obtain ⟨V', rfl, hc⟩ := h.chain.1 hV
  match V', hc with
  | [], hc => exact ha hc
  | p :: V', hc => simp at hp; omega

set_option maxRecDepth 100000 in
set_option maxHeartbeats 1000000 in
theorem link_any {w : World} {r : Nat} {l : List Sl} (f : Int) (h : RoomAt w r l.length (fillup l) none) (h2 : l.length ≤ 24) :
    Calls Try.prog 35 #[.pointer (some ⟨r, 0, none⟩), .int .i64 f] w fun e w' =>
      ((∃ (V : List Nat) (p : Option Addr), e = .returned (.bool true) ∧ Chain l f V ∧ RoomAt w' r l.length (fillup l) p ∧ Lnk w' r p V) ∨ (e = .returned (.bool false) ∧ ∀ V, ¬ Chain l f V)) ∧ Below r w w' := by
  have HL := hide1 (fillup_length h2)
  have HR := hide1 h
  clear h
  go_enter Try.func35, Try.ntmps35
  go_wp2
  go_loopw [1, 5, 6] (fun av ev iv wr => ∃ (i : Nat) (a : Int) (eb eo : Nat) (p : Option Addr) (vis : List Nat), i ≤ l.length ∧ iv = .int .i64 (i : Int) ∧ av = .int .i64 a ∧ ev = .pointer (some ⟨eb, eo, none⟩) ∧ Hid (vis.length = i) ∧ Hid (Path l f vis a) ∧ Hid (RoomAt wr r l.length (fillup l) p) ∧ wr.cell? ⟨eb, eo, none⟩ = some (.pointer none) ∧ wr.frozen? ⟨eb, eo, none⟩ = false ∧ Hid ((eb = r ∧ eo = 121) ∨ (r < eb ∧ eo = 1)) ∧ Hid (Seg wr ⟨r, 121, none⟩ vis ⟨eb, eo, none⟩) ∧ Hid (Below r w wr)) (fun _ _ iv _ => l.length - (intOf iv).toNat)
  case atStart => exact ⟨0, f, r, 121, none, [], by omega, rfl, rfl, rfl, rfl, rfl, HR.out, HR.out.free HL.out, Blk.froz HR.out 121, .inl ⟨rfl, rfl⟩, rfl, Below.refl _ _⟩
  case round =>
    obtain ⟨i, a, eb, eo, p, vis, hi, rfl, rfl, rfl, hvl, hpath, hroom, hce, hfe, hee, hseg, hbel⟩ := hrel
    have x0 := hroom.out.size
    have hend : Hid (Hid (a = -1) → (∃ (V : List Nat) (p : Option Addr), Chain l f V ∧ RoomAt wr r l.length (fillup l) p ∧ Lnk wr r p V)) := by
      intro ha
      refine ⟨vis, p, hpath.out.chain.2 ⟨[], by simp, ha⟩, hroom.out, Seg.lnk hce (a := ⟨r, 121, none⟩) (Nat.le_refl _) (hroom.out.free HL.out) hseg.out⟩
    by_cases c1 : i < l.length
    · have q1 : (i : Int) < (l.length : Int) := by omega
      by_cases c2 : 0 ≤ a
      · by_cases c3 : a < (l.length : Int)
        · obtain ⟨k, rfl⟩ := Int.eq_ofNat_of_zero_le c2
          have hk : k < l.length := by omega
          have q4 : (k : Int) < 24 := by omega
          have hkL : k < (fillup l).length := by rw [HL.out]; omega
          have hnx : Hid ((fillup l)[k].next = l[k].next) := by
            show _ = _
            have e := fillup_at k hk
            rw [List.getElem?_eq_getElem hkL] at e
            rw [Option.some.inj e]
          obtain ⟨_, _, _, _, y4⟩ := hroom.out.slot k hkL
          rw [hnx.out] at y4
          have hlt : eb < wr.heap.size := by
            rcases hee.out with ⟨e, _⟩ | _
            · rw [e]; exact hroom.out.lt
            · exact World.block_lt_of_cell? wr _ hce
          have m1 : (wr.alloc (.cells #[.int .i64 (k : Int), .pointer none] 57)).cell? ⟨eb, eo, none⟩ = some (.pointer none) := (World.cell?_alloc_lt wr _ ⟨eb, eo, none⟩ hlt).trans hce
          have m2 : (wr.alloc (.cells #[.int .i64 (k : Int), .pointer none] 57)).frozen? ⟨eb, eo, none⟩ = false := by
            rw [World.frozen?_of_block (w := wr) (Below.heap_alloc wr _ eb hlt)]; exact hfe
          have hW : ∃ W, W = (wr.alloc (.cells #[.int .i64 (k : Int), .pointer none] 57)).setCell ⟨eb, eo, none⟩ (.pointer (some ⟨wr.heap.size, 0, none⟩)) := ⟨_, rfl⟩
          obtain ⟨W, hW⟩ := hW
          have n1 : W.cell? ⟨eb, eo, none⟩ = some (.pointer (some ⟨wr.heap.size, 0, none⟩)) := by rw [hW]; exact World.cell?_setCell_same _ _ _ m1
          have n2 : W.cell? ⟨r, 1 + k * 5 + 4, none⟩ = some (.int .i64 l[k].next) := by
            rw [hW, World.cell?_setCell_other _ _ _ _ (by
              intro e
              injection e with e1 e2
              rcases hee.out with ⟨_, h⟩ | ⟨h, _⟩ <;> omega), World.cell?_alloc_lt wr _ ⟨r, 1 + k * 5 + 4, none⟩ hroom.out.lt]
            exact y4
          have n3 : W.cell? ⟨wr.heap.size, 1, none⟩ = some (.pointer none) := by
            rw [hW, World.cell?_setCell_other _ _ _ _ (by intro e; injection e with e1 e2; omega)]
            exact World.cell?_alloc_at _ _ _ _ rfl
          have n4 : W.frozen? ⟨wr.heap.size, 1, none⟩ = false := by
            rw [hW, World.frozen?_setCell]; exact World.frozen?_alloc_at (w := wr) _ _ _ _ rfl
          have N5 : Hid (Seg W ⟨r, 121, none⟩ (vis ++ [k]) ⟨wr.heap.size, 1, none⟩) := by
            have := Seg.snoc (k := k) (t := 57) hlt (by rcases hee.out with ⟨_, h⟩ | ⟨_, h⟩ <;> omega) ⟨_, hce⟩ hseg.out
            rw [← hW] at this
            exact this
          have N6 : Hid (∃ p, RoomAt W r l.length (fillup l) p) := by
            show ∃ p, RoomAt W r l.length (fillup l) p
            rw [hW]
            have h0 : RoomAt (wr.alloc (.cells #[.int .i64 (k : Int), .pointer none] 57)) r l.length (fillup l) p := Blk.more hroom.out _
            rcases hee.out with ⟨e1, e2⟩ | ⟨e1, _⟩
            · subst e1 e2
              exact ⟨_, h0.setFree HL.out _⟩
            · exact ⟨p, Blk.far h0 _ _ (by simp only; omega)⟩
          have N7 : Hid (Below r w W) := by
            show Below r w W
            rw [hW]
            exact (hbel.out.alloc (by have := hroom.out.lt; omega) _).setCell (by rcases hee.out with ⟨h, _⟩ | ⟨h, _⟩ <;> (dsimp only; omega)) _
          have N8 := hide1 (hpath.out.snoc hk)
          have N9 : Hid (r < wr.heap.size) := hroom.out.lt
          have hvl' : Hid ((vis ++ [k]).length = i + 1) := by show _ = _; rw [List.length_append, hvl.out]; rfl
          clear hend hseg hbel hpath hroom y4 hnx
          go_upto_region 6 with fail
          rw [World.setCell_alloc_past (hn := hlt)] at hW
          rw [← hW]
          clear hW m1 m2
          go_wp2
          go_roundw
          case rel => 
            obtain ⟨p', hp'⟩ := N6.out
            exact ⟨i + 1, _, wr.heap.size, 1, p', vis ++ [k], by omega, by go_num, rfl, rfl, hvl', N8, hp', n3, n4, .inr ⟨N9.out, rfl⟩, N5, N7⟩
          case measure => simp [intOf]; omega
        · have q3 : decide (a < (l.length : Int)) = false := decide_eq_false c3
          have qa : (a == (-1 : Int)) = false := by simp; omega
          have HN := hide1 (no_chain_out hpath.out (by omega) (by omega))
          clear hend hseg hpath hroom
          go_wp2
          go_ret
          exact ⟨.inr ⟨rfl, HN.out⟩, hbel.out⟩
      · have q2 : decide (0 ≤ a) = false := decide_eq_false c2
        by_cases ca : a = -1
        · have qa : (a == (-1 : Int)) = true := by simp [ca]
          have HE := hide1 (hend.out ca)
          have HB := hide1 hbel
          clear hend hseg hpath hroom ca hbel
          go_wp2
          go_ret
          obtain ⟨V, p, a1, a2, a3⟩ := HE.out
          first | exact ⟨.inl ⟨rfl, V, a1, p, a2, a3⟩, HB.out⟩ | exact ⟨.inl ⟨V, p, rfl, a1, a2, a3⟩, HB.out⟩ | exact ⟨.inl ⟨V, a1, p, a2, a3⟩, HB.out⟩
        · have qa : (a == (-1 : Int)) = false := by simp [ca]
          have HN := hide1 (no_chain_out hpath.out ca (by omega))
          clear hend hseg hpath hroom
          go_wp2
          go_ret
          exact ⟨.inr ⟨rfl, HN.out⟩, hbel.out⟩
    · have q1 : decide ((i : Int) < (l.length : Int)) = false := decide_eq_false (by omega)
      by_cases ca : a = -1
      · have qa : (a == (-1 : Int)) = true := by simp [ca]
        have HE := hide1 (hend.out ca)
        clear hend hseg hpath hroom ca
        go_wp2
        go_ret
        obtain ⟨V, p, a1, a2, a3⟩ := HE.out
        first | exact ⟨.inl ⟨rfl, V, a1, p, a2, a3⟩, hbel.out⟩ | exact ⟨.inl ⟨V, p, rfl, a1, a2, a3⟩, hbel.out⟩ | exact ⟨.inl ⟨V, a1, p, a2, a3⟩, hbel.out⟩
      · have qa : (a == (-1 : Int)) = false := by simp [ca]
        have HN := hide1 (no_chain_long hpath.out ca (by rw [hvl.out]; omega))
        clear hend hseg hpath hroom
        go_wp2
        go_ret
        exact ⟨.inr ⟨rfl, HN.out⟩, hbel.out⟩
end Go.Proofs.Ytcbfceefhoeooaa
