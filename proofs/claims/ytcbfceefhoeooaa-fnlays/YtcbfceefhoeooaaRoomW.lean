/- The contract of the function that writes out what a room holds. -/
import Derived.Test.YtcbfceefhoeooaaRoomL
namespace Go.Proofs.Ytcbfceefhoeooaa
open Go.RowKit

theorem Try.infoArr : (Try.prog.info? 51).map (fun i => (i.zero, i.size)) = some (some (.agg (sls (List.replicate 24 zS)).toArray), 120) := by kernel_rfl

theorem wrtU_zero (L : List Sl) : wrtU L 0 = List.replicate 24 zS := by simp [wrtU]
theorem wrtU_next {L : List Sl} {i : Nat} (hL : L.length = 24) (hi : i < 24) : (wrtU L i).set i (asUsed (L[i]'(by omega))) = wrtU L (i + 1) := by
  have hl : ((L.take i).map asUsed).length = i := by simp; omega
  rw [wrtU, List.set_append_right _ _ (by omega), hl, Nat.sub_self, show 24 - i = (24 - (i + 1)) + 1 by omega, List.replicate_succ, List.set_cons_zero, wrtU, List.take_succ_eq_append_getElem (by omega), List.map_append, List.append_assoc]
  rfl
/-- A slot stored whole into an array that is a block of its own. -/
theorem Blk.set5 {w : World} {g : Nat} {t : TypeId} {L : List Sl} (h : Blk w g t (sls L)) (i : Nat) (hi : i < L.length) (s : Sl) :
    Blk (((((w.setCell ⟨g, i * 5, none⟩ (.int .i64 s.gen)).setCell ⟨g, i * 5 + 1, none⟩ (.bool s.used)).setCell ⟨g, i * 5 + 2, none⟩ (.string s.key)).setCell ⟨g, i * 5 + 3, none⟩ (.string s.val)).setCell ⟨g, i * 5 + 4, none⟩ (.int .i64 s.next)) g t (sls (L.set i s)) := by
  have st := Blk.set (Blk.set (Blk.set (Blk.set (Blk.set h (i * 5) (.int .i64 s.gen)) (i * 5 + 1) (.bool s.used)) (i * 5 + 2) (.string s.key)) (i * 5 + 3) (.string s.val)) (i * 5 + 4) (.int .i64 s.next)
  have hl : (sls L).length = L.length * 5 := sls_length L
  rw [Go.Proofs.Ytcbfceefhoeooaa.set5 _ _ _ _ _ _ _ (by omega)] at st
  rw [sls_set L i s hi]
  exact st
theorem Blk.at5 {w : World} {g : Nat} {t : TypeId} {L : List Sl} (h : Blk w g t (sls L)) (i : Nat) (hi : i < L.length) : slotAt w g i L[i] := by
  have k : ∀ j, j < 5 → w.cell? ⟨g, i * 5 + j, none⟩ = (slC L[i])[j]? := fun j hj => by rw [Blk.cell h, sls_at L i j hi hj]
  exact ⟨k 0 (by decide), k 1 (by decide), k 2 (by decide), k 3 (by decide), k 4 (by decide)⟩

set_option maxRecDepth 100000 in
set_option maxHeartbeats 1000000 in
theorem written_any {w : World} {r n : Nat} {L : List Sl} {p : Option Addr} {V : List Nat} (h : RoomAt w r n L p) (hL : L.length = 24) (hn : n ≤ 24) (hl : Lnk w r p V) (hV : ∀ k ∈ V, k < 24) :
    Calls Try.prog 36 #[.pointer (some ⟨r, 0, none⟩)] w fun e w' => e = .returned (.agg (sls (wrt L n V)).toArray) ∧ Below w.heap.size w w' := by
  obtain ⟨hz, hzs⟩ := zero_of_info Try.infoArr
  obtain ⟨Z, hZ⟩ : ∃ Z, Z = (sls (List.replicate 24 zS)).toArray := ⟨_, rfl⟩
  rw [← hZ] at hz
  have HZ := hide1 hZ
  have HR := hide1 h
  have HL := hide1 hL
  have HK := hide1 hl
  have HV := hide1 hV
  have hr := h.lt
  have n1 : (n : Int) ≤ 24 := by omega
  have F0 : Hid (RoomAt ((w.alloc (.cells Z 51)).alloc (.cells Z 51)) r n L p ∧ Lnk ((w.alloc (.cells Z 51)).alloc (.cells Z 51)) r p V ∧ Blk ((w.alloc (.cells Z 51)).alloc (.cells Z 51)) w.heap.size 51 Z.toList ∧ Blk ((w.alloc (.cells Z 51)).alloc (.cells Z 51)) (w.heap.size + 1) 51 Z.toList ∧ Below w.heap.size w ((w.alloc (.cells Z 51)).alloc (.cells Z 51))) := by
    refine ⟨Blk.more (Blk.more h _) _, hl.below (below2 w _ _), Blk.more (Blk.new w _ Z) _, ?_, below2 w _ _⟩
    have := Blk.new (w.alloc (.cells Z 51)) 51 Z
    rw [World.size_alloc] at this
    exact this
  clear h hL hl hV hZ
  go_enter Try.func36, Try.ntmps36
  go_wp2
  generalize ((w.alloc (.cells Z 51)).alloc (.cells Z 51)) = w0 at F0 ⊢
  obtain ⟨R0, _, Z0, Z1, B0⟩ := F0.out
  have hs0 : Hid (w.heap.size + 1 < w0.heap.size) := Z1.lt
  rw [HZ.out, List.toList_toArray] at Z0 Z1
  have R0 := hide1 R0
  have Z0 := hide1 Z0
  have Z1 := hide1 Z1
  have B0 := hide1 B0
  have x0 := R0.out.size
  clear F0 HR HZ hz
  go_quiet (fail)
  go_wp2
  go_loopw [16] (fun iv wr => ∃ i : Nat, i ≤ n ∧ iv = .int .i64 (i : Int) ∧ Hid (Blk wr (w.heap.size + 1) 51 (sls (wrtU L i))) ∧ Hid (Below (w.heap.size + 1) w0 wr)) (fun iv _ => n - (intOf iv).toNat)
  case atStart => exact ⟨0, by omega, rfl, by rw [wrtU_zero]; first | exact Z1 | exact Blk.below Z1.out (Below.refl _ _).drew Z1.out.lt, by first | exact Below.refl _ _ | exact (Below.refl _ _).drew | exact below_drewN (Below.refl _ _) _⟩
  case round =>
    obtain ⟨i, hi, rfl, hout, hbel⟩ := hrel
    by_cases hlt : i < n
    · have k1 : (i : Int) < (n : Int) := by omega
      have k2 : (i : Int) < 24 := by omega
      have hiL : i < L.length := by rw [HL.out]; omega
      obtain ⟨y0, y1, y2, y3, y4⟩ := (R0.out.below hbel.out (by omega)).slot i hiL
      have hup := hide1 (wrtU_next (L := L) HL.out (show i < 24 by omega))
      have hul := hide1 (wrtU_length (L := L) (n := i) HL.out (by omega))
      generalize hs : L[i] = s at *
      clear hs
      obtain ⟨gn, us, ky, vl, nx⟩ := s
      simp only [asUsed] at y0 y1 y2 y3 y4 hup
      have hbz : w.heap.size + 1 < wr.heap.size := by have := hbel.out.size; have := hs0.out; omega
      have NN : Hid ((wr.alloc (.cells #[.int .i64 gn, .bool us, .string ky, .string vl, .int .i64 nx] 40)).cell? ⟨wr.heap.size, 0, none⟩ = some (.int .i64 gn) ∧ (wr.alloc (.cells #[.int .i64 gn, .bool us, .string ky, .string vl, .int .i64 nx] 40)).cell? ⟨wr.heap.size, 2, none⟩ = some (.string ky) ∧ (wr.alloc (.cells #[.int .i64 gn, .bool us, .string ky, .string vl, .int .i64 nx] 40)).cell? ⟨wr.heap.size, 3, none⟩ = some (.string vl) ∧ Blk (wr.alloc (.cells #[.int .i64 gn, .bool us, .string ky, .string vl, .int .i64 nx] 40)) (w.heap.size + 1) 51 (sls (wrtU L i)) ∧ Below (w.heap.size + 1) w0 (wr.alloc (.cells #[.int .i64 gn, .bool us, .string ky, .string vl, .int .i64 nx] 40))) :=
        ⟨World.cell?_alloc_at _ _ _ _ rfl, World.cell?_alloc_at _ _ _ _ rfl, World.cell?_alloc_at _ _ _ _ rfl, Blk.more hout.out _, hbel.out.alloc (by omega) _⟩
      go_upto_region 5 with fail
      generalize (wr.alloc (.cells #[.int .i64 gn, .bool us, .string ky, .string vl, .int .i64 nx] 40)) = wn at NN ⊢
      clear y0 y1 y2 y3 y4
      obtain ⟨n0, n2, n3, NB, NL⟩ := NN.out
      obtain ⟨u0, u1, u2, u3, u4⟩ := Blk.at5 NB i (by rw [hul.out]; omega)
      have fz : ∀ j, wn.frozen? ⟨w.heap.size + 1, j, none⟩ = false := fun j => Blk.froz NB j
      have NB2 := hide1 (Blk.set5 NB i (by rw [hul.out]; omega) ⟨gn, true, ky, vl, 0⟩)
      rw [hup.out] at NB2
      have NL2 := hide1 (below_set5 NL (Nat.le_refl _) i ⟨gn, true, ky, vl, 0⟩)
      clear NB NL NN hout hbel
      go_wp2
      go_roundw
      case rel => exact ⟨i + 1, by omega, by go_num, NB2, NL2⟩
      case measure => simp [intOf]; omega
    · obtain rfl : i = n := by omega
      have k1 : decide ((i : Int) < (i : Int)) = false := by simp
      have RR := hide1 (R0.out.below hbel.out (by omega))
      have ZZ := hide1 (Z0.out.below hbel.out (by omega))
      have BB : Hid (Below w.heap.size w wr) := B0.out.trans (hbel.out.mono (by omega))
      have hwr : Hid (w.heap.size + 1 < wr.heap.size) := hout.out.lt
      have hout2 := hide1 hout.out
      have xf := RR.out.free HL.out
      clear hbel R0 Z0 Z1 B0 hs0 hout
      generalize wr = wa at *
      go_upto_region 8 with fail
      have hbf := hide1 (And.intro HV.out (wrtU_length (L := L) (n := i) HL.out (by omega)))
      go_loopg [6] V.length (fun k fv wq => ∃ (V2 : List Nat) (p2 : Option Addr) (out : List Sl), fv = .pointer p2 ∧ Hid (k = V2.length) ∧ Hid (Lnk w r p2 V2) ∧ Hid (∀ k ∈ V2, k < 24) ∧ Hid (wrtV L out V2 = wrt L i V) ∧ Hid (out.length = 24) ∧ Hid (Blk wq (w.heap.size + 1) 51 (sls out)) ∧ Hid (Below (w.heap.size + 1) wa wq))
      case atStart => exact ⟨V, p, wrtU L i, rfl, rfl, HK, hbf.out.1, rfl, hbf.out.2, hout2, Below.refl _ _⟩
      case round =>
        obtain ⟨V2, p2, out, rfl, hk, hlk, hv2, hwv, hol, hblk, hbel⟩ := hrel
        match V2, hlk, hv2, hwv, hk with
        | [], hlk, hv2, hwv, hk =>
          have hp : p2 = none := hlk.out
          subst hp
          have hwv' : Hid (out = wrt L i V) := hwv.out
          have hsz : (Try.prog.info? 51).map (·.size) = some (sls out).toArray.size := by rw [hzs]; simp [sls_length, hol.out]
          have hr2 : wr.heap[w.heap.size]? = some (.cells (sls (List.replicate 24 zS)).toArray 51 (0, 0)) := Blk.below ZZ.out hbel.out (by omega)
          have hr3 : wr.heap[w.heap.size + 1]? = some (.cells (sls out).toArray 51 (0, 0)) := hblk.out
          have hone : (sls out).toArray.all (·.oneCell') = true := by
            rw [List.all_toArray, List.all_eq_true]
            intro v hv
            obtain ⟨s, _, hs⟩ := List.mem_flatMap.1 hv
            simp only [slC, List.mem_cons, List.not_mem_nil, or_false] at hs
            rcases hs with rfl | rfl | rfl | rfl | rfl <;> rfl
          have H2 := hide1 (And.intro hr2 (And.intro hr3 (And.intro hsz hone)))
          have hos : Hid ((sls (List.replicate 24 zS)).toArray.size = (sls out).toArray.size) := by show _ = _; simp [sls_length, hol.out]
          have BW : Hid (Below w.heap.size w (wr.setRow w.heap.size (sls out).toArray)) :=
            BB.out.trans ((hbel.out.mono (by omega)).trans ⟨rfl, rfl, rfl, by simp, fun k hk => setRow_other _ _ _ _ (by omega)⟩)
          clear hr2 hr3 hone hsz
          go_wp2_with (first | (refine wpList_load_row rfl 51 _ rfl (w.heap.size + 1) rfl 51 (sls out).toArray (0, 0) _ H2.out.2.1 Try.underlying51 rfl H2.out.2.2.1 ?_) | (refine wpList_plain rfl fun _ hK => wp_store_row 51 _ _ rfl w.heap.size (sls out).toArray rfl rfl 51 _ H2.out.1 H2.out.2.2.1 hos.out H2.out.2.2.2 (hK _ _ ?_)))
          refine bodyPost_ret (results_cell_row Try.results36 _ _ w.heap.size 51 (sls out).toArray (0, 0) _ rfl (setRow_heap _ _ _ _ _ _ H2.out.1) Try.underlying51 rfl H2.out.2.2.1) rfl ?_
          exact ⟨by rw [← hwv'.out], BW.out⟩
        | k :: V2, hlk, hv2, hwv, hk =>
          obtain ⟨b, q, rfl, hb1, hb2, z0', z1', hq⟩ := hlk.out
          have BQ : Hid (Below w.heap.size w wr) := BB.out.trans (hbel.out.mono (by omega))
          have z0 := (BQ.out.cell (p := ⟨b, 0, none⟩) hb2).trans z0'
          have z1 := (BQ.out.cell (p := ⟨b, 1, none⟩) hb2).trans z1'
          have hne1 : b ≠ w.heap.size + 1 := by omega
          have hne2 : r ≠ w.heap.size + 1 := by omega
          have hk24 : k < 24 := hv2.out k (by simp)
          have k2 : (k : Int) < 24 := by omega
          have hkL : k < L.length := by rw [HL.out]; omega
          obtain ⟨y0, _, _, _, _⟩ := (RR.out.below hbel.out (by omega)).slot k hkL
          have hgn : Hid (genAt L k = L[k].gen) := by show genAt L k = _; rw [genAt, List.getElem?_eq_getElem hkL]; rfl
          obtain ⟨u0, u1, u2, u3, u4⟩ := Blk.at5 hblk.out k (by rw [hol.out]; omega)
          have fz : ∀ j, wr.frozen? ⟨w.heap.size + 1, j, none⟩ = false := fun j => Blk.froz hblk.out j
          have NB2 := hide1 (fun w' (hw : w'.heap = wr.heap) => Blk.set5 (show Blk w' (w.heap.size + 1) 51 (sls out) from by unfold Blk; rw [hw]; exact hblk.out) k (by rw [hol.out]; omega) ⟨L[k].gen, false, ⟨#[]⟩, ⟨#[]⟩, hdI V2⟩)
          have NL2 := hide1 (fun w' (hw : Below (w.heap.size + 1) wr w') => below_set5 (hbel.out.trans hw) (Nat.le_refl _) k ⟨L[k].gen, false, ⟨#[]⟩, ⟨#[]⟩, hdI V2⟩)
          have NS2 : Hid (wrtV L (out.set k ⟨L[k].gen, false, ⟨#[]⟩, ⟨#[]⟩, hdI V2⟩) V2 = wrt L i V) := by
            have := hwv.out
            rw [wrtV, hgn.out] at this
            exact this
          have HV2 : Hid (∀ k ∈ V2, k < 24) := fun j hj => hv2.out j (by simp [hj])
          have HO2 : Hid ((out.set k ⟨L[k].gen, false, ⟨#[]⟩, ⟨#[]⟩, hdI V2⟩).length = 24) := by show _ = _; rw [List.length_set, hol.out]
          have CC := hide1 (fun w' (hw : w'.heap = wr.heap) => atL_any ((hq.below BQ.out).keep (w' := w') (fun k _ _ => by rw [hw]) (by rw [hw]; exact Nat.le_refl _)))
          have HQ := hide1 hq
          generalize L[k].gen = gn at *
          have B5 := below_set5 (B := w.heap.size + 1) (Below.refl _ wr) (Nat.le_refl _) k ⟨gn, false, ⟨#[]⟩, ⟨#[]⟩, hdI V2⟩
          have SK := hide1 (And.intro ((B5.cell (p := ⟨b, 0, none⟩) (by dsimp only; omega)).trans z0) (And.intro ((B5.cell (p := ⟨b, 1, none⟩) (by dsimp only; omega)).trans z1) ((B5.cell (p := ⟨r, 1 + k * 5, none⟩) (by dsimp only; omega)).trans y0)))
          clear hgn hwv hv2 hlk z0' z1' hq B5
          go_upto_region 10 with fail
          go_region_held3 (fun w' => w'.cell? ⟨b, 0, none⟩ = some (.int .i64 (k : Int)) ∧ w'.cell? ⟨b, 1, none⟩ = some (.pointer q) ∧ w'.cell? ⟨r, 1 + k * 5, none⟩ = some (.int .i64 gn)) (first | (simp only [World.cell?_drew, z0, z1, y0, and_self]; done) | (simp only [World.cell?_drew, SK.out.1, SK.out.2.1, SK.out.2.2, and_self]; done)) ((go_at_call 38; refine (CC.out wr.drew rfl).mono ?_; rintro e w2 ⟨rfl, rfl⟩))
          have s1 := SK.out.2.1
          have NB3 := hide1 (NB2.out wr rfl)
          have NL3 := hide1 (NL2.out wr (Below.refl _ _))
          clear NB2 NL2 CC SK
          go_wp2
          go_roundg V2.length
          case rel => exact ⟨V2, q, _, rfl, rfl, HQ, HV2, NS2, HO2, Blk.below NB3.out (Below.refl _ _).drew NB3.out.lt, NL3.out.drew⟩
          case measure => have := hk.out; rw [List.length_cons] at this; omega
end Go.Proofs.Ytcbfceefhoeooaa
