/- The contract of the function that takes in a place: a room, or none where it is not right. -/
import Derived.Test.YtcbfceefhoeooaaRoomE
namespace Go.Proofs.Ytcbfceefhoeooaa
open Go.RowKit

theorem run_copy5 {P : Program} (w : World) (dT sT ty elem : TypeId) (g o dLen dCap : Nat) (a : Addr) (sLen sCap : Nat) (cur : Array Value) (t : TypeId) (cs : List Value)
    (hu : P.underlying dT = some (.slice elem)) (hs : (P.info? elem).map (·.size) = some 5)
    (hg : w.heap[g]? = some (.cells cur t (0, 0))) (hn : cs.length = Nat.min sLen dLen * 5)
    (hsrc : ∀ j v, cs[j]? = some v → w.cell? (a.add j) = some v) (hfit : o + cs.length ≤ cur.size) (h1 : ∀ v ∈ cs, v.oneCell' = true) :
    (Builtin.copy_ #[dT, sT] ty #[.slice (some ⟨g, o, none⟩) dLen dCap, .slice (some a) sLen sCap]).run P w =
      .ok (goInt (Nat.min sLen dLen)) (w.setRow g (cur.toList.take o ++ cs ++ cur.toList.drop (o + cs.length)).toArray) := by
  have hl := run_loadCells_list (P := P) w a cs hsrc
  have hst := run_storeCells_at P g o t cs 0 cur w hg (by simpa using hfit) h1
  cases hq : P.info? elem with
  | none => simp [hq] at hs
  | some i =>
    have hi : i.size = 5 := by simpa [hq] using hs
    rw [hn] at hl
    simp [Builtin.copy_, run_underlying hu, Builtin.lenOf, Builtin.firstCells, sizeOf, typeInfo, hq, hi, hl, hst]
theorem one_sls (l : List Sl) : ∀ v ∈ sls l, v.oneCell' = true := by
  intro v hv
  obtain ⟨s, _, hs⟩ := List.mem_flatMap.1 hv
  simp only [slC, List.mem_cons, List.not_mem_nil, or_false] at hs
  rcases hs with rfl | rfl | rfl | rfl | rfl <;> rfl
theorem rdA_cells {w : World} {g : Nat} {l : List Sl} (h : ∀ i (h : i < l.length), slotAt w g i l[i]) (j : Nat) (v : Value) (hv : (sls l)[j]? = some v) : w.cell? ⟨g, j, none⟩ = some v := by
  have hj : j < l.length * 5 := by
    have := (List.getElem?_eq_some_iff.1 hv).1
    rw [sls_length] at this
    exact this
  have hi : j / 5 < l.length := by omega
  have h5 : j % 5 < 5 := Nat.mod_lt _ (by decide)
  have e := sls_at l (j / 5) (j % 5) hi h5
  rw [show j / 5 * 5 + j % 5 = j by omega, hv] at e
  obtain ⟨x0, x1, x2, x3, x4⟩ := h (j / 5) hi
  rw [e, show (⟨g, j, none⟩ : Addr) = ⟨g, j / 5 * 5 + j % 5, none⟩ by rw [show j / 5 * 5 + j % 5 = j by omega]]
  generalize j % 5 = k at h5 e ⊢
  match k, h5 with
  | 0, _ => exact x0
  | 1, _ => exact x1
  | 2, _ => exact x2
  | 3, _ => exact x3
  | 4, _ => exact x4

/-- 'copy' of slots into a new room, as one step of a region that draws. -/
theorem step_copyRoom {ops : Array Oper} {o : Oper} {a : Act} {w : World} {K : Act → World → Prop} {Q : Exit → Act → World → Prop} {E : Prop} (hgd : o.guard = none) (d s : Operand)
    (ho : o.op = .call { callee := .builtin .copy, args := #[d, s], argTypes := #[24, 24] }) (r ca : Nat) (l : List Sl) (ao : Option Addr)
    (hd : a.eval d = .slice (some ⟨r, 1, none⟩) 24 24) (hs : a.eval s = .slice ao l.length ca) (hR : RoomAt w r l.length (List.replicate 24 zS) none) (hA : RdA w ao l) (h1 : 1 ≤ l.length) (h2 : l.length ≤ 24)
    (h : ∀ w', RoomAt w' r l.length (fillup l) none → Below r w w' → K (a.put o.dst (.int .i64 (l.length : Int))) w') :
    if Region.wanted o (yielded ops a.tmps) = true then Oper.wp Try.prog o a w K Q else E := by
  have hw : Region.wanted o (yielded ops a.tmps) = true := by simp [Region.wanted, hgd]
  rw [if_pos hw]
  obtain ⟨g, rfl, hg, _⟩ := hA.at 0 (by omega)
  have hAt : ∀ i (h : i < l.length), slotAt w g i l[i] := fun i hi => by obtain ⟨g', e, _, h⟩ := hA.at i hi; simp at e; subst e; exact h
  obtain ⟨i0, hi0, _, h5, _⟩ := info_parts Try.infoSlot
  have hRb : w.heap[r]? = some (.cells (roomC l.length (List.replicate 24 zS) none).toArray 54 (0, 0)) := hR
  have hl : (sls l).length = l.length * 5 := sls_length l
  have hz : (roomC l.length (List.replicate 24 zS) none).length = 122 := roomC_length (by simp)
  have hrun := run_copy5 (P := Try.prog) w 24 24 o.type 40 r 1 24 24 ⟨g, 0, none⟩ l.length ca _ _ (sls l) Try.underlying24 (by rw [hi0]; simp [h5]) hRb (by rw [hl, show Nat.min l.length 24 = l.length from Nat.min_eq_left h2])
    (fun j v hv => by rw [Addr.add_lit, Nat.zero_add]; exact rdA_cells hAt j v hv) (by rw [List.size_toArray, hz, hl]; omega) (one_sls l)
  have e : ((roomC l.length (List.replicate 24 zS) none).toArray.toList.take 1 ++ sls l ++ (roomC l.length (List.replicate 24 zS) none).toArray.toList.drop (1 + (sls l).length)) = roomC l.length (fillup l) none := by
    rw [List.toList_toArray, hl, roomC, roomC, show 1 + l.length * 5 = l.length * 5 + 1 by omega, List.drop_succ_cons, List.take_succ_cons, List.take_zero]
    have hsp : sls (List.replicate 24 zS) = sls (List.replicate l.length zS) ++ sls (List.replicate (24 - l.length) zS) := by
      rw [← sls_append, List.replicate_append_replicate]
      congr 2
      omega
    have hdr : (sls (List.replicate 24 zS) ++ [Value.pointer none]).drop (l.length * 5) = sls (List.replicate (24 - l.length) zS) ++ [Value.pointer none] := by
      rw [hsp, List.append_assoc, List.drop_left' (by rw [sls_length, List.length_replicate])]
    rw [hdr, fillup, sls_append]
    simp
  rw [e, show Nat.min l.length 24 = l.length from Nat.min_eq_left h2] at hrun
  unfold Oper.wp
  simp only [execOp, ho, resolve, invoke, builtin, Sem.run_bind, Sem.run_pure, Result.andThen_ok, List.map_toArray, List.map_cons, List.map_nil, hd, hs, hrun]
  exact h _ (setRow_heap w r _ _ _ _ hRb) ⟨rfl, rfl, rfl, by simp, fun k hk => setRow_other _ _ _ _ (by omega)⟩

theorem RoomAt.range {w : World} {r n : Nat} {L : List Sl} {p : Option Addr} (hR : RoomAt w r n L p) : w.rangeAt r 1 (sls L) := by
  intro j v hv
  rw [Blk.cell hR, roomC, show 1 + j = j + 1 by omega, List.getElem?_cons_succ, List.getElem?_append_left (List.getElem?_eq_some_iff.1 hv).1]
  exact hv
/-- What the room's test of one slot asks. -/
def slotFits (s : Sl) : Prop := 0 ≤ s.gen ∧ s.gen ≤ 41666665 ∧ (s.used = true → 1 ≤ s.key.size ∧ s.key.size ≤ 12 ∧ s.val.size ≤ 20)
theorem OkA.fits {l : List Sl} {f : Int} (h : OkA l f) (i : Nat) (hi : i < l.length) : slotFits l[i] := by
  have := h.slots i hi
  exact ⟨this.1, this.2.1, fun hu => ⟨(this.2.2.1 hu).1, (this.2.2.1 hu).2.1, (this.2.2.1 hu).2.2.1⟩⟩
def RoomRes (w w' : World) (e : Ending) (l : List Sl) (f : Int) : Prop :=
  ((∃ (r : Nat) (p : Option Addr) (V : List Nat), e = .returned (.tuple #[.pointer (some ⟨r, 0, none⟩), .bool true]) ∧ w.heap.size ≤ r ∧ OkA l f ∧ Chain l f V ∧ RoomAt w' r l.length (fillup l) p ∧ Lnk w' r p V) ∨ (e = .returned (.tuple #[.pointer none, .bool false]) ∧ ¬ OkA l f)) ∧ Below w.heap.size w w'
theorem RoomRes.no {w w' : World} {l : List Sl} {f : Int} (h : ¬ OkA l f) (hb : Below w.heap.size w w') : RoomRes w w' (.returned (.tuple #[.pointer none, .bool false])) l f := ⟨.inr ⟨rfl, h⟩, hb⟩
theorem RoomRes.yes {w w' : World} {l : List Sl} {f : Int} {r : Nat} {p : Option Addr} {V : List Nat} (hr : w.heap.size ≤ r) (h : OkA l f) (hc : Chain l f V) (h1 : RoomAt w' r l.length (fillup l) p) (h2 : Lnk w' r p V) (hb : Below w.heap.size w w') : RoomRes w w' (.returned (.tuple #[.pointer (some ⟨r, 0, none⟩), .bool true])) l f := ⟨.inl ⟨r, p, V, rfl, hr, h, hc, h1, h2⟩, hb⟩

set_option maxRecDepth 100000 in
set_option maxHeartbeats 2000000 in
theorem roomOf_any (ao : Option Addr) (l : List Sl) (ca : Nat) (f : Int) (w : World) (hl : l.length ≤ 1048576) (hA : RdA w ao l) :
    Calls Try.prog 20 #[arV ao l.length ca f] w fun e w' => RoomRes w w' e l f := by
  unfold arV
  by_cases c1 : 1 ≤ l.length
  · by_cases c2 : l.length ≤ 24
    · have q1 : decide ((l.length : Int) < 1) = false := decide_eq_false (by omega)
      have q2 : decide ((24 : Int) < (l.length : Int)) = false := decide_eq_false (by omega)
      obtain ⟨hz, _⟩ := zero_of_info Try.infoRoom
      obtain ⟨Z, hZ⟩ : ∃ Z, Z = (roomC 0 (List.replicate 24 zS) none).toArray := ⟨_, rfl⟩
      rw [← hZ] at hz
      have hne : ¬ Z = #[] := by rw [hZ]; intro e; have := congrArg Array.size e; simp [roomC] at this
      have F0 : Hid (RoomAt ((w.alloc (.cells #[.slice ao l.length ca, .int .i64 f] 26)).alloc (.cells (Z.setIfInBounds 0 (.int .i64 (l.length : Int))) 54)) (w.heap.size + 1) l.length (List.replicate 24 zS) none ∧ Blk ((w.alloc (.cells #[.slice ao l.length ca, .int .i64 f] 26)).alloc (.cells (Z.setIfInBounds 0 (.int .i64 (l.length : Int))) 54)) w.heap.size 26 [.slice ao l.length ca, .int .i64 f] ∧ Below w.heap.size w ((w.alloc (.cells #[.slice ao l.length ca, .int .i64 f] 26)).alloc (.cells (Z.setIfInBounds 0 (.int .i64 (l.length : Int))) 54))) := by
        refine ⟨?_, Blk.more (Blk.new w _ _) _, below2 w _ _⟩
        have := Blk.new (w.alloc (.cells #[.slice ao l.length ca, .int .i64 f] 26)) 54 (Z.setIfInBounds 0 (.int .i64 (l.length : Int)))
        have e : (Z.setIfInBounds 0 (.int .i64 (l.length : Int))).toList = roomC l.length (List.replicate 24 zS) none := by rw [hZ, Array.toList_setIfInBounds, List.toList_toArray, roomC, List.set_cons_zero]; rfl
        rw [World.size_alloc, e] at this
        exact this
      have HA := hide1 hA
      clear hZ hA
      go_enter Try.func20, Try.ntmps20
      go_upto_region 4 with fail
      generalize ((w.alloc (.cells #[.slice ao l.length ca, .int .i64 f] 26)).alloc (.cells (Z.setIfInBounds 0 (.int .i64 (l.length : Int))) 54)) = wn at F0 ⊢
      obtain ⟨FR, FN, FB⟩ := F0.out
      have FR := hide1 FR
      have FN := hide1 FN
      have FB := hide1 FB
      have x0 : wn.cell? ⟨w.heap.size, 0, none⟩ = some (.slice ao l.length ca) := FN.out.cell 0
      have X0 := hide1 x0
      have hsn : Hid (w.heap.size + 1 < wn.heap.size) := FR.out.lt
      have AN := hide1 (HA.out.later FB.out)
      clear F0 hz hne
      go_region_held3 (fun w' => w'.cell? ⟨w.heap.size, 0, none⟩ = some (.slice ao l.length ca)) (first | exact X0.out | exact (hcb.cell (by dsimp only; omega)).trans X0.out | go_keep) ((refine step_copyRoom rfl (.tmp 25) (.tmp 27) rfl (w.heap.size + 1) ca l ao (by rfl) (by rfl) (Blk.below FR.out (Below.refl _ _).drew FR.out.lt) (AN.out.later (Below.refl _ _).drew) c1 c2 ?_; intro w4 hcr hcb))
      have R4 := hide1 hcr
      have N4 : Hid (Blk w4 w.heap.size 26 [.slice ao l.length ca, .int .i64 f]) := FN.out.below ((Below.refl _ _).drew.trans hcb) (by omega)
      have B4 : Hid (Below w.heap.size w w4) := FB.out.trans (((Below.refl _ _).drew.trans hcb).mono (by omega))
      have A4 := hide1 (HA.out.later B4.out)
      have z0 : w4.cell? ⟨w.heap.size, 0, none⟩ = some (.slice ao l.length ca) := N4.out.cell 0
      have hs4 : Hid (w.heap.size + 1 < w4.heap.size) := hcr.lt
      clear hcr hcb FR FN FB X0 x0 hsn AN
      go_wp2
      go_loopw [32] (fun iv wr => ∃ i : Nat, i ≤ l.length ∧ iv = .int .i64 (i : Int) ∧ Hid (∀ j (h : j < l.length), j < i → slotFits l[j]) ∧ Hid (Below w4.heap.size w4 wr)) (fun iv _ => l.length - (intOf iv).toNat)
      case atStart => exact ⟨0, by omega, rfl, fun j _ h => by omega, Below.refl _ _⟩
      case round =>
        obtain ⟨i, hi, rfl, hfit, hbel⟩ := hrel
        by_cases hlt : i < l.length
        · have k1 : (i : Int) < (l.length : Int) := by omega
          obtain ⟨g, rfl, hg, h1⟩ := A4.out.at i hlt
          obtain ⟨y0, y1, y2, y3, y4⟩ := h1.below hbel.out hg
          have hnot := hide1 (fun (h : ¬ slotFits l[i]) (ho : OkA l f) => h (ho.fits i hlt))
          have hyes := hide1 (fun (h : slotFits l[i]) j (hj : j < l.length) (hj2 : j < i + 1) => show slotFits l[j] by
            by_cases e : j < i
            · exact hfit.out j hj e
            · obtain rfl : j = i := by omega
              exact h)
          generalize hs : l[i] = s at *
          clear hs h1
          obtain ⟨gn, us, ky, vl, nx⟩ := s
          simp only [slotFits] at y0 y1 y2 y3 y4 hnot hyes
          have BW : Hid (Below w.heap.size w (wr.alloc (.cells #[.int .i64 gn, .bool us, .string ky, .string vl, .int .i64 nx] 40))) := (B4.out.trans (hbel.out.mono (by have := hs4.out; omega))).alloc (by have := hs4.out; have := hbel.out.size; omega) _
          have BX : Hid (Below w4.heap.size w4 (wr.alloc (.cells #[.int .i64 gn, .bool us, .string ky, .string vl, .int .i64 nx] 40))) := hbel.out.alloc hbel.out.size _
          have NN : Hid (slotAt (wr.alloc (.cells #[.int .i64 gn, .bool us, .string ky, .string vl, .int .i64 nx] 40)) wr.heap.size 0 ⟨gn, us, ky, vl, nx⟩) :=
            ⟨World.cell?_alloc_at _ _ _ _ rfl, World.cell?_alloc_at _ _ _ _ rfl, World.cell?_alloc_at _ _ _ _ rfl, World.cell?_alloc_at _ _ _ _ rfl, World.cell?_alloc_at _ _ _ _ rfl⟩
          go_upto_region 8 with fail
          generalize (wr.alloc (.cells #[.int .i64 gn, .bool us, .string ky, .string vl, .int .i64 nx] 40)) = wv at NN BW BX ⊢
          obtain ⟨n0, n1, n2, n3, n4⟩ := NN.out
          simp only [Nat.zero_mul, Nat.zero_add] at n0 n1 n2 n3 n4
          clear NN y0 y1 y2 y3 y4 hfit hbel
          by_cases d1 : gn < 0
          · have q3 : decide (gn < 0) = true := decide_eq_true d1
            have HN := hide1 (hnot.out (fun h => by have := h.1; omega))
            clear d1 hyes hnot
            go_wp2
            go_ret2
            exact RoomRes.no HN.out BW.out
          · have q3 : decide (gn < 0) = false := decide_eq_false d1
            by_cases d2 : 41666665 < gn
            · have q4 : decide (41666665 < gn) = true := decide_eq_true d2
              have HN := hide1 (hnot.out (fun h => by have := h.2.1; omega))
              clear d1 d2 hyes hnot
              go_wp2
              go_ret2
              exact RoomRes.no HN.out BW.out
            · have q4 : decide (41666665 < gn) = false := decide_eq_false d2
              rcases us with _ | _
              · have HY := hide1 (hyes.out ⟨by omega, by omega, fun h => by cases h⟩)
                clear d1 d2 hyes hnot
                go_wp2
                go_roundw
                case rel => exact ⟨i + 1, by omega, by go_num, HY, BX⟩
                case measure => simp [intOf]; omega
              · have CF := hide1 (fits_any ky vl wv)
                rcases hf : fits ky vl with _ | _
                · have HN := hide1 (hnot.out (fun h => by have := (fits_iff ky vl).2 (h.2.2 rfl); rw [hf] at this; cases this))
                  rw [hf] at CF
                  clear d1 d2 hyes hnot hf
                  go_wp2_with fail
                  refine CF.out.mono ?_
                  rintro e w5 ⟨rfl, rfl⟩
                  go_wp2
                  go_ret2
                  exact RoomRes.no HN.out BW.out
                · have HY := hide1 (hyes.out ⟨by omega, by omega, fun _ => (fits_iff ky vl).1 hf⟩)
                  rw [hf] at CF
                  clear d1 d2 hyes hnot hf
                  go_wp2_with fail
                  refine CF.out.mono ?_
                  rintro e w5 ⟨rfl, rfl⟩
                  go_wp2
                  go_roundw
                  case rel => exact ⟨i + 1, by omega, by go_num, HY, BX⟩
                  case measure => simp [intOf]; omega
        · obtain rfl : i = l.length := by omega
          have R5 := hide1 (R4.out.below hbel.out hs4.out)
          have B5 : Hid (Below w.heap.size w wr) := B4.out.trans (hbel.out.mono (by have := hs4.out; omega))
          have N5 := hide1 (N4.out.below hbel.out (by have := hs4.out; omega))
          have HF := hide1 (fun j (hj : j < l.length) => hfit.out j hj hj)
          have HL := hide1 (fillup_length c2)
          have v1 : wr.cell? ⟨w.heap.size, 1, none⟩ = some (.int .i64 f) := N5.out.cell 1
          have hs5 : Hid (w.heap.size + 1 < wr.heap.size) := R5.out.lt
          clear hbel hfit R4 N4 B4 A4 z0 hs4
          generalize wr = w5 at *
          have V1 := hide1 v1
          have LD0 := hide1 R5.out.range
          have hu50 := Try.underlying51
          have hi50 : (Try.prog.info? 51).map (·.size) = some (sls (fillup l)).length := by rw [(zero_of_info Try.infoArr).2, sls_length, HL.out]
          have CL := hide1 (fun w' (hw : w'.heap = w5.heap) => link_any (w := w') (r := w.heap.size + 1) (l := l) f (by unfold RoomAt Blk; rw [hw]; exact R5.out) c2)
          by_cases hch : ∃ V, Chain l f V
          · obtain ⟨V, hV⟩ := hch
            have HC := hide1 hV
            have hVlt := hide1 (fun k hk => Nat.lt_of_lt_of_le (hV.lt k hk) c2)
            have CL2 : Hid (∀ w', w'.heap = w5.heap → Calls Try.prog 35 #[.pointer (some ⟨w.heap.size + 1, 0, none⟩), .int .i64 f] w' fun e w6 => e = .returned (.bool true) ∧ (∃ p, RoomAt w6 (w.heap.size + 1) l.length (fillup l) p ∧ Lnk w6 (w.heap.size + 1) p V) ∧ Below (w.heap.size + 1) w' w6) := by
              intro w' hw
              refine (CL.out w' hw).mono ?_
              rintro e w6 ⟨⟨V', p, rfl, hc, hr, hk⟩ | ⟨_, hno⟩, hb⟩
              · have := Chain.det hc hV
                subst this
                exact ⟨rfl, ⟨p, hr, hk⟩, hb⟩
              · exact absurd hV (hno V)
            have gA := guardArr
            rcases hq : eqLs (wrt (fillup l) l.length V) (fillup l) 24 with _ | _
            · have HN : Hid (¬ OkA l f) := fun ho => by
                have hw := wrt_eq ho hV (fillup_length c2) (fun i hi => ⟨l[i], fillup_at i hi, rfl, fun _ => ⟨rfl, rfl⟩⟩)
                have := (eqLs_iff (wrt (fillup l) l.length V) (fillup l) (by rw [hw])).2 hw
                rw [hw, fillup_length c2] at this
                rw [hw] at hq
                rw [hq] at this
                cases this
              have heq : ∀ w, (Op.equalIn 10000 51 (.agg (sls (wrt (fillup l) l.length V)).toArray) (.agg (sls (fillup l)).toArray)).run Try.prog w = .ok false w := fun w => by
                rw [← hq]
                exact eqArrV 9997 _ _ (by rw [wrt, wrtV_length, wrtU_length (fillup_length c2) c2]) (fillup_length c2) w
              clear hV hq CL
              go_upto_region 11 with fail
              go_region_held3 (fun w' => w'.cell? ⟨w.heap.size, 1, none⟩ = some (.int .i64 f) ∧ w'.rangeAt (w.heap.size + 1) 1 (sls (fillup l))) (first | exact ⟨(HB7.cell (by dsimp only; omega)).trans V1.out, HR7.range⟩ | exact ⟨V1.out, RoomAt.range (Blk.below R5.out (Below.refl _ _).drew R5.out.lt)⟩ | exact ⟨V1.out, LD0.out⟩) ((first | (go_at_call 35; refine (CL2.out w5.drew rfl).mono ?_; rintro e w6 ⟨rfl, ⟨p, hr6, hk6⟩, hb6⟩; have HR7 := hr6; have HB7 : Below (w.heap.size + 1) w5 w6 := (Below.refl _ _).drew.trans hb6) | (go_at_call 36; refine (written_any hr6 HL.out c2 hk6 hVlt.out).mono ?_; rintro e w7 ⟨rfl, hb7⟩; have HR7 := hr6.below hb7 hr6.lt; have HB7 : Below (w.heap.size + 1) w5 w7 := HB7.trans (hb7.mono (by have := hr6.lt; omega)))))
              go_wp2
              go_ret2
              exact RoomRes.no HN.out (B5.out.trans (HB7.mono (by omega)))
            · have HO : Hid (OkA l f) := by
                have hw := (eqLs_iff (wrt (fillup l) l.length V) (fillup l) (by rw [wrt, wrtV_length, wrtU_length (fillup_length c2) c2, fillup_length c2])).1 (by rw [wrt, wrtV_length, wrtU_length (fillup_length c2) c2]; exact hq)
                exact wrt_ok hV c1 c2 (fun i hi => HF.out i hi) hw
              have heq : ∀ w, (Op.equalIn 10000 51 (.agg (sls (wrt (fillup l) l.length V)).toArray) (.agg (sls (fillup l)).toArray)).run Try.prog w = .ok true w := fun w => by
                rw [← hq]
                exact eqArrV 9997 _ _ (by rw [wrt, wrtV_length, wrtU_length (fillup_length c2) c2]) (fillup_length c2) w
              clear hV hq CL
              go_upto_region 11 with fail
              go_region_held3 (fun w' => w'.cell? ⟨w.heap.size, 1, none⟩ = some (.int .i64 f) ∧ w'.rangeAt (w.heap.size + 1) 1 (sls (fillup l))) (first | exact ⟨(HB7.cell (by dsimp only; omega)).trans V1.out, HR7.range⟩ | exact ⟨V1.out, RoomAt.range (Blk.below R5.out (Below.refl _ _).drew R5.out.lt)⟩ | exact ⟨V1.out, LD0.out⟩) ((first | (go_at_call 35; refine (CL2.out w5.drew rfl).mono ?_; rintro e w6 ⟨rfl, ⟨p, hr6, hk6⟩, hb6⟩; have HR7 := hr6; have HB7 : Below (w.heap.size + 1) w5 w6 := (Below.refl _ _).drew.trans hb6) | (go_at_call 36; refine (written_any hr6 HL.out c2 hk6 hVlt.out).mono ?_; rintro e w7 ⟨rfl, hb7⟩; have HR7 := hr6.below hb7 hr6.lt; have HB7 : Below (w.heap.size + 1) w5 w7 := HB7.trans (hb7.mono (by have := hr6.lt; omega)))))
              go_wp2
              go_ret2
              exact RoomRes.yes (Nat.le_succ _) HO.out HC.out HR7 (hk6.below hb7) (B5.out.trans (HB7.mono (by omega)))
          · have HN : Hid (¬ OkA l f) := fun ho => by
              obtain ⟨V, hV, _⟩ := ho.chain
              exact hch ⟨V, hV⟩
            have CL2 : Hid (∀ w', w'.heap = w5.heap → Calls Try.prog 35 #[.pointer (some ⟨w.heap.size + 1, 0, none⟩), .int .i64 f] w' fun e w6 => e = .returned (.bool false) ∧ Below (w.heap.size + 1) w' w6) := by
              intro w' hw
              refine (CL.out w' hw).mono ?_
              rintro e w6 ⟨⟨V', p, rfl, hc, hr, hk⟩ | ⟨rfl, hno⟩, hb⟩
              · exact absurd ⟨V', hc⟩ hch
              · exact ⟨rfl, hb⟩
            clear hch CL
            go_upto_region 11 with fail
            first | go_region_with (go_at_call 35; refine (CL2.out w5.drew rfl).mono ?_; rintro e w6 ⟨rfl, hb6⟩; have HB7 : Below (w.heap.size + 1) w5 w6 := (Below.refl _ _).drew.trans hb6) | fail
            all_goals
              go_wp2
              go_ret2
              exact RoomRes.no HN.out (B5.out.trans (HB7.mono (by omega)))
    · have q1 : decide ((l.length : Int) < 1) = false := decide_eq_false (by omega)
      have q2 : decide ((24 : Int) < (l.length : Int)) = true := decide_eq_true (by omega)
      have HN : Hid (¬ OkA l f) := fun h => c2 h.most
      clear hA c1 c2
      go_enter Try.func20, Try.ntmps20
      go_wp2
      go_ret2
      exact RoomRes.no HN.out (by go_grown)
  · have q1 : decide ((l.length : Int) < 1) = true := decide_eq_true (by omega)
    have HN : Hid (¬ OkA l f) := fun h => c1 h.least
    clear hA c1
    go_enter Try.func20, Try.ntmps20
    go_wp2
    go_ret2
    exact RoomRes.no HN.out (by go_grown)
end Go.Proofs.Ytcbfceefhoeooaa
