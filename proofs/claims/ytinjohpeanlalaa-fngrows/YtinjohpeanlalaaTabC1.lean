/- All keys of a table laid anew: plain, by the program, by the model. -/
import Derived.Test.YtinjohpeanlalaaTabKF
import Derived.Test.YtinjohpeanlalaaXK
namespace Go.Proofs.Ytinjohpeanlalaa
open Go.RowKit

def putAll : List Ce → List Ce → Option (List Ce)
  | [], X => some X
  | e :: es, X => match putC X e.key e.h with
    | some Y => putAll es Y
    | none => none
def cleanR (l o : List Ce) : Option (List Ce × List Ce × Int) := (putAll (sortE (entT l o)) (List.replicate l.length nC)).map (fun X => (X, [], 0))
theorem putC_set {l l' : List Ce} {key : ByteArray} {h : Int} (e : putC l key h = some l') : ∃ k, k < l.length ∧ l' = l.set k ⟨key, h⟩ := by
  unfold putC at e
  split at e
  · rename_i k hk
    split at e
    · rename_i x hx
      split at e
      · cases e
      · injection e with e
        exact ⟨k, (List.getElem?_eq_some_iff.1 hx).1, e.symm⟩
    · cases e
  · cases e
theorem nC_key : nC.key.toList = [] := by
  unfold nC
  rw [ByteArray.toList, ByteArray.toList.loop]
  rfl
/-- What the cells are when the first i keys are laid. -/
structure Cln (E X : List Ce) (n i : Nat) : Prop where
  len : X.length = n
  fit : FitC X
  keys : ∀ j (h : j < X.length), X[j].key.toList ≠ [] → ∃ k, ∃ hk : k < E.length, k < i ∧ E[k].key = X[j].key
  all : putAll E (List.replicate n nC) = putAll (E.drop i) X
theorem Cln.new (E : List Ce) (n : Nat) : Cln E (List.replicate n nC) n 0 := by
  refine ⟨List.length_replicate, ?_, ?_, by rw [List.drop_zero]⟩
  · intro i hi
    rw [List.getElem_replicate]
    exact .inl ⟨nC_key, .inl rfl⟩
  · intro j hj h
    rw [List.getElem_replicate] at h
    exact absurd nC_key h
theorem Cln.none {E X : List Ce} {n i : Nat} (h : Cln E X n i) (hd : Dis E) (hi : i < E.length) (hk : E[i].key.toList ≠ []) : (srchC X E[i].key).1 = none := by
  cases hs : (srchC X E[i].key).1 with
  | none => rfl
  | some k =>
    exfalso
    have hkl := srchC_lt hs
    rw [srchC_seek h.fit hk] at hs
    have he := seekC_key hs hkl
    obtain ⟨m, hm, hmi, hme⟩ := h.keys k hkl (by rw [he]; exact hk)
    exact (List.pairwise_iff_getElem.1 hd m i hm hi hmi) (hme.trans he)
theorem drop_one {E : List Ce} {i : Nat} (hi : i < E.length) : E.drop i = E[i] :: E.drop (i + 1) := List.drop_eq_getElem_cons hi
theorem Cln.put {E X Y : List Ce} {n i : Nat} (h : Cln E X n i) (hi : i < E.length) (hf : E[i].key.toList ≠ [] ∧ E[i].key.size ≤ 12 ∧ 0 ≤ E[i].h) (he : putC X E[i].key E[i].h = some Y) : Cln E Y n (i + 1) := by
  have h4 := h.all
  rw [drop_one hi, putAll, he] at h4
  obtain ⟨k, hk, rfl⟩ := putC_set he
  refine ⟨by rw [List.length_set]; exact h.len, ?_, ?_, h4⟩
  · intro j hj
    rw [List.getElem_set]
    split
    · exact .inr hf
    · exact h.fit j (by rwa [List.length_set] at hj)
  · intro j hj hn
    rw [List.getElem_set] at hn ⊢
    split at hn
    · rename_i e
      rw [if_pos e]
      exact ⟨i, hi, by omega, rfl⟩
    · rename_i e
      rw [if_neg e]
      obtain ⟨m, hm, hmi, hme⟩ := h.keys j (by rwa [List.length_set] at hj) hn
      exact ⟨m, hm, by omega, hme⟩
theorem Cln.no {E X : List Ce} {n i : Nat} (h : Cln E X n i) (hi : i < E.length) (he : putC X E[i].key E[i].h = Option.none) : putAll E (List.replicate n nC) = Option.none := by
  rw [h.all, drop_one hi, putAll, he]
theorem Cln.done {E X : List Ce} {n i : Nat} (h : Cln E X n i) (hi : i = E.length) : putAll E (List.replicate n nC) = some X := by
  rw [h.all, hi, List.drop_length, putAll]
theorem dis_sort {es : List Ce} (hd : Dis es) : Dis (sortE es) := (sortE_asc hd).1.imp (fun h e => by rw [e, kLt_irr] at h; cases h)
theorem ent_fit {l o : List Ce} {mv : Int} (h : OkT l o mv) {i : Nat} (hi : i < (sortE (entT l o)).length) : (sortE (entT l o))[i].key.toList ≠ [] ∧ (sortE (entT l o))[i].key.size ≤ 12 ∧ 0 ≤ (sortE (entT l o))[i].h := by
  have hx := (sortE_asc (dis_ent h)).2.mem_iff.1 (List.getElem_mem hi)
  obtain ⟨f1, s1⟩ := ok_iff.1 h.cells.1
  obtain ⟨f2, s2⟩ := ok_iff.1 h.olds.1
  generalize (sortE (entT l o))[i] = x at *
  rcases List.mem_append.1 hx with hx | hx
  · obtain ⟨j, hj, e, hn⟩ := keyed_mem hx
    rcases f1 j hj with f | f <;> rw [e] at f
    · exact absurd f.1 hn
    · exact f
  · obtain ⟨j, hj, e, hn⟩ := keyed_mem hx
    rcases f2 j hj with f | f <;> rw [e] at f
    · exact absurd f.1 hn
    · exact f
theorem clean_small {l o : List Ce} {L O : List Ce} {m : Int} (h : cleanR l o = some (L, O, m)) (hl : l.length ≤ 64) : L.length ≤ 64 ∧ O.length ≤ 64 := by
  have key : ∀ (E X Y : List Ce), putAll E X = some Y → Y.length = X.length := by
    intro E
    induction E with
    | nil => intro X Y h; rw [putAll] at h; injection h with h; rw [h]
    | cons e es ih =>
      intro X Y h
      rw [putAll] at h
      cases hp : putC X e.key e.h with
      | none => rw [hp] at h; cases h
      | some Z => rw [hp] at h; rw [ih _ _ h, putC_length hp]
  unfold cleanR at h
  cases hp : putAll (sortE (entT l o)) (List.replicate l.length nC) with
  | none => rw [hp] at h; cases h
  | some Y =>
    rw [hp] at h
    injection h with h
    injection h with h1 h2
    injection h2 with h2 h3
    have := key _ _ _ hp
    rw [List.length_replicate] at this
    rw [← h1, ← h2]
    exact ⟨by omega, by simp⟩

theorem Brd.far {B b g mv : Nat} {w w' : World} {l o : List Ce} (h : Brd B w b g l o mv) (hb : w'.heap[b]? = w.heap[b]?) (hg : w'.heap[g]? = w.heap[g]?) : Brd B w' b g l o mv := ⟨h.lb, h.lg, h.ne, hb.trans h.hd, hg.trans h.tl⟩

set_option maxRecDepth 100000 in
set_option maxHeartbeats 4000000 in
theorem implClean_any (ao a' : Option Addr) (l o : List Ce) (ca ca' : Nat) (mv : Int) (w : World) (hl : l.length ≤ 1048576) (hl' : o.length ≤ 1048576) (hA : RdJ w ao l) (hA' : RdJ w a' o) :
    Calls Try.prog 25 #[tbV ao l.length ca a' o.length ca' mv] w fun e w' => MadeT w w' e (OkT l o mv) (cleanR l o) := by
  have CB := hide1 (fun w' (hb : Below w.heap.size w w') => boardOf_any ao a' l o ca ca' mv w' hl hl' (hA.later hb) (hA'.later hb))
  have F0 := hide1 (boxes w #[.slice ao l.length ca, .slice a' o.length ca', .int .i64 mv] #[.slice none 0 0, .slice none 0 0, .int .i64 0] 29)
  clear hA hA'
  unfold tbV at CB ⊢
  go_enter Try.func25, Try.ntmps25
  go_wp2_with fail
  generalize ((w.alloc (.cells #[.slice ao l.length ca, .slice a' o.length ca', .int .i64 mv] 29)).alloc (.cells #[.slice none 0 0, .slice none 0 0, .int .i64 0] 29)) = w0 at F0 ⊢
  obtain ⟨K0, R0, B0⟩ := F0.out
  have R0 := hide1 R0
  have B0 := hide1 B0
  clear F0 K0
  refine (CB.out w0 B0.out).mono ?_
  rintro e w1 ⟨hr, hb1⟩
  have R1 := hide1 (R0.out.below hb1 R0.out.lt)
  have B1 := hide1 (B0.out.trans (hb1.mono B0.out.size))
  have S1 := hide1 hb1.size
  have HRS := hide1 R0.out.lt
  have HR1 := hide1 (Nat.lt_of_lt_of_le R0.out.lt S1.out)
  clear hb1 CB R0 S1
  have hrs : w.heap.size + 1 < w0.heap.size := HRS.out
  rcases hr with ⟨b, g, m, rfl, hm, hok, hbr⟩ | ⟨v, rfl, hn⟩
  · subst hm
    have HOK := hide1 hok
    have hle := hok.len.1
    have hl0 := hok.len.2.2
    have CE := hide1 (fun w' (hb : Below w1.heap.size w1 w') => entries2_any (hbr.later hb) hok.len.1 hok.len.2.1 (dis_ent hok))
    have CN := hide1 (newBoard_any l.length 0 w1 (by omega))
    have hel : (entT l o).length ≤ 128 := by have := ent_length (l := l) (o := o); have := hok.len; omega
    have HSL := hide1 (sortE_length (dis_ent hok))
    have HFT := hide1 (fun i (hi : i < (sortE (entT l o)).length) => ent_fit hok hi)
    have HDS := hide1 (dis_sort (dis_ent hok))
    have x0 : w1.cell? ⟨b, 0, none⟩ = some (.slice (some ⟨g, 0, none⟩) l.length l.length) := hbr.hd.cell 0
    clear hok hbr
    go_wp2_with fail
    refine CN.out.mono ?_
    rintro e w2 ⟨b2, g2, rfl, hbr2, hb2⟩
    have D2 := hide1 hbr2
    have R2 := hide1 (R1.out.below hb2 R1.out.lt)
    have B2 := hide1 (B1.out.trans (hb2.mono B1.out.size))
    have BE := hide1 hb2
    have S1 := hide1 B1.out.size
    clear hbr2 hb2 CN x0 R1
    go_wp2_with fail
    refine (CE.out _ BE.out).mono ?_
    rintro e w3 ⟨eo, ec, rfl, hrd, hb3, hlo⟩
    have D3 := hide1 (D2.out.later hb3)
    have R3 := hide1 (R2.out.below hb3 R2.out.lt)
    have B3 := hide1 (B2.out.trans (hb3.mono B2.out.size))
    have HRD := hide1 hrd
    have HLO := hide1 (fun bb of e h => Nat.lt_of_lt_of_le D2.out.tl.lt (hlo bb of e h))
    clear hrd hb3 hlo CE D2 R2 B2 BE
    obtain ⟨E, hE⟩ : ∃ E, sortE (entT l o) = E := ⟨_, rfl⟩
    rw [hE] at HRD HSL HFT HDS
    have HE0 := hide1 (show cleanR l o = (putAll E (List.replicate l.length nC)).map (fun X => (X, [], 0)) by rw [cleanR, hE])
    clear hE
    rw [← HSL.out] at hel HLO ⊢
    generalize hn0 : l.length = n at *
    go_wp2
    go_loopw [26] (fun iv wr => ∃ (i : Nat) (X : List Ce), i ≤ E.length ∧ iv = .int .i64 (i : Int) ∧ Hid (Cln E X n i) ∧ Hid (Brd w1.heap.size wr b2 g2 X [] 0) ∧ Hid (w3.grownBy wr (some g2))) (fun iv _ => E.length - (intOf iv).toNat)
    case atStart => exact ⟨0, _, by omega, rfl, Cln.new E n, D3, gnew (Below.refl _ _)⟩
    case round =>
      obtain ⟨i, X, hi, rfl, hcl, hbd, hgr⟩ := hrel
      have RG := hide1 (show Blk wr (w.heap.size + 1) 29 [.slice none 0 0, .slice none 0 0, .int .i64 0] from (hgr.out.block _ R3.out.lt (by intro e; injection e with e; have := D3.out.lg; have := HR1.out; omega)).trans R3.out)
      have BG := hide1 (show Below w.heap.size w wr from B3.out.trans (gbelow hgr.out (fun g' e => by injection e with e; rw [← e]; exact Nat.le_trans S1.out D3.out.lg) B3.out.size))
      by_cases hlt : i < E.length
      · have k1 : (i : Int) < (E.length : Int) := by omega
        obtain ⟨bb, of, hao, hb, h1⟩ := HRD.out i hlt
        have hbg : wr.heap[bb]? = w3.heap[bb]? := hgr.out.block bb hb (by intro e; injection e with e; have := HLO.out bb of hao (by omega); omega)
        have x0 : wr.cell? ⟨bb, of + i * 2, none⟩ = some (.string E[i].key) := (World.cell?_of_block (w := w3) hbg).trans h1.1
        have x1 : wr.cell? ⟨bb, of + i * 2 + 1, none⟩ = some (.int .i64 E[i].h) := (World.cell?_of_block (w := w3) hbg).trans h1.2
        have hft := hide1 (HFT.out i hlt)
        have HNN := hide1 (hcl.out.none HDS.out hlt hft.out.1)
        have HPT := hide1 (fun Y he => hcl.out.put (Y := Y) hlt hft.out he)
        have HNO := hide1 (fun he => hcl.out.no hlt he)
        have HLP := hide1 (layC_put hcl.out.fit HNN.out E[i].h)
        have CL := hide1 (fun wx (hx : Brd w1.heap.size wx b2 g2 X [] 0) => lay_grown hx E[i] (by have := hcl.out.len; omega) (by have := hcl.out.len; omega) (by have := hft.out.2.1; omega))
        generalize E[i] = s at *
        obtain ⟨ky, hh⟩ := s
        unfold ceV at CL
        simp only at x0 x1 CL HPT HNO HLP
        have NN : Hid (Blk (wr.alloc (.cells #[.string ky, .int .i64 hh] 47)) wr.heap.size 47 [.string ky, .int .i64 hh] ∧ Below wr.heap.size wr (wr.alloc (.cells #[.string ky, .int .i64 hh] 47))) := ⟨Blk.new wr _ _, (Below.refl _ _).alloc (Nat.le_refl _) _⟩
        rw [hao]
        clear h1 hao hft HNN hcl
        go_upto_region 8 with fail
        generalize (wr.alloc (.cells #[.string ky, .int .i64 hh] 47)) = wv at NN ⊢
        have n0 : wv.cell? ⟨wr.heap.size, 0, none⟩ = some (.string ky) := NN.out.1.cell 0
        have n1 : wv.cell? ⟨wr.heap.size, 1, none⟩ = some (.int .i64 hh) := NN.out.1.cell 1
        have DV := hide1 (hbd.out.later NN.out.2)
        have GV := hide1 (hgr.out.trans (gnew NN.out.2))
        have RV := hide1 (RG.out.below NN.out.2 RG.out.lt)
        have BV := hide1 (BG.out.trans (NN.out.2.mono BG.out.size))
        clear NN x0 x1 hbd hgr RG BG
        go_wp2_with fail
        refine (CL.out _ DV.out).mono ?_
        rintro e w5 ⟨hr5, hg5⟩
        have GW := hide1 (GV.out.trans hg5)
        have R5 := hide1 (show Blk w5 (w.heap.size + 1) 29 [.slice none 0 0, .slice none 0 0, .int .i64 0] from (hg5.block _ RV.out.lt (by intro e; injection e with e; have := DV.out.lg; have := HR1.out; omega)).trans RV.out)
        have B5 := hide1 (show Below w.heap.size w w5 from BV.out.trans (gbelow hg5 (fun g' e => by injection e with e; rw [← e]; exact Nat.le_trans S1.out DV.out.lg) BV.out.size))
        clear hg5 CL n0 n1 GV RV BV
        rcases hr5 with ⟨Y, hY, rfl, hbY⟩ | ⟨hY, rfl, _⟩
        · have HC := hide1 (HPT.out Y (HLP.out.symm.trans hY))
          have HB := hide1 hbY
          clear hY hbY HPT HNO HLP
          go_wp2
          go_roundw
          case rel => exact ⟨i + 1, Y, by omega, by go_num, HC, HB, GW⟩
          case measure => simp [intOf]; omega
        · have HNP := hide1 (HNO.out (HLP.out.symm.trans hY))
          have HNQ := hide1 (show cleanR l o = none by rw [HE0.out, HNP.out]; rfl)
          clear hY HPT HNO HLP HNP
          have HN := hide1 (MadeT.no (r := w.heap.size + 1) (R := cleanR l o) (ok := OkT l o (m : Int)) B5.out (by omega) (fun hp => by obtain ⟨_, x, hx⟩ := hp; rw [HNQ.out] at hx; cases hx) (.slice none 0 0) (.slice none 0 0) (.int .i64 0))
          have HH := hide1 (put3_blk R5.out (.slice none 0 0) (.slice none 0 0) (.int .i64 0))
          have y0 : w5.cell? ⟨w.heap.size + 1, 0, none⟩ = some (.slice none 0 0) := R5.out.cell 0
          have y1 : w5.cell? ⟨w.heap.size + 1, 1, none⟩ = some (.slice none 0 0) := R5.out.cell 1
          have y2 : w5.cell? ⟨w.heap.size + 1, 2, none⟩ = some (.int .i64 0) := R5.out.cell 2
          have yf : ∀ j, w5.frozen? ⟨w.heap.size + 1, j, none⟩ = false := fun j => R5.out.froz j
          unfold put3 at HN HH
          go_wp2
          refine bodyPost_ret (res2 Try.results25 _ _ (w.heap.size + 1) 29 #[.slice none 0 0, .slice none 0 0, .int .i64 0] (0, 0) _ rfl HH.out Try.underlying29 rfl (by kernel_rfl)) rfl ?_
          exact HN.out
      · have HDN := hide1 (hcl.out.done (by omega))
        have HNQ := hide1 (show cleanR l o = some (X, [], 0) by rw [HE0.out, HDN.out]; rfl)
        have hlX : X.length = n := hcl.out.len
        have DW := hide1 hbd.out
        have hX64 : X.length ≤ 1048576 := by omega
        clear hcl hbd hgr HDN hlX
        have CT := hide1 (table_any (some ⟨g2, 0, none⟩) (oldP g2 (X).length (([] : List Ce)).length) (X) (([] : List Ce)) _ _ _ DW.out.hd (hX64) (Nat.zero_le _) DW.out.cells DW.out.olds)
        have hrr : w.heap.size + 1 < wr.heap.size := RG.out.lt
        go_wp2_with fail
        refine CT.out.mono ?_
        rintro e w9 ⟨v, rfl, b3, c3, b4, c4, rfl, ho3, ho4, hne, hb3⟩
        have R9 := hide1 (RG.out.below hb3 RG.out.lt)
        have HN := hide1 (MadeT.yes (r := w.heap.size + 1) (ok := OkT l o (m : Int)) (R := cleanR l o) BG.out (by omega) hrr ho3 ho4 hne hb3 (HOK.out) (HNQ.out) (.slice (some ⟨b3, 0, none⟩) (X).length c3) (.slice (some ⟨b4, 0, none⟩) (([] : List Ce)).length c4) (.int .i64 (0)))
        have HH := hide1 (put3_blk R9.out (.slice (some ⟨b3, 0, none⟩) (X).length c3) (.slice (some ⟨b4, 0, none⟩) (([] : List Ce)).length c4) (.int .i64 (0)))
        have y0 : w9.cell? ⟨w.heap.size + 1, 0, none⟩ = some (.slice none 0 0) := R9.out.cell 0
        have y1 : w9.cell? ⟨w.heap.size + 1, 1, none⟩ = some (.slice none 0 0) := R9.out.cell 1
        have y2 : w9.cell? ⟨w.heap.size + 1, 2, none⟩ = some (.int .i64 0) := R9.out.cell 2
        have yf : ∀ j, w9.frozen? ⟨w.heap.size + 1, j, none⟩ = false := fun j => R9.out.froz j
        unfold put3 at HN HH
        unfold tbV
        generalize (X).length = nL at *
        rw [List.length_nil] at HN HH ⊢
        clear ho3 ho4 hb3 CT
        go_wp2
        refine bodyPost_ret (res2 Try.results25 _ _ (w.heap.size + 1) 29 #[.slice (some ⟨b3, 0, none⟩) nL c3, .slice (some ⟨b4, 0, none⟩) 0 c4, .int .i64 (0)] (0, 0) _ rfl HH.out Try.underlying29 rfl (by kernel_rfl)) rfl ?_
        exact HN.out
  · have HNO := hide1 hn
    clear hn
    have HN := hide1 (MadeT.no (r := w.heap.size + 1) (R := cleanR l o) (ok := OkT l o mv) B1.out (by omega) (fun hp => HNO.out hp.1) (.slice none 0 0) (.slice none 0 0) (.int .i64 0))
    have HH := hide1 (put3_blk R1.out (.slice none 0 0) (.slice none 0 0) (.int .i64 0))
    have y0 : w1.cell? ⟨w.heap.size + 1, 0, none⟩ = some (.slice none 0 0) := R1.out.cell 0
    have y1 : w1.cell? ⟨w.heap.size + 1, 1, none⟩ = some (.slice none 0 0) := R1.out.cell 1
    have y2 : w1.cell? ⟨w.heap.size + 1, 2, none⟩ = some (.int .i64 0) := R1.out.cell 2
    have yf : ∀ j, w1.frozen? ⟨w.heap.size + 1, j, none⟩ = false := fun j => R1.out.froz j
    unfold put3 at HN HH
    go_wp2
    refine bodyPost_ret (res2 Try.results25 _ _ (w.heap.size + 1) 29 #[.slice none 0 0, .slice none 0 0, .int .i64 0] (0, 0) _ rfl HH.out Try.underlying29 rfl (by kernel_rfl)) rfl ?_
    exact HN.out

theorem specPut2_any (g c base : Nat) (l : List Ce) (key : ByteArray) (h : Int) (w : World) (hl : l.length ≤ 1048576) (h1 : 1 ≤ l.length) (hk : key.size ≤ 1048576) (hown : w.ownsRow base 47 2 (.slice (some ⟨g, 0, none⟩) l.length c) l.length (ces l)) :
    Calls Try.prog 47 #[.slice (some ⟨g, 0, none⟩) l.length c, .string key, .int .i64 h] w fun e w' => ∃ (t : Bool) (Y : List Ce), e = .returned (.bool t) ∧ putC l key h = (if t then some Y else none) ∧ w'.ownsRow base 47 2 (.slice (some ⟨g, 0, none⟩) l.length c) l.length (ces Y) ∧ w.grownBy w' (some g) := by
  refine (specPut_any g c base l key h w hl h1 hk hown).mono ?_
  rintro e w' ⟨⟨l', h1, h2, h3⟩ | ⟨h1, h2, h3⟩, hg⟩
  · exact ⟨true, l', h2, h1, h3, hg⟩
  · exact ⟨false, l, h2, h1, by rw [h3]; exact hown, hg⟩
theorem seekA_ent {l o : List Ce} {mv : Int} (h : OkT l o mv) {i : Nat} (hi : i < (sortE (entT l o)).length) {x : Int} {t : Bool} (hs : SeekA l o mv (sortE (entT l o))[i].key x t) : x = (sortE (entT l o))[i].h := by
  obtain ⟨h1, h2, h3⟩ := ent_seek h ((sortE_asc (dis_ent h)).2.mem_iff.1 (List.getElem_mem hi))
  rcases hs with ⟨_, _, _, e⟩ | ⟨_, _, e⟩
  · rw [h1] at e; injection e with e; exact e.symm
  · exact absurd ⟨h, h2, _, h1⟩ e
theorem own_at1 {w : World} {base n : Nat} {e : TypeId} {v : Value} {xs : List Value} (h : w.ownsRow base e 1 v n xs) (hn : 0 < n) : ∃ g cap, v = .slice (some ⟨g, 0, none⟩) n cap ∧ base ≤ g := by
  rcases h.2 with ⟨_, h0⟩ | ⟨g, cap, cur, hv, hb, _⟩
  · omega
  · exact ⟨g, cap, hv, hb⟩

set_option maxRecDepth 100000 in
set_option maxHeartbeats 4000000 in
theorem specClean_any (ao a' : Option Addr) (l o : List Ce) (ca ca' : Nat) (mv : Int) (w : World) (hl : l.length ≤ 1048576) (hl' : o.length ≤ 1048576) (hA : RdC w ao l) (hA' : RdC w a' o) :
    Calls Try.prog 26 #[tbV ao l.length ca a' o.length ca' mv] w fun e w' => MadeT w w' e (OkT l o mv) (cleanR l o) := by
  have CB := hide1 (fun w' (hb : Below w.heap.size w w') => specTOk_any ao a' l o ca ca' mv w' hl hl' (hA.later hb) (hA'.later hb))
  have CK := hide1 (fun w' (hb : Below w.heap.size w w') => specKeys_any ao a' l o ca ca' mv w' hl hl' (hA.later hb) (hA'.later hb))
  have CS := hide1 (fun key hk w' (hb : Below w.heap.size w w') => specSeekKey_any ao a' l o ca ca' mv key w' hl hl' hk (hA.later hb) (hA'.later hb))
  have F0 := hide1 (boxes w #[.slice ao l.length ca, .slice a' o.length ca', .int .i64 mv] #[.slice none 0 0, .slice none 0 0, .int .i64 0] 29)
  clear hA hA'
  unfold tbV at CB CK CS ⊢
  go_enter Try.func26, Try.ntmps26
  go_wp2_with fail
  generalize ((w.alloc (.cells #[.slice ao l.length ca, .slice a' o.length ca', .int .i64 mv] 29)).alloc (.cells #[.slice none 0 0, .slice none 0 0, .int .i64 0] 29)) = w0 at F0 ⊢
  obtain ⟨K0, R0, B0⟩ := F0.out
  have hs0 : w.heap.size < w0.heap.size := K0.lt
  have hs1 : w.heap.size + 1 < w0.heap.size := R0.lt
  have K0 := hide1 K0
  have R0 := hide1 R0
  have B0 := hide1 B0
  clear F0
  refine (CB.out w0 B0.out).mono ?_
  rintro e w1 ⟨x, rfl, hx, hb1⟩
  have HX := hide1 hx
  have K1 := hide1 (K0.out.below hb1 hs0)
  have R1 := hide1 (R0.out.below hb1 hs1)
  have B1 := hide1 (B0.out.trans (hb1.mono B0.out.size))
  have s1 := hb1.size
  clear hb1 CB hx K0 R0 B0
  rcases x with _ | _
  · have HNO := hide1 (show ¬ OkT l o mv from fun h => by have := HX.out.2 h; cases this)
    clear HX
    have HN := hide1 (MadeT.no (r := w.heap.size + 1) (R := cleanR l o) (ok := OkT l o mv) B1.out (by omega) (fun hp => HNO.out hp.1) (.slice none 0 0) (.slice none 0 0) (.int .i64 0))
    have HH := hide1 (put3_blk R1.out (.slice none 0 0) (.slice none 0 0) (.int .i64 0))
    have y0 : w1.cell? ⟨w.heap.size + 1, 0, none⟩ = some (.slice none 0 0) := R1.out.cell 0
    have y1 : w1.cell? ⟨w.heap.size + 1, 1, none⟩ = some (.slice none 0 0) := R1.out.cell 1
    have y2 : w1.cell? ⟨w.heap.size + 1, 2, none⟩ = some (.int .i64 0) := R1.out.cell 2
    have yf : ∀ j, w1.frozen? ⟨w.heap.size + 1, j, none⟩ = false := fun j => R1.out.froz j
    unfold put3 at HN HH
    go_wp2
    refine bodyPost_ret (res2 Try.results26 _ _ (w.heap.size + 1) 29 #[.slice none 0 0, .slice none 0 0, .int .i64 0] (0, 0) _ rfl HH.out Try.underlying29 rfl (by kernel_rfl)) rfl ?_
    exact HN.out
  · have HOK := hide1 (HX.out.1 rfl)
    have hle := HOK.out.len.1
    have hl0 := HOK.out.len.2.2
    have hel : (sortE (entT l o)).length ≤ 128 := by rw [sortE_length (dis_ent HOK.out)]; have := ent_length (l := l) (o := o); have := HOK.out.len; omega
    have HFT := hide1 (fun i (hi : i < (sortE (entT l o)).length) => ent_fit HOK.out hi)
    have HSE := hide1 (fun i (hi : i < (sortE (entT l o)).length) x t hs => seekA_ent HOK.out hi (x := x) (t := t) hs)
    have HKE := hide1 (fun ks (h : KeysA l o mv ks) => show ks = keysL (sortE (entT l o)) by rcases h with ⟨_, h⟩ | ⟨h, _⟩ <;> first | exact h | exact absurd HOK.out h)
    have CN := hide1 (specCells_any l.length w1 (by omega))
    have x0 : w1.cell? ⟨w.heap.size, 0, none⟩ = some (.slice ao l.length ca) := K1.out.cell 0
    clear HX
    obtain ⟨E, hE⟩ : ∃ E, sortE (entT l o) = E := ⟨_, rfl⟩
    have HE0 := hide1 (show cleanR l o = (putAll E (List.replicate l.length nC)).map (fun X => (X, [], 0)) by rw [cleanR, hE])
    rw [hE] at hel HFT HSE HKE
    clear hE
    generalize hn0 : l.length = n at *
    go_wp2_with fail
    refine CN.out.mono ?_
    rintro e w2 ⟨cb, cc, rfl, ho2, hb2⟩
    obtain ⟨cg, cc', hcv, hcg⟩ := own_at2 ho2 hl0
    injection hcv with e1 e2 e3
    subst e1 e3
    clear e2
    have F3 : Hid (Blk (w2.alloc (.cells #[.slice (some ⟨cg, 0, none⟩) n cc, .slice none 0 0, .int .i64 0] 29)) w2.heap.size 29 [.slice (some ⟨cg, 0, none⟩) n cc, .slice none 0 0, .int .i64 0] ∧ Blk (w2.alloc (.cells #[.slice (some ⟨cg, 0, none⟩) n cc, .slice none 0 0, .int .i64 0] 29)) w.heap.size 29 [.slice ao n ca, .slice a' o.length ca', .int .i64 mv] ∧ Blk (w2.alloc (.cells #[.slice (some ⟨cg, 0, none⟩) n cc, .slice none 0 0, .int .i64 0] 29)) (w.heap.size + 1) 29 [.slice none 0 0, .slice none 0 0, .int .i64 0] ∧ (w2.alloc (.cells #[.slice (some ⟨cg, 0, none⟩) n cc, .slice none 0 0, .int .i64 0] 29)).ownsRow w1.heap.size 47 2 (.slice (some ⟨cg, 0, none⟩) n cc) n (ces (List.replicate n nC)) ∧ Below w.heap.size w (w2.alloc (.cells #[.slice (some ⟨cg, 0, none⟩) n cc, .slice none 0 0, .int .i64 0] 29)) ∧ w2.heap.size < (w2.alloc (.cells #[.slice (some ⟨cg, 0, none⟩) n cc, .slice none 0 0, .int .i64 0] 29)).heap.size) :=
      ⟨Blk.new w2 _ _, (K1.out.below hb2 K1.out.lt).more _, (R1.out.below hb2 R1.out.lt).more _, ho2.alloc _, (B1.out.trans (hb2.mono B1.out.size)).alloc (Nat.le_trans B1.out.size hb2.size) _, by rw [World.size_alloc]; omega⟩
    have lcg : cg < w2.heap.size := (ho2.lt cg rfl).2
    have s2 := hb2.size
    clear ho2 hb2 CN x0 K1 R1 B1
    go_upto_region 4 with fail
    generalize (w2.alloc (.cells #[.slice (some ⟨cg, 0, none⟩) n cc, .slice none 0 0, .int .i64 0] 29)) = w3 at F3 ⊢
    obtain ⟨Q3, K3, R3, O3, B3, s3⟩ := F3.out
    have x0 : w3.cell? ⟨w.heap.size, 0, none⟩ = some (.slice ao n ca) := K3.cell 0
    have x1 : w3.cell? ⟨w.heap.size, 1, none⟩ = some (.slice a' o.length ca') := K3.cell 1
    have x2 : w3.cell? ⟨w.heap.size, 2, none⟩ = some (.int .i64 mv) := K3.cell 2
    have Q3 := hide1 Q3
    have K3 := hide1 K3
    have R3 := hide1 R3
    have O3 := hide1 O3
    have B3 := hide1 B3
    clear F3
    go_wp2_with fail
    refine (CK.out w3 B3.out).mono ?_
    rintro e w4 ⟨po, ks, pc, rfl, hks, ho4, hb4⟩
    obtain rfl := HKE.out ks hks
    have hkl : (keysL E).length = E.length := keysL_length E
    rw [hkl] at ho4 ⊢
    have Q4 := hide1 (Q3.out.below hb4 Q3.out.lt)
    have K4 := hide1 (K3.out.below hb4 K3.out.lt)
    have R4 := hide1 (R3.out.below hb4 R3.out.lt)
    have B4 := hide1 (B3.out.trans (hb4.mono B3.out.size))
    have O4 := hide1 (own_base (own_kept O3.out hb4) (show w.heap.size ≤ w1.heap.size by omega))
    have HT := hide1 (rdT_of_own ho4)
    have HTB := hide1 (fun (h : 0 < E.length) => own_at1 ho4 h)
    have s4 := hb4.size
    have HKL := hide1 hkl
    clear hks ho4 hb4 x0 x1 x2 Q3 K3 R3 B3 O3 CK hkl HKE
    go_wp2
    go_loopw [6] (fun iv wr => ∃ (i : Nat) (X : List Ce), i ≤ E.length ∧ iv = .int .i64 (i : Int) ∧ Hid (Cln E X n i) ∧ Hid (wr.ownsRow w.heap.size 47 2 (.slice (some ⟨cg, 0, none⟩) n cc) n (ces X)) ∧ Hid (w4.grownBy wr (some cg))) (fun iv _ => E.length - (intOf iv).toNat)
    case atStart => exact ⟨0, _, by omega, rfl, Cln.new E n, O4, gnew (Below.refl _ _)⟩
    case round =>
      obtain ⟨i, X, hi, rfl, hcl, how, hgr⟩ := hrel
      have RG := hide1 (show Blk wr (w.heap.size + 1) 29 [.slice none 0 0, .slice none 0 0, .int .i64 0] from (hgr.out.block _ R4.out.lt (by intro e; injection e with e; omega)).trans R4.out)
      have QG := hide1 (show Blk wr w2.heap.size 29 [.slice (some ⟨cg, 0, none⟩) n cc, .slice none 0 0, .int .i64 0] from (hgr.out.block _ Q4.out.lt (by intro e; injection e with e; omega)).trans Q4.out)
      have BG := hide1 (show Below w.heap.size w wr from B4.out.trans (gbelow hgr.out (fun g' e => by injection e with e; omega) B4.out.size))
      by_cases hlt : i < E.length
      · have k1 : (i : Int) < (E.length : Int) := by omega
        have KG := hide1 (show Blk wr w.heap.size 29 [.slice ao n ca, .slice a' o.length ca', .int .i64 mv] from (hgr.out.block _ K4.out.lt (by intro e; injection e with e; omega)).trans K4.out)
        obtain ⟨kb, hpo, hkb, hkc⟩ := HT.out i (by rw [HKL.out]; exact hlt)
        have hkg : kb ≠ cg := by
          obtain ⟨g', c', hv, hg'⟩ := HTB.out (by omega)
          rw [hpo] at hv
          injection hv with hv
          injection hv with hv
          injection hv with hv
          omega
        have x3 : wr.cell? ⟨kb, i, none⟩ = some (.string E[i].key) := by
          refine (World.cell?_of_block (w := w4) (hgr.out.block kb hkb (by intro e; injection e with e; exact hkg e))).trans ?_
          rw [hkc]
          simp [keysL]
        have hkr : kb < wr.heap.size := Nat.lt_of_lt_of_le hkb hgr.out.size
        have hft := hide1 (HFT.out i hlt)
        have HSX := hide1 (fun x t hs => HSE.out i hlt x t hs)
        have HPT := hide1 (fun Y he => hcl.out.put (Y := Y) hlt hft.out he)
        have HNO := hide1 (fun he => hcl.out.no hlt he)
        have hXl := hcl.out.len
        have CP := hide1 (fun wx hx => specPut2_any cg cc w.heap.size X E[i].key E[i].h wx (by omega) (by omega) (by have := hft.out.2.1; omega) hx)
        have CX := hide1 (fun w' hb => CS.out E[i].key (by have := hft.out.2.1; omega) w' hb)
        rw [hXl] at CP
        generalize E[i] = s at *
        obtain ⟨ky, hh⟩ := s
        simp only at x3 HSX HPT HNO CP CX
        have x0 : wr.cell? ⟨w.heap.size, 0, none⟩ = some (.slice ao n ca) := KG.out.cell 0
        have x1 : wr.cell? ⟨w.heap.size, 1, none⟩ = some (.slice a' o.length ca') := KG.out.cell 1
        have x2 : wr.cell? ⟨w.heap.size, 2, none⟩ = some (.int .i64 mv) := KG.out.cell 2
        have hrw : w.heap.size < wr.heap.size := KG.out.lt
        have Z := hide1 (And.intro x0 (And.intro x1 (And.intro x2 x3)))
        rw [hpo]
        clear hkc hpo hft hXl hcl KG
        go_wp2
        go_region_held3 (fun w' => w'.cell? ⟨w.heap.size, 0, none⟩ = some (.slice ao n ca) ∧ w'.cell? ⟨w.heap.size, 1, none⟩ = some (.slice a' o.length ca') ∧ w'.cell? ⟨w.heap.size, 2, none⟩ = some (.int .i64 mv) ∧ w'.cell? ⟨kb, i, none⟩ = some (.string ky)) (first | go_keep | exact Z.out | exact ⟨(E5.out.cell hrw).trans Z.out.1, (E5.out.cell hrw).trans Z.out.2.1, (E5.out.cell hrw).trans Z.out.2.2.1, (E5.out.cell hkr).trans Z.out.2.2.2⟩) ((go_at_call 19; refine (CX.out _ (BG.out.trans ((show Below wr.heap.size wr _ by go_grown).mono BG.out.size))).mono ?_; rintro e w5 ⟨hv, tv, rfl, hsk, hb5⟩; have E5 : Hid (Below wr.heap.size wr w5) := (show Below wr.heap.size wr _ by go_grown).trans hb5; have HSK := hide1 hsk; clear hsk hb5))
        obtain rfl := HSX.out _ _ HSK.out
        have O5 := hide1 (own_kept how.out E5.out)
        have R5 := hide1 (RG.out.below E5.out RG.out.lt)
        have Q5 := hide1 (QG.out.below E5.out QG.out.lt)
        have B5 := hide1 (BG.out.trans (E5.out.mono BG.out.size))
        have G5 := hide1 (hgr.out.trans (gnew E5.out))
        have y0 : w5.cell? ⟨w2.heap.size, 0, none⟩ = some (.slice (some ⟨cg, 0, none⟩) n cc) := Q5.out.cell 0
        have y1 : w5.cell? ⟨kb, i, none⟩ = some (.string ky) := (E5.out.cell hkr).trans Z.out.2.2.2
        have Y := hide1 (And.intro y0 y1)
        have hk5 : kb < w5.heap.size := Nat.lt_of_lt_of_le hkr E5.out.size
        have hq5 : w2.heap.size < w5.heap.size := Q5.out.lt
        have ncg : w2.heap.size ≠ cg := by omega
        clear x0 x1 x2 x3 Z E5 HSK HSX RG QG BG hgr how CX
        go_wp2
        go_region_held3 (fun w' => w'.cell? ⟨w2.heap.size, 0, none⟩ = some (.slice (some ⟨cg, 0, none⟩) n cc) ∧ w'.cell? ⟨kb, i, none⟩ = some (.string ky)) (first | go_keep | exact Y.out | exact ⟨(World.cell?_of_block (w := w5) (G6.out.block w2.heap.size hq5 (by intro e; injection e with e; exact ncg e))).trans Y.out.1, (World.cell?_of_block (w := w5) (G6.out.block kb hk5 (by intro e; injection e with e; exact hkg e))).trans Y.out.2⟩) ((go_at_call 47; refine (CP.out _ (own_kept O5.out (show Below w5.heap.size w5 _ by go_grown))).mono ?_; rintro e w6 ⟨tp, X2, rfl, hp6, ho6, hg6⟩; have G6 : Hid (w5.grownBy w6 (some cg)) := (gnew (show Below w5.heap.size w5 _ by go_grown)).trans hg6; have HP6 := hide1 hp6; have O6 := hide1 ho6; clear hp6 ho6 hg6))
        have G7 := hide1 (G5.out.trans G6.out)
        have R6 := hide1 (show Blk w6 (w.heap.size + 1) 29 [.slice none 0 0, .slice none 0 0, .int .i64 0] from (G6.out.block _ R5.out.lt (by intro e; injection e with e; omega)).trans R5.out)
        have B6 := hide1 (show Below w.heap.size w w6 from B5.out.trans (gbelow G6.out (fun g' e => by injection e with e; omega) B5.out.size))
        clear y0 y1 Y G5 G6 R5 Q5 B5 O5 CP
        rcases tp with _ | _
        · have HNP := hide1 (HNO.out HP6.out)
          have HNQ := hide1 (show cleanR l o = none by rw [HE0.out, HNP.out]; rfl)
          clear HPT HNO HP6 HNP G7 O6
          have HN := hide1 (MadeT.no (r := w.heap.size + 1) (R := cleanR l o) (ok := OkT l o mv) B6.out (by omega) (fun hp => by obtain ⟨_, x, hx⟩ := hp; rw [HNQ.out] at hx; cases hx) (.slice none 0 0) (.slice none 0 0) (.int .i64 0))
          have HH := hide1 (put3_blk R6.out (.slice none 0 0) (.slice none 0 0) (.int .i64 0))
          have y0 : w6.cell? ⟨w.heap.size + 1, 0, none⟩ = some (.slice none 0 0) := R6.out.cell 0
          have y1 : w6.cell? ⟨w.heap.size + 1, 1, none⟩ = some (.slice none 0 0) := R6.out.cell 1
          have y2 : w6.cell? ⟨w.heap.size + 1, 2, none⟩ = some (.int .i64 0) := R6.out.cell 2
          have yf : ∀ j, w6.frozen? ⟨w.heap.size + 1, j, none⟩ = false := fun j => R6.out.froz j
          unfold put3 at HN HH
          go_wp2
          refine bodyPost_ret (res2 Try.results26 _ _ (w.heap.size + 1) 29 #[.slice none 0 0, .slice none 0 0, .int .i64 0] (0, 0) _ rfl HH.out Try.underlying29 rfl (by kernel_rfl)) rfl ?_
          exact HN.out
        · have HC := hide1 (HPT.out X2 HP6.out)
          clear HPT HNO HP6
          go_wp2
          go_roundw
          case rel => exact ⟨i + 1, X2, by omega, by go_num, HC, O6, G7⟩
          case measure => simp [intOf]; omega
      · have HDN := hide1 (hcl.out.done (by omega))
        have HNQ := hide1 (show cleanR l o = some (X, [], 0) by rw [HE0.out, HDN.out]; rfl)
        have HN := hide1 (MadeT.fin (r := w.heap.size + 1) (ok := OkT l o mv) (R := cleanR l o) BG.out (by omega) how.out hcl.out.len (World.ownsRow_nil wr w.heap.size 47 2) (O := []) rfl (fun k _ hk => by cases hk) (fun k hk => by have : cg = k := Option.some.inj hk; omega) (fun k hk => by cases hk) HOK.out HNQ.out (.slice (some ⟨cg, 0, none⟩) n cc) (.slice none 0 0) (.int .i64 0))
        have HH := hide1 (put3_blk RG.out (.slice (some ⟨cg, 0, none⟩) n cc) (.slice none 0 0) (.int .i64 0))
        have y0 : wr.cell? ⟨w.heap.size + 1, 0, none⟩ = some (.slice none 0 0) := RG.out.cell 0
        have y1 : wr.cell? ⟨w.heap.size + 1, 1, none⟩ = some (.slice none 0 0) := RG.out.cell 1
        have y2 : wr.cell? ⟨w.heap.size + 1, 2, none⟩ = some (.int .i64 0) := RG.out.cell 2
        have yf : ∀ j, wr.frozen? ⟨w.heap.size + 1, j, none⟩ = false := fun j => RG.out.froz j
        have z0 : wr.cell? ⟨w2.heap.size, 0, none⟩ = some (.slice (some ⟨cg, 0, none⟩) n cc) := QG.out.cell 0
        have z1 : wr.cell? ⟨w2.heap.size, 1, none⟩ = some (.slice none 0 0) := QG.out.cell 1
        have z2 : wr.cell? ⟨w2.heap.size, 2, none⟩ = some (.int .i64 0) := QG.out.cell 2
        unfold put3 at HN HH
        clear hcl how hgr HDN
        go_wp2
        refine bodyPost_ret (res2 Try.results26 _ _ (w.heap.size + 1) 29 #[.slice (some ⟨cg, 0, none⟩) n cc, .slice none 0 0, .int .i64 0] (0, 0) _ rfl HH.out Try.underlying29 rfl (by kernel_rfl)) rfl ?_
        exact HN.out
theorem cleanA_small {l o : List Ce} {mv : Int} {L O : List Ce} {M : Int} {t : Bool} (x : Ans (OkT l o mv) (cleanR l o) L O M t) : L.length ≤ 64 ∧ O.length ≤ 64 :=
  x.small fun _ _ _ ok e => clean_small e ok.len.1

end Go.Proofs.Ytinjohpeanlalaa
