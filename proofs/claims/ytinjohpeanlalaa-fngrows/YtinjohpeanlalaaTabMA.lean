/- MoveSome at a right table, by the model. -/
import Derived.Test.YtinjohpeanlalaaXN
import Derived.Test.YtinjohpeanlalaaXK
namespace Go.Proofs.Ytinjohpeanlalaa
open Go.RowKit

theorem own_grown {w w' : World} {base n size g : Nat} {e : TypeId} {v : Value} {xs : List Value} (h : w.ownsRow base e size v n xs) (hg : w.grownBy w' (some g)) (hne : ∀ k, v.ownBlock = some k → k ≠ g) : w'.ownsRow base e size v n xs := by
  refine ⟨h.1, ?_⟩
  rcases h.2 with h2 | ⟨b, cap, cur, hv, hb, hh, r⟩
  · exact .inl h2
  · have e : v.ownBlock = some b := by rw [hv]; rfl
    exact .inr ⟨b, cap, cur, hv, hb, (hg.block b (Array.getElem?_eq_some_iff.1 hh).1 (by intro e2; injection e2 with e2; exact hne b e e2)).trans hh, r⟩
theorem specPut3_any (g c base : Nat) (l : List Ce) (key : ByteArray) (h : Int) (w : World) (hl : l.length ≤ 1048576) (h1 : 1 ≤ l.length) (hk : key.size ≤ 1048576) (hown : w.ownsRow base 47 2 (.slice (some ⟨g, 0, none⟩) l.length c) l.length (ces l)) :
    Calls Try.prog 47 #[.slice (some ⟨g, 0, none⟩) l.length c, .string key, .int .i64 h] w fun e w' => ∃ (t : Bool) (Y : List Ce), e = .returned (.bool t) ∧ putC l key h = (if t then some Y else none) ∧ w'.ownsRow base 47 2 (.slice (some ⟨g, 0, none⟩) l.length c) l.length (ces Y) ∧ (t = false → Y = l) ∧ w.grownBy w' (some g) := by
  refine (specPut_any g c base l key h w hl h1 hk hown).mono ?_
  rintro e w' ⟨⟨l', h1, h2, h3⟩ | ⟨h1, h2, h3⟩, hg⟩
  · exact ⟨true, l', h2, h1, h3, (fun e => by cases e), hg⟩
  · exact ⟨false, l, h2, h1, by rw [h3]; exact hown, fun _ => rfl, hg⟩
/-- What a walk of MoveSome holds. -/
structure MvS (w wr : World) (B r qq b c b' c' n k : Nat) (L O : List Ce) (M : Nat) : Prop where
  q : Blk wr qq 29 [.slice (some ⟨b, 0, none⟩) n c, .slice (some ⟨b', 0, none⟩) k c', .int .i64 (M : Int)]
  r : Blk wr r 29 [.slice none 0 0, .slice none 0 0, .int .i64 0]
  o1 : wr.ownsRow B 47 2 (.slice (some ⟨b, 0, none⟩) n c) n (ces L)
  o2 : wr.ownsRow B 47 2 (.slice (some ⟨b', 0, none⟩) k c') k (ces O)
  l1 : L.length = n
  l2 : O.length = k
  bw : Below w.heap.size w wr
theorem MvS.later {w wr wq : World} {B r qq b c b' c' n k : Nat} {L O : List Ce} {M : Nat} (h : MvS w wr B r qq b c b' c' n k L O M) (hb : Below wr.heap.size wr wq) : MvS w wq B r qq b c b' c' n k L O M :=
  ⟨h.q.below hb h.q.lt, h.r.below hb h.r.lt, own_kept h.o1 hb, own_kept h.o2 hb, h.l1, h.l2, h.bw.trans (hb.mono h.bw.size)⟩
theorem MvS.put {w wr wq : World} {B r qq b c b' c' n k : Nat} {L L2 O : List Ce} {M : Nat} (h : MvS w wr B r qq b c b' c' n k L O M) (hg : wr.grownBy wq (some b)) (ho : wq.ownsRow B 47 2 (.slice (some ⟨b, 0, none⟩) n c) n (ces L2)) (hl : L2.length = n) (hw : w.heap.size ≤ b) (h1 : qq ≠ b) (h2 : r ≠ b) (h3 : b' ≠ b) : MvS w wq B r qq b c b' c' n k L2 O M :=
  ⟨(hg.block _ h.q.lt (by intro e; injection e with e; omega)).trans h.q, (hg.block _ h.r.lt (by intro e; injection e with e; omega)).trans h.r, ho, own_grown h.o2 hg (fun j hj => by have e : b' = j := Option.some.inj hj; omega), hl, h.l2, h.bw.trans (gbelow hg (fun g' e => by injection e with e; omega) h.bw.size)⟩
theorem MvS.gone {w wr : World} {B r qq b c b' c' n k : Nat} {L O : List Ce} {M : Nat} (h : MvS w wr B r qq b c b' c' n k L O M) (hw : w.heap.size ≤ b') (hw2 : w.heap.size ≤ qq) (h1 : qq ≠ b') (h2 : r ≠ b' ∧ r ≠ qq) (h3 : b ≠ b' ∧ b ≠ qq ∧ b' ≠ qq) (hM : M < k) :
    MvS w (((wr.setCell ⟨b', M * 2, none⟩ (.string ⟨#[]⟩)).setCell ⟨b', M * 2 + 1, none⟩ (.int .i64 (-2))).setCell ⟨qq, 2, none⟩ (.int .i64 ((M : Int) + 1))) B r qq b c b' c' n k L (O.set M gC) (M + 1) := by
  have hq := Blk.set ((h.q.far ⟨b', M * 2, none⟩ (.string ⟨#[]⟩) h1).far ⟨b', M * 2 + 1, none⟩ (.int .i64 (-2)) h1) 2 (.int .i64 ((M : Int) + 1))
  refine ⟨hq, ((h.r.far _ _ h2.1).far _ _ h2.1).far _ _ h2.2, own_far (own_far (own_far h.o1 _ _ ?_) _ _ ?_) _ _ ?_, own_far (own_set2 h.o2 h.l2 M hM gC) _ _ ?_, h.l1, by rw [List.length_set]; exact h.l2, (below_set2 h.bw hw M gC).setCell (p := ⟨qq, 2, none⟩) hw2 _⟩
  all_goals
    intro j hj
    have e := Option.some.inj hj
    dsimp only
    dsimp only at e
    omega
theorem MvS.fin {w wr : World} {B r qq b c b' c' n k : Nat} {L O : List Ce} {M : Nat} (h : MvS w wr B r qq b c b' c' n k L O M) (hB : w.heap.size ≤ B) (hr : w.heap.size ≤ r) (h1 : b ≠ r) (h2 : b' ≠ r) (h3 : b ≠ b') :
    MadeV w (put3 wr r (.slice (some ⟨b, 0, none⟩) n c) (.slice (some ⟨b', 0, none⟩) k c') (.int .i64 (M : Int))) (.agg #[.slice (some ⟨b, 0, none⟩) n c, .slice (some ⟨b', 0, none⟩) k c', .int .i64 (M : Int)]) L O (M : Int) := by
  obtain rfl := h.l1
  obtain rfl := h.l2
  exact ⟨b, c, b', c', rfl, own_put3 (own_base h.o1 hB) (fun j hj => by have e : b = j := Option.some.inj hj; omega) _ _ _, own_put3 (own_base h.o2 hB) (fun j hj => by have e : b' = j := Option.some.inj hj; omega) _ _ _, h3, put3_below h.bw hr _ _ _⟩
theorem MvS.drop {w wr : World} {B r qq b c b' c' n k : Nat} {L O : List Ce} {M : Nat} (h : MvS w wr B r qq b c b' c' n k L O M) (hB : B ≤ wr.heap.size) (hw : w.heap.size ≤ qq) (hr : r ≠ qq) (hbq : b ≠ qq) :
    MvS w (((wr.setCell ⟨qq, 1, none⟩ (.slice (some ⟨wr.heap.size, 0, none⟩) 0 0)).setCell ⟨qq, 2, none⟩ (.int .i64 0)).alloc (.cells #[] 47)) B r qq b c wr.heap.size 0 n 0 L [] 0 := by
  have hsz : ((wr.setCell ⟨qq, 1, none⟩ (.slice (some ⟨wr.heap.size, 0, none⟩) 0 0)).setCell ⟨qq, 2, none⟩ (.int .i64 0)).heap.size = wr.heap.size := by simp
  have hq := Blk.set (Blk.set h.q 1 (.slice (some ⟨wr.heap.size, 0, none⟩) 0 0)) 2 (.int .i64 0)
  have ho := owns_empty2 ((wr.setCell ⟨qq, 1, none⟩ (.slice (some ⟨wr.heap.size, 0, none⟩) 0 0)).setCell ⟨qq, 2, none⟩ (.int .i64 0)) 47
  rw [hsz] at ho
  refine ⟨hq.more _, ((h.r.far _ _ hr).far _ _ hr).more _, (own_far (own_far h.o1 _ _ ?_) _ _ ?_).alloc _, own_base ho hB, h.l1, rfl, ((h.bw.setCell (p := ⟨qq, 1, none⟩) hw _).setCell (p := ⟨qq, 2, none⟩) hw _).alloc (by rw [hsz]; exact h.bw.size) _⟩
  all_goals
    intro j hj
    have e := Option.some.inj hj
    dsimp only
    dsimp only at e
    omega
/-- What MoveSome answers at a right table. -/
def mvR (l o : List Ce) (m s : Nat) : List Ce × List Ce × Nat := if o.length = 0 then (l, o, m) else moveR l o m s

set_option maxRecDepth 100000 in
set_option maxHeartbeats 4000000 in
theorem specMove_any (ao a' : Option Addr) (l o : List Ce) (ca ca' m s : Nat) (w : World) (hs : s ≤ 1000) (hok : OkT l o (m : Int)) (hA : RdC w ao l) (hA' : RdC w a' o) :
    Calls Try.prog 62 #[tbV ao l.length ca a' o.length ca' (m : Int), .int .i64 (s : Int)] w fun e w' => ∃ (v : Value) (L O : List Ce) (M : Nat), e = .returned v ∧ MadeV w w' v L O (M : Int) ∧ (L, O, M) = mvR l o m s := by
  have hll := hok.len
  have CB := hide1 (fun w' (hb : Below w.heap.size w w') => specTOk_any ao a' l o ca ca' (m : Int) w' (by omega) (by omega) (hA.later hb) (hA'.later hb))
  have CY := hide1 (fun w' (hb : Below w.heap.size w w') => specCopyT_any ao a' l o ca ca' (m : Int) w' (by omega) (by omega) hll.2.2 (hA.later hb).toJ (hA'.later hb).toJ)
  have HOK := hide1 hok
  have F0 := hide1 (boxes w #[.slice ao l.length ca, .slice a' o.length ca', .int .i64 (m : Int)] #[.slice none 0 0, .slice none 0 0, .int .i64 0] 29)
  clear hA hA' hok
  unfold tbV at CB CY ⊢
  go_enter Try.func62, Try.ntmps62
  go_wp2_with fail
  generalize ((w.alloc (.cells #[.slice ao l.length ca, .slice a' o.length ca', .int .i64 (m : Int)] 29)).alloc (.cells #[.slice none 0 0, .slice none 0 0, .int .i64 0] 29)) = w0 at F0 ⊢
  obtain ⟨K0, R0, B0⟩ := F0.out
  have hs0 : w.heap.size < w0.heap.size := K0.lt
  have hs1 : w.heap.size + 1 < w0.heap.size := R0.lt
  have K0 := hide1 K0
  have R0 := hide1 R0
  have B0 := hide1 B0
  clear F0
  refine (CY.out w0 B0.out).mono ?_
  rintro e w1 ⟨v, rfl, b, c, b', c', rfl, ho1, ho2, hne, hb1⟩
  have F1 : Hid (MvS w (w1.alloc (.cells #[.slice (some ⟨b, 0, none⟩) l.length c, .slice (some ⟨b', 0, none⟩) o.length c', .int .i64 (m : Int)] 29)) w0.heap.size (w.heap.size + 1) w1.heap.size b c b' c' l.length o.length l o m ∧ Blk (w1.alloc (.cells #[.slice (some ⟨b, 0, none⟩) l.length c, .slice (some ⟨b', 0, none⟩) o.length c', .int .i64 (m : Int)] 29)) w.heap.size 29 [.slice ao l.length ca, .slice a' o.length ca', .int .i64 (m : Int)]) :=
    ⟨⟨Blk.new w1 _ _, (R0.out.below hb1 R0.out.lt).more _, ho1.alloc _, ho2.alloc _, rfl, rfl, (B0.out.trans (hb1.mono B0.out.size)).alloc (Nat.le_trans B0.out.size hb1.size) _⟩, (K0.out.below hb1 K0.out.lt).more _⟩
  have lb := ho1.lt b rfl
  have lb' := ho2.lt b' rfl
  have hsz := hb1.size
  clear ho1 ho2 hb1 CY K0 R0 B0
  unfold tbV
  go_upto_region 2 with fail
  generalize (w1.alloc (.cells #[.slice (some ⟨b, 0, none⟩) l.length c, .slice (some ⟨b', 0, none⟩) o.length c', .int .i64 (m : Int)] 29)) = w2 at F1 ⊢
  have x0 : w2.cell? ⟨w.heap.size, 0, none⟩ = some (.slice ao l.length ca) := F1.out.2.cell 0
  have x1 : w2.cell? ⟨w.heap.size, 1, none⟩ = some (.slice a' o.length ca') := F1.out.2.cell 1
  have x2 : w2.cell? ⟨w.heap.size, 2, none⟩ = some (.int .i64 (m : Int)) := F1.out.2.cell 2
  go_wp2_with fail
  refine (CB.out w2 F1.out.1.bw).mono ?_
  rintro e w3 ⟨x, rfl, hx, hb3⟩
  obtain rfl : x = true := hx.2 HOK.out
  have MS := hide1 (F1.out.1.later hb3)
  have x1 : w3.cell? ⟨w.heap.size, 1, none⟩ = some (.slice a' o.length ca') := (hb3.cell (p := ⟨w.heap.size, 1, none⟩) F1.out.2.lt).trans x1
  clear hb3 hx CB F1 x0 x2
  generalize w1.heap.size = q at *
  by_cases hz : o.length = 0
  · have qz : ((o.length : Int) == 0) = true := by simp [hz]
    have HRES := hide1 (show (l, o, m) = mvR l o m s by rw [mvR, if_pos hz])
    have MS := MS
    obtain ⟨n, hn⟩ : ∃ n, l.length = n := ⟨_, rfl⟩
    obtain ⟨k, hk⟩ : ∃ k, o.length = k := ⟨_, rfl⟩
    rw [hn, hk] at MS
    rw [hk] at x1 qz
    rw [hn, hk]
    clear hz hn hk
    have HV := hide1 (MS.out.fin (by omega) (by omega) (by omega) (by omega) (by omega))
    have HH := hide1 (put3_blk MS.out.r (.slice (some ⟨b, 0, none⟩) n c) (.slice (some ⟨b', 0, none⟩) k c') (.int .i64 (m : Int)))
    have q0 : w3.cell? ⟨q, 0, none⟩ = some (.slice (some ⟨b, 0, none⟩) n c) := MS.out.q.cell 0
    have q1 : w3.cell? ⟨q, 1, none⟩ = some (.slice (some ⟨b', 0, none⟩) k c') := MS.out.q.cell 1
    have q2 : w3.cell? ⟨q, 2, none⟩ = some (.int .i64 (m : Int)) := MS.out.q.cell 2
    have y0 : w3.cell? ⟨w.heap.size + 1, 0, none⟩ = some (.slice none 0 0) := MS.out.r.cell 0
    have y1 : w3.cell? ⟨w.heap.size + 1, 1, none⟩ = some (.slice none 0 0) := MS.out.r.cell 1
    have y2 : w3.cell? ⟨w.heap.size + 1, 2, none⟩ = some (.int .i64 0) := MS.out.r.cell 2
    have yf : ∀ j, w3.frozen? ⟨w.heap.size + 1, j, none⟩ = false := fun j => MS.out.r.froz j
    unfold put3 at HV HH
    have HX1 := hide1 x1
    go_wp2
    refine bodyPost_ret (results_cell_row Try.results62 _ _ (w.heap.size + 1) 29 #[.slice (some ⟨b, 0, none⟩) n c, .slice (some ⟨b', 0, none⟩) k c', .int .i64 (m : Int)] (0, 0) _ rfl HH.out Try.underlying29 rfl (by kernel_rfl)) rfl ?_
    exact ⟨_, _, _, m, rfl, HV.out, HRES.out⟩
  · have qz : ((o.length : Int) == 0) = false := beq_eq_false_iff_ne.2 (by omega)
    have HMV := hide1 (show mvR l o m s = moveR l o m s by rw [mvR, if_neg hz])
    have HN0 := hide1 (okN_iff.1 HOK.out)
    obtain ⟨n, hn⟩ : ∃ n, l.length = n := ⟨_, rfl⟩
    obtain ⟨k, hk⟩ : ∃ k, o.length = k := ⟨_, rfl⟩
    rw [hn, hk] at MS
    rw [hk] at x1 qz
    have hn64 : 1 ≤ n ∧ n ≤ 64 := by omega
    have hk64 : k ≤ 64 := by omega
    have HK := hide1 hk
    rw [hn, hk]
    clear hz hn hk hll
    go_wp2
    go_loopw [6] (fun iv wr => ∃ (i M : Nat) (L O : List Ce), i ≤ s ∧ M ≤ k ∧ iv = .int .i64 (i : Int) ∧ Hid (MvS w wr w0.heap.size (w.heap.size + 1) q b c b' c' n k L O M) ∧ Hid (OkN L O (M : Int)) ∧ Hid (moveS l o m s = moveS L O M (s - i))) (fun iv _ => s - (intOf iv).toNat)
    case atStart => exact ⟨0, m, l, o, by omega, by have := HN0.out.moved; have := HK.out; omega, rfl, MS, HN0, rfl⟩
    case round =>
      obtain ⟨i, M, L, O, hi, hMk', rfl, hms, hokn, hmv⟩ := hrel
      have q1 : wr.cell? ⟨q, 1, none⟩ = some (.slice (some ⟨b', 0, none⟩) k c') := hms.out.q.cell 1
      have q2 : wr.cell? ⟨q, 2, none⟩ = some (.int .i64 (M : Int)) := hms.out.q.cell 2
      by_cases hgo : i < s ∧ M < k
      · have k1 : (i : Int) < (s : Int) := by omega
        have hMk : M < k := hgo.2
        have k2 : (M : Int) < (k : Int) := by omega
        have hMO : M < O.length := by rw [hms.out.l2]; exact hMk
        have HLE := hide1 hms.out.l1
        have hrd : RdC wr (some ⟨b', 0, none⟩) O := by have h2 := hms.out.o2; rw [← hms.out.l2] at h2; exact rdC_of_own h2
        obtain ⟨bb, hao, hbb, hcc⟩ := hrd.at M hMO
        obtain rfl : b' = bb := by injection hao with e; injection e
        obtain ⟨z0, z1⟩ := hcc
        have HX := hide1 (List.getElem?_eq_getElem hMO)
        have hst := hide1 (show moveS L O M (s - i) = (if O[M].key.toList = [] then moveS L (O.set M gC) (M + 1) (s - (i + 1)) else match putC L O[M].key O[M].h with | none => (L, O, M) | some l' => moveS l' (O.set M gC) (M + 1) (s - (i + 1))) by
          rw [show s - i = (s - (i + 1)) + 1 by omega, moveS, HX.out]
          rfl)
        have hft := hide1 (fit_at hokn.out.o1.1 HX.out)
        generalize O[M] = xc at *
        obtain ⟨ky, hh⟩ := xc
        simp only at z0 z1 hst
        have NN : Hid (Blk (wr.alloc (.cells #[.string ky, .int .i64 hh] 47)) wr.heap.size 47 [.string ky, .int .i64 hh] ∧ Below wr.heap.size wr (wr.alloc (.cells #[.string ky, .int .i64 hh] 47))) := ⟨Blk.new wr _ _, (Below.refl _ _).alloc (Nat.le_refl _) _⟩
        clear hgo hao hMO hrd
        go_upto_region 8 with fail
        generalize (wr.alloc (.cells #[.string ky, .int .i64 hh] 47)) = wv at NN ⊢
        have n0 : wv.cell? ⟨wr.heap.size, 0, none⟩ = some (.string ky) := NN.out.1.cell 0
        have n1 : wv.cell? ⟨wr.heap.size, 1, none⟩ = some (.int .i64 hh) := NN.out.1.cell 1
        have MV := hide1 (hms.out.later NN.out.2)
        have q0 : wv.cell? ⟨q, 0, none⟩ = some (.slice (some ⟨b, 0, none⟩) n c) := MV.out.q.cell 0
        clear NN z0 z1 hms q1 q2 hbb
        by_cases d1 : ky.toList = []
        · have b1 : ky.toList.isEmpty = true := by rw [d1]; rfl
          have HE := hide1 (show moveS l o m s = moveS L (O.set M gC) (M + 1) (s - (i + 1)) by rw [hmv.out, hst.out, if_pos d1])
          have HO1 : Hid (OkN L (O.set M gC) ((M + 1 : Nat) : Int)) := hokn.out.next (by rw [MV.out.l2]; exact hMk)
          have MG := hide1 (MV.out.gone (by omega) (by omega) (by omega) (by omega) (by omega) hMk)
          have HS2 := hide1 (And.intro HO1 HE)
          obtain ⟨v0, t0⟩ := own_some MV.out.o2 (M * 2) (by omega)
          obtain ⟨v1, t1⟩ := own_some MV.out.o2 (M * 2 + 1) (by omega)
          have g0 := MV.out.o2.frozenAt (M * 2)
          have g1 := MV.out.o2.frozenAt (M * 2 + 1)
          have q1 : wv.cell? ⟨q, 1, none⟩ = some (.slice (some ⟨b', 0, none⟩) k c') := MV.out.q.cell 1
          have q2 : wv.cell? ⟨q, 2, none⟩ = some (.int .i64 (M : Int)) := MV.out.q.cell 2
          have qf : wv.frozen? ⟨q, 2, none⟩ = false := MV.out.q.froz 2
          clear q0 hst hmv hokn hft HX d1
          go_upto_region 6 with fail
          generalize (((wv.setCell ⟨b', M * 2, none⟩ (.string ⟨#[]⟩)).setCell ⟨b', M * 2 + 1, none⟩ (.int .i64 (-2))).setCell ⟨q, 2, none⟩ (.int .i64 ((M : Int) + 1))) = wg at MG ⊢
          clear t0 t1 g0 g1 q1 q2 qf
          go_wp2
          go_roundw
          case rel => exact ⟨i + 1, M + 1, L, O.set M gC, by omega, by omega, by go_num, MG, HS2.out.1, HS2.out.2⟩
          case measure => simp [intOf]; omega
        · have b1 : ky.toList.isEmpty = false := by cases h : ky.toList with | nil => exact absurd h d1 | cons a b => rfl
          have hks : ky.size ≤ 12 := by rcases hft.out with f | f <;> first | exact absurd f.1 d1 | exact f.2.1
          have CP := hide1 (specPut3_any b c w0.heap.size L ky hh wv (by have := HLE.out; omega) (by have := HLE.out; omega) (by omega) (by rw [HLE.out]; exact MV.out.o1))
          rw [HLE.out] at CP
          have HD1 := hide1 d1
          clear d1 hks
          go_wp2_with fail
          refine CP.out.mono ?_
          rintro e w6 ⟨tp, L2, rfl, hp6, ho6, hL2, hg6⟩
          have HP6 := hide1 hp6
          have hl6 : L2.length = n := by
            rcases tp with _ | _
            · rw [hL2 rfl]; exact HLE.out
            · have := putC_length hp6; rw [this]; exact HLE.out
          have MP := hide1 (MV.out.put hg6 ho6 hl6 (by omega) (by omega) (by omega) (by omega))
          have HL2 := hide1 hL2
          clear hp6 ho6 hg6 hL2 hl6 CP n0 n1 q0
          rcases tp with _ | _
          · obtain rfl : L2 = L := HL2.out rfl
            have HRES := hide1 (show (L2, O, M) = mvR l o m s by
              have e1 : moveS l o m s = (L2, O, M) := by
                have := HP6.out
                rw [if_neg (by simp)] at this
                rw [hmv.out, hst.out, if_neg HD1.out, this]
              rw [HMV.out, moveR, e1, if_neg (by have := HK.out; simp only; omega)])
            clear HP6 HL2 hst hmv hokn hft HX HD1
            have HV := hide1 (MP.out.fin (by omega) (by omega) (by omega) (by omega) (by omega))
            have HH := hide1 (put3_blk MP.out.r (.slice (some ⟨b, 0, none⟩) n c) (.slice (some ⟨b', 0, none⟩) k c') (.int .i64 (M : Int)))
            have q0 : w6.cell? ⟨q, 0, none⟩ = some (.slice (some ⟨b, 0, none⟩) n c) := MP.out.q.cell 0
            have q1 : w6.cell? ⟨q, 1, none⟩ = some (.slice (some ⟨b', 0, none⟩) k c') := MP.out.q.cell 1
            have q2 : w6.cell? ⟨q, 2, none⟩ = some (.int .i64 (M : Int)) := MP.out.q.cell 2
            have y0 : w6.cell? ⟨w.heap.size + 1, 0, none⟩ = some (.slice none 0 0) := MP.out.r.cell 0
            have y1 : w6.cell? ⟨w.heap.size + 1, 1, none⟩ = some (.slice none 0 0) := MP.out.r.cell 1
            have y2 : w6.cell? ⟨w.heap.size + 1, 2, none⟩ = some (.int .i64 0) := MP.out.r.cell 2
            have yf : ∀ j, w6.frozen? ⟨w.heap.size + 1, j, none⟩ = false := fun j => MP.out.r.froz j
            unfold put3 at HV HH

            go_wp2
            refine bodyPost_ret (results_cell_row Try.results62 _ _ (w.heap.size + 1) 29 #[.slice (some ⟨b, 0, none⟩) n c, .slice (some ⟨b', 0, none⟩) k c', .int .i64 (M : Int)] (0, 0) _ rfl HH.out Try.underlying29 rfl (by kernel_rfl)) rfl ?_
            exact ⟨_, _, _, M, rfl, HV.out, HRES.out⟩
          · have HPP : putC L ky hh = some L2 := by have := HP6.out; rw [if_pos rfl] at this; exact this
            have HE := hide1 (show moveS l o m s = moveS L2 (O.set M gC) (M + 1) (s - (i + 1)) by rw [hmv.out, hst.out, if_neg HD1.out, HPP])
            have HO1 : Hid (OkN L2 (O.set M gC) ((M + 1 : Nat) : Int)) := hokn.out.nextPut HX.out HD1.out HPP
            clear HPP
            have MG := hide1 (MP.out.gone (by omega) (by omega) (by omega) (by omega) (by omega) hMk)
            have HS2 := hide1 (And.intro HO1 HE)
            obtain ⟨v0, t0⟩ := own_some MP.out.o2 (M * 2) (by omega)
            obtain ⟨v1, t1⟩ := own_some MP.out.o2 (M * 2 + 1) (by omega)
            have g0 := MP.out.o2.frozenAt (M * 2)
            have g1 := MP.out.o2.frozenAt (M * 2 + 1)
            have q1 : w6.cell? ⟨q, 1, none⟩ = some (.slice (some ⟨b', 0, none⟩) k c') := MP.out.q.cell 1
            have q2 : w6.cell? ⟨q, 2, none⟩ = some (.int .i64 (M : Int)) := MP.out.q.cell 2
            have qf : w6.frozen? ⟨q, 2, none⟩ = false := MP.out.q.froz 2
            clear hst hmv hokn hft HX HD1 HP6 HL2
            go_upto_region 6 with fail
            generalize (((w6.setCell ⟨b', M * 2, none⟩ (.string ⟨#[]⟩)).setCell ⟨b', M * 2 + 1, none⟩ (.int .i64 (-2))).setCell ⟨q, 2, none⟩ (.int .i64 ((M : Int) + 1))) = wg at MG ⊢
            clear t0 t1 g0 g1 q1 q2 qf
            go_wp2
            go_roundw
            case rel => exact ⟨i + 1, M + 1, L2, O.set M gC, by omega, by omega, by go_num, MG, HS2.out.1, HS2.out.2⟩
            case measure => simp [intOf]; omega
      · have HST : Hid (moveS l o m s = (L, O, M)) := by
          show _ = _
          rw [hmv.out]
          by_cases h1 : i < s
          · have h2 : M = k := by omega
            rw [show s - i = (s - (i + 1)) + 1 by omega, moveS, List.getElem?_eq_none (by rw [hms.out.l2]; omega)]
          · rw [show s - i = 0 by omega]
            rfl
        have hwl : w0.heap.size ≤ wr.heap.size := by have := hms.out.q.lt; omega
        by_cases h1 : i < s
        · have k1 : (i : Int) < (s : Int) := by omega
          obtain rfl : M = k := by omega
          have k2 : decide ((M : Int) < (M : Int)) = false := by simp
          have k3 : ((M : Int) == (M : Int)) = true := by simp
          have HRES := hide1 (show (L, ([] : List Ce), 0) = mvR l o m s by
            rw [HMV.out, moveR, HST.out, if_pos (by have := HK.out; simp only; omega)])
          have MD := hide1 (hms.out.drop hwl (by omega) (by omega) (by omega))
          have q0 : wr.cell? ⟨q, 0, none⟩ = some (.slice (some ⟨b, 0, none⟩) n c) := hms.out.q.cell 0
          have qf : ∀ j, wr.frozen? ⟨q, j, none⟩ = false := fun j => hms.out.q.froz j
          have hql := hms.out.q.lt
          clear hgo hmv hokn HST
          go_upto_region 15 with fail
          generalize (((wr.setCell ⟨q, 1, none⟩ (.slice (some ⟨wr.heap.size, 0, none⟩) 0 0)).setCell ⟨q, 2, none⟩ (.int .i64 0)).alloc (.cells #[] 47)) = wd at MD ⊢
          clear q0 q1 q2 qf k3
          generalize wr.heap.size = bn at *
          have HV := hide1 (MD.out.fin (by omega) (by omega) (by omega) (by omega) (by omega))
          have HH := hide1 (put3_blk MD.out.r (.slice (some ⟨b, 0, none⟩) n c) (.slice (some ⟨bn, 0, none⟩) 0 0) (.int .i64 0))
          have q0 : wd.cell? ⟨q, 0, none⟩ = some (.slice (some ⟨b, 0, none⟩) n c) := MD.out.q.cell 0
          have q1 : wd.cell? ⟨q, 1, none⟩ = some (.slice (some ⟨bn, 0, none⟩) 0 0) := MD.out.q.cell 1
          have q2 : wd.cell? ⟨q, 2, none⟩ = some (.int .i64 0) := MD.out.q.cell 2
          have y0 : wd.cell? ⟨w.heap.size + 1, 0, none⟩ = some (.slice none 0 0) := MD.out.r.cell 0
          have y1 : wd.cell? ⟨w.heap.size + 1, 1, none⟩ = some (.slice none 0 0) := MD.out.r.cell 1
          have y2 : wd.cell? ⟨w.heap.size + 1, 2, none⟩ = some (.int .i64 0) := MD.out.r.cell 2
          have yf : ∀ j, wd.frozen? ⟨w.heap.size + 1, j, none⟩ = false := fun j => MD.out.r.froz j
          unfold put3 at HV HH
          clear hms
          go_wp2
          refine bodyPost_ret (results_cell_row Try.results62 _ _ (w.heap.size + 1) 29 #[.slice (some ⟨b, 0, none⟩) n c, .slice (some ⟨bn, 0, none⟩) 0 0, .int .i64 0] (0, 0) _ rfl HH.out Try.underlying29 rfl (by kernel_rfl)) rfl ?_
          exact ⟨_, _, _, 0, rfl, HV.out, HRES.out⟩
        · have k1 : decide ((i : Int) < (s : Int)) = false := decide_eq_false (by omega)
          by_cases h2 : M = k
          · subst h2
            have k3 : ((M : Int) == (M : Int)) = true := by simp
            have HRES := hide1 (show (L, ([] : List Ce), 0) = mvR l o m s by
              rw [HMV.out, moveR, HST.out, if_pos (by have := HK.out; simp only; omega)])
            have MD := hide1 (hms.out.drop hwl (by omega) (by omega) (by omega))
            have q0 : wr.cell? ⟨q, 0, none⟩ = some (.slice (some ⟨b, 0, none⟩) n c) := hms.out.q.cell 0
            have qf : ∀ j, wr.frozen? ⟨q, j, none⟩ = false := fun j => hms.out.q.froz j
            have hql := hms.out.q.lt
            clear hgo hmv hokn HST
            go_upto_region 15 with fail
            generalize (((wr.setCell ⟨q, 1, none⟩ (.slice (some ⟨wr.heap.size, 0, none⟩) 0 0)).setCell ⟨q, 2, none⟩ (.int .i64 0)).alloc (.cells #[] 47)) = wd at MD ⊢
            clear q0 q1 q2 qf k3
            generalize wr.heap.size = bn at *
            have HV := hide1 (MD.out.fin (by omega) (by omega) (by omega) (by omega) (by omega))
            have HH := hide1 (put3_blk MD.out.r (.slice (some ⟨b, 0, none⟩) n c) (.slice (some ⟨bn, 0, none⟩) 0 0) (.int .i64 0))
            have q0 : wd.cell? ⟨q, 0, none⟩ = some (.slice (some ⟨b, 0, none⟩) n c) := MD.out.q.cell 0
            have q1 : wd.cell? ⟨q, 1, none⟩ = some (.slice (some ⟨bn, 0, none⟩) 0 0) := MD.out.q.cell 1
            have q2 : wd.cell? ⟨q, 2, none⟩ = some (.int .i64 0) := MD.out.q.cell 2
            have y0 : wd.cell? ⟨w.heap.size + 1, 0, none⟩ = some (.slice none 0 0) := MD.out.r.cell 0
            have y1 : wd.cell? ⟨w.heap.size + 1, 1, none⟩ = some (.slice none 0 0) := MD.out.r.cell 1
            have y2 : wd.cell? ⟨w.heap.size + 1, 2, none⟩ = some (.int .i64 0) := MD.out.r.cell 2
            have yf : ∀ j, wd.frozen? ⟨w.heap.size + 1, j, none⟩ = false := fun j => MD.out.r.froz j
            unfold put3 at HV HH
            clear hms
            go_wp2
            refine bodyPost_ret (results_cell_row Try.results62 _ _ (w.heap.size + 1) 29 #[.slice (some ⟨b, 0, none⟩) n c, .slice (some ⟨bn, 0, none⟩) 0 0, .int .i64 0] (0, 0) _ rfl HH.out Try.underlying29 rfl (by kernel_rfl)) rfl ?_
            exact ⟨_, _, _, 0, rfl, HV.out, HRES.out⟩
          · have k3 : ((M : Int) == (k : Int)) = false := beq_eq_false_iff_ne.2 (by omega)
            have HRES := hide1 (show (L, O, M) = mvR l o m s by
              rw [HMV.out, moveR, HST.out, if_neg (by have := HK.out; simp only; omega)])
            clear hgo h2 hmv hokn HST
            have HV := hide1 (hms.out.fin (by omega) (by omega) (by omega) (by omega) (by omega))
            have HH := hide1 (put3_blk hms.out.r (.slice (some ⟨b, 0, none⟩) n c) (.slice (some ⟨b', 0, none⟩) k c') (.int .i64 (M : Int)))
            have q0 : wr.cell? ⟨q, 0, none⟩ = some (.slice (some ⟨b, 0, none⟩) n c) := hms.out.q.cell 0
            have q1 : wr.cell? ⟨q, 1, none⟩ = some (.slice (some ⟨b', 0, none⟩) k c') := hms.out.q.cell 1
            have q2 : wr.cell? ⟨q, 2, none⟩ = some (.int .i64 (M : Int)) := hms.out.q.cell 2
            have y0 : wr.cell? ⟨w.heap.size + 1, 0, none⟩ = some (.slice none 0 0) := hms.out.r.cell 0
            have y1 : wr.cell? ⟨w.heap.size + 1, 1, none⟩ = some (.slice none 0 0) := hms.out.r.cell 1
            have y2 : wr.cell? ⟨w.heap.size + 1, 2, none⟩ = some (.int .i64 0) := hms.out.r.cell 2
            have yf : ∀ j, wr.frozen? ⟨w.heap.size + 1, j, none⟩ = false := fun j => hms.out.r.froz j
            unfold put3 at HV HH
            go_wp2
            refine bodyPost_ret (results_cell_row Try.results62 _ _ (w.heap.size + 1) 29 #[.slice (some ⟨b, 0, none⟩) n c, .slice (some ⟨b', 0, none⟩) k c', .int .i64 (M : Int)] (0, 0) _ rfl HH.out Try.underlying29 rfl (by kernel_rfl)) rfl ?_
            exact ⟨_, _, _, M, rfl, HV.out, HRES.out⟩
end Go.Proofs.Ytinjohpeanlalaa
