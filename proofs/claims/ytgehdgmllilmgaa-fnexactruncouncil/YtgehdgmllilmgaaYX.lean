/- The program's councils: whether events are right. -/
import Derived.Test.YtgehdgmllilmgaaYW
import Derived.Test.YtgehdgmllilmgaaCoZ
namespace Go.Proofs.Ytgehdgmllilmgaa
open Go.RowKit
set_option linter.unusedVariables false

set_option maxRecDepth 100000 in
set_option maxHeartbeats 2000000 in
theorem implOkE_any (t : Int) (e : Hp) (w : World) (hz : e.v.size ≤ 1048576) :
    Calls Try.prog 73 #[.agg #[.int .i64 e.k, .int .i64 e.i, .int .i64 e.a, .string e.v], .int .i64 t] w fun r w' => r = .returned (.bool (decide (okHp t e))) ∧ Below w.heap.size w w' := by
  have F0 := hide1 ((Below.refl w.heap.size w).alloc (Nat.le_refl _) (.cells #[.int .i64 e.k, .int .i64 e.i, .int .i64 e.a, .string e.v] 40))
  obtain ⟨res, hres⟩ : ∃ r, decide (okHp t e) = r := ⟨_, rfl⟩
  rw [hres]
  by_cases c1 : e.i < 1
  · have HR := hide1 (show res = false by rw [← hres]; exact decide_eq_false (fun h => by have := h.2.1; omega))
    go_enter Try.func73, Try.ntmps73
    go_wp2
    go_ret
    exact ⟨by rw [HR.out]; rfl, F0.out⟩
  by_cases c2 : t < e.i
  · have HR := hide1 (show res = false by rw [← hres]; exact decide_eq_false (fun h => by have := h.2.1; omega))
    go_enter Try.func73, Try.ntmps73
    go_wp2
    go_ret
    exact ⟨by rw [HR.out]; rfl, F0.out⟩
  by_cases c3 : e.a < 0
  · have HR := hide1 (show res = false by rw [← hres]; exact decide_eq_false (fun h => by have := h.2.2.1; omega))
    go_enter Try.func73, Try.ntmps73
    go_wp2
    go_ret
    exact ⟨by rw [HR.out]; rfl, F0.out⟩
  by_cases c4 : e.k = 1
  · have q1 : (e.k == 1) = true := by simp [c4]
    by_cases c5 : (1 : Int) ≤ (e.v.size : Int)
    · by_cases c6 : (e.v.size : Int) ≤ 40
      · have HR := hide1 (show res = true by rw [← hres]; exact decide_eq_true ⟨by omega, by omega, by omega, fun _ => by omega, fun h => absurd c4 h⟩)
        clear c4 hres
        go_enter Try.func73, Try.ntmps73
        go_wp2
        go_ret
        exact ⟨by rw [HR.out]; rfl, F0.out⟩
      · have HR := hide1 (show res = false by rw [← hres]; exact decide_eq_false (fun h => by have := h.2.2.2.1 c4; omega))
        clear c4 hres
        go_enter Try.func73, Try.ntmps73
        go_wp2
        go_ret
        exact ⟨by rw [HR.out]; rfl, F0.out⟩
    · have HR := hide1 (show res = false by rw [← hres]; exact decide_eq_false (fun h => by have := h.2.2.2.1 c4; omega))
      clear c4 hres
      go_enter Try.func73, Try.ntmps73
      go_wp2
      go_ret
      exact ⟨by rw [HR.out]; rfl, F0.out⟩
  · have q1 : (e.k == 1) = false := by simp [c4]
    have HM := hide1 (show (2 ≤ e.k ∧ e.k ≤ 4) → (res = e.v.toList.isEmpty) from fun hk => by
      rw [← hres]
      cases he : e.v.toList with
      | nil => exact decide_eq_true ⟨by omega, by omega, by omega, fun h => absurd h c4, fun _ => he⟩
      | cons x l => exact decide_eq_false (fun h => by have := h.2.2.2.2 c4; rw [he] at this; cases this))
    by_cases c5 : e.k = 2
    · have q2 : (e.k == 2) = true := by simp [c5]
      have HR := hide1 (HM.out (by omega))
      clear c4 c5 hres HM
      go_enter Try.func73, Try.ntmps73
      go_wp2
      go_ret
      exact ⟨by rw [HR.out]; rfl, F0.out⟩
    have q2 : (e.k == 2) = false := by simp [c5]
    by_cases c6 : e.k = 3
    · have q3 : (e.k == 3) = true := by simp [c6]
      have HR := hide1 (HM.out (by omega))
      clear c4 c5 c6 hres HM
      go_enter Try.func73, Try.ntmps73
      go_wp2
      go_ret
      exact ⟨by rw [HR.out]; rfl, F0.out⟩
    have q3 : (e.k == 3) = false := by simp [c6]
    by_cases c7 : e.k = 4
    · have q4 : (e.k == 4) = true := by simp [c7]
      have HR := hide1 (HM.out (by omega))
      clear c4 c5 c6 c7 hres HM
      go_enter Try.func73, Try.ntmps73
      go_wp2
      go_ret
      exact ⟨by rw [HR.out]; rfl, F0.out⟩
    have q4 : (e.k == 4) = false := by simp [c7]
    have HR := hide1 (show res = false by rw [← hres]; exact decide_eq_false (fun h => by have := h.1; omega))
    clear c4 c5 c6 c7 hres HM
    go_enter Try.func73, Try.ntmps73
    go_wp2
    go_ret
    exact ⟨by rw [HR.out]; rfl, F0.out⟩

/-- Events that a council may be run by. -/
def okHps (t : Int) (l : List Hp) : Prop := l.length ≤ 80 ∧ ∀ e ∈ l, okHp t e
instance (t : Int) (l : List Hp) : Decidable (okHps t l) := by unfold okHps; infer_instance
set_option maxRecDepth 100000 in
set_option maxHeartbeats 2000000 in
theorem implOkHs_any (a : Option Addr) (ca : Nat) (l : List Hp) (t : Int) (w : World) (hl : l.length ≤ 1048576) (hz : ∀ e ∈ l, e.v.size ≤ 1048576) (hR : RdG hpC 4 w a l) :
    Calls Try.prog 38 #[.slice a l.length ca, .int .i64 t] w fun r w' => r = .returned (.bool (decide (okHps t l))) ∧ Below w.heap.size w w' := by
  have HR := hide1 hR
  have HZ := hide1 hz
  clear hR hz
  obtain ⟨res, hres⟩ : ∃ r, decide (okHps t l) = r := ⟨_, rfl⟩
  rw [hres]
  by_cases c0 : (80 : Int) < (l.length : Int)
  · have HS := hide1 (show res = false by rw [← hres]; exact decide_eq_false (fun h => by have := h.1; omega))
    clear hres
    go_enter Try.func38, Try.ntmps38
    go_wp2
    go_ret
    exact ⟨by rw [HS.out]; rfl, Below.refl _ _⟩
  · have HRES := hide1 hres
    clear hres
    go_enter Try.func38, Try.ntmps38
    go_wp2
    go_loopw [12] (fun iv wr => ∃ i : Nat, i ≤ l.length ∧ iv = .int .i64 (i : Int) ∧ Hid (∀ j (hj : j < l.length), j < i → okHp t l[j]) ∧ Hid (Below w.heap.size w wr)) (fun iv _ => l.length - (intOf iv).toNat)
    case atStart => exact ⟨0, by omega, rfl, hide1 (fun j _ h => by omega), hide1 (Below.refl _ _)⟩
    case round =>
      obtain ⟨i, hi, rfl, ha, HB⟩ := hrel
      by_cases hlt : i < l.length
      · have k1 : (i : Int) < (l.length : Int) := by omega
        have k0 : (0 : Int) ≤ (i : Int) := by omega
        obtain ⟨b, q, rfl, hb, h1⟩ := HR.out i hlt
        have x0 : wr.cell? ⟨b, q + i * 4, none⟩ = some (.int .i64 l[i].k) := (HB.out.cell (p := ⟨b, q + i * 4 + 0, none⟩) hb).trans (h1 0 (by omega))
        have x1 : wr.cell? ⟨b, q + i * 4 + 1, none⟩ = some (.int .i64 l[i].i) := (HB.out.cell (p := ⟨b, q + i * 4 + 1, none⟩) hb).trans (h1 1 (by omega))
        have x2 : wr.cell? ⟨b, q + i * 4 + 2, none⟩ = some (.int .i64 l[i].a) := (HB.out.cell (p := ⟨b, q + i * 4 + 2, none⟩) hb).trans (h1 2 (by omega))
        have x3 : wr.cell? ⟨b, q + i * 4 + 3, none⟩ = some (.string l[i].v) := (HB.out.cell (p := ⟨b, q + i * 4 + 3, none⟩) hb).trans (h1 3 (by omega))
        have CE := hide1 (fun w' => implOkE_any t l[i] w' (HZ.out _ (List.getElem_mem hlt)))
        have HN := hide1 (show okHp t l[i] → ∀ j (hj : j < l.length), j < i + 1 → okHp t l[j] from fun hq j hj hji => by
          by_cases e : j < i
          · exact ha.out j hj e
          · obtain rfl : j = i := by omega
            exact hq)
        have HF := hide1 (show ¬ okHp t l[i] → res = false from fun hq => by rw [← HRES.out]; exact decide_eq_false (fun h => hq (h.2 _ (List.getElem_mem hlt))))
        have FB := hide1 (HB.out.alloc HB.out.size (.cells #[.int .i64 l[i].k, .int .i64 l[i].i, .int .i64 l[i].a, .string l[i].v] 40))
        clear h1 ha
        generalize l[i] = e at *
        by_cases co : okHp t e
        · have HN2 := hide1 (HN.out co)
          rw [decide_eq_true co] at CE
          clear co HN HF
          go_wp2_with fail
          refine (CE.out _).mono ?_
          rintro r w2 ⟨rfl, hb2⟩
          have B2 := hide1 (FB.out.trans (hb2.mono FB.out.size))
          clear hb2 x0 x1 x2 x3 CE
          go_wp2
          go_roundw
          case rel => exact ⟨i + 1, by omega, by go_num, HN2, B2⟩
          case measure => simp [intOf]; omega
        · have HS := hide1 (HF.out co)
          rw [decide_eq_false co] at CE
          clear co HN HF
          go_wp2_with fail
          refine (CE.out _).mono ?_
          rintro r w2 ⟨rfl, hb2⟩
          have B2 := hide1 (FB.out.trans (hb2.mono FB.out.size))
          clear hb2 x0 x1 x2 x3 CE
          go_wp2
          go_ret
          exact ⟨by rw [HS.out]; rfl, B2.out⟩
      · obtain rfl : i = l.length := by omega
        have k1 : ¬ ((l.length : Int) < (l.length : Int)) := by omega
        have HS := hide1 (show res = true by
          rw [← HRES.out]
          exact decide_eq_true ⟨by omega, fun e he => by
            obtain ⟨j, hj, rfl⟩ := List.getElem_of_mem he
            exact ha.out j hj hj⟩)
        clear ha
        go_wp2
        go_ret
        exact ⟨by rw [HS.out]; rfl, HB.out⟩
end Go.Proofs.Ytgehdgmllilmgaa
namespace Go.Proofs.Ytgehdgmllilmgaa
open Go.RowKit
set_option linter.unusedVariables false

theorem size_nil {s : ByteArray} (h : s.toList = []) : s.size = 0 := by
  have e : s.toList = s.data.toList := ByteArray.toList_eq s
  rw [e] at h
  show s.data.size = 0
  rw [← Array.length_toList, h]
  rfl
theorem okHp.size {t : Int} {e : Hp} (h : okHp t e) : e.v.size ≤ 40 := by
  by_cases c : e.k = 1
  · exact (h.2.2.2.1 c).2
  · rw [size_nil (h.2.2.2.2 c)]; omega
theorem Sz.runC : ∀ (es : List Hp) {c : Cn} {k : Nat}, Sz k c → (∀ e ∈ es, e.v.size ≤ 40) → Sz (k + es.length) (runC c es).1
  | [], c, k, h, _ => h
  | e :: es, c, k, h, he => by
    have := Sz.runC es (h.doC (he e (by simp))) (fun x hx => he x (by simp [hx]))
    rw [List.length_cons, show k + (es.length + 1) = k + 1 + es.length by omega]
    exact this
theorem vs_runC : ∀ (es : List Hp) (c : Cn), (runC c es).1.vs.length = c.vs.length
  | [], c => rfl
  | e :: es, c => (vs_runC es (doC c e).1).trans vs_doC
theorem NA12.runC {n : Nat} (hn : 1 ≤ n) : ∀ (es : List Hp) {c : Cn}, NA12 n c → c.vs.length = n → NA12 n (runC c es).1
  | [], c, h, _ => h
  | e :: es, c, h, hv => NA12.runC hn es (h.doC hn hv) (vs_doC.trans hv)
theorem codes_len : ∀ (es : List Hp) (c : Cn), (runC c es).2.length = es.length
  | [], c => rfl
  | e :: es, c => by show (_ :: _).length = _; rw [List.length_cons, codes_len es]; rfl
theorem go13_of {n T k : Nat} {Pr : ByteArray → Prop} {c : Cn} (G : GC n T Pr c) (h : Sz k c) (hk : k ≤ 1000) : Go13 c := by
  obtain ⟨F, R⟩ := fit_of G h (by omega)
  have hns : c.ns.length ≤ 100000 := by have := h.l; omega
  have hch : c.ch.length ≤ 100000 := by have := h.h; omega
  refine ⟨⟨F.t, F.v, hns, hch, F.l, fun x hx => by have := h.v x hx; omega⟩, fun m hm => ?_, F.i, F.b⟩
  obtain ⟨V, A, G⟩ := G
  have hs := h.n m hm
  obtain ⟨_, hm⟩ := G.no m hm
  have h1 := G.nv
  have h2 := G.nt
  rcases hm with ⟨q, q1, q2⟩ | ⟨q, q1, q2⟩ | ⟨q, q1, q2, q3⟩ | ⟨q, q1, q2, q3⟩
  · exact ⟨by omega, q2.1, fun h => by omega, fun _ => by rw [h1]; exact q2.2, by omega⟩
  · exact ⟨by omega, q2.1, fun _ => by rw [h2]; exact q2.2, fun h => by omega, by omega⟩
  · exact ⟨by omega, q2.1, fun h => by omega, fun _ => by rw [h1]; exact q2.2, by omega⟩
  · exact ⟨by omega, q2.1, fun _ => by rw [h2]; exact q2.2, fun h => by omega, by omega⟩
/-- What a run is, told together. -/
def runR (v t : Int) (es : List Hp) : Cn × List Int × Bool := if okNew v t ∧ okHps t es then ((runC (newCn v.toNat t.toNat) es).1, (runC (newCn v.toNat t.toNat) es).2, true) else (zeroCn, [], false)
/-- What is known behind the first i events. -/
structure Mid13 (v t i : Nat) (es : List Hp) (c : Cn) (k : List Int) : Prop where
  hc : c = (runC (newCn v t) (es.take i)).1
  hk : k = (runC (newCn v t) (es.take i)).2
  hg : GC v t (fun _ => True) c
  hs : Sz i c
  hn : NA12 c.vs.length c
  hv : c.vs.length = v
  ht : c.ts.length = t
  hl : k.length = i
theorem Mid13.new (v t : Nat) (es : List Hp) (hv : 1 ≤ v ∧ v ≤ 5) (ht : t ≤ 4) : Mid13 v t 0 es (newCn v t) [] := by
  obtain ⟨l1, l2, _, _⟩ := newCn_len v t
  exact ⟨by simp [runC], by simp [runC], GC.new v t ht, Sz.new v t hv.2, by rw [l1]; exact NA12.new v t hv.1, l1, l2, rfl⟩
theorem Mid13.next {v t i : Nat} {es : List Hp} {c : Cn} {k : List Int} (h : Mid13 v t i es c k) (hv : 1 ≤ v) (hi : i < es.length) (he : okHp t es[i]) : Mid13 v t (i + 1) es (doC c es[i]).1 (k ++ [(doC c es[i]).2]) := by
  have e1 := runC_append (newCn v t) (es.take i) es[i]
  rw [← List.take_succ_eq_append_getElem hi, ← h.hc, ← h.hk] at e1
  have g := h.hg.doC (e := es[i]) he (fun _ => trivial)
  have hvs : (doC c es[i]).1.vs.length = v := vs_doC.trans h.hv
  refine ⟨by rw [e1], by rw [e1], g, h.hs.doC he.size, ?_, hvs, ?_, by rw [List.length_append, h.hl]; rfl⟩
  · have := h.hn.doC (e := es[i]) (by rw [h.hv]; exact hv) rfl
    rw [hvs, ← h.hv]
    exact this
  · obtain ⟨_, _, G⟩ := g
    exact G.nt
end Go.Proofs.Ytgehdgmllilmgaa
