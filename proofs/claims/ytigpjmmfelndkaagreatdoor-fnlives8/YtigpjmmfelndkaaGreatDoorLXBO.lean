import Derived.Deep.LoopGhost
import Derived.Test.YtigpjmmfelndkaaGreatDoorLXB
namespace Go.Proofs.YtigpjmmfelndkaaGreatDoor
open Go.RowKit
set_option maxRecDepth 100000
set_option maxHeartbeats 1000000
theorem quE : ∀ (n : Nat) (v : List Nat), v.Nodup -> (∀ p ∈ v, p < n) -> v.length <= n
 | 0, v, _, h => by
  match v, h with
  | [], _ => exact Nat.le_refl _
  | p :: v, h => exact absurd (h p (by simp)) (Nat.not_lt_zero _)
 | n + 1, v, hn, h => by
  by_cases c : n ∈ v
  ·have ih := quE n (v.erase n) (hn.erase n) (fun p hp => by
    have h1 := h p (List.mem_of_mem_erase hp)
    have h2 : p ≠ n := ((hn.mem_erase_iff).1 hp).1
    omega)
   rw [List.length_erase_of_mem c] at ih
   omega
  ·have ih := quE n v hn (fun p hp => by
    have h1 := h p hp
    have h2 : p ≠ n := fun e => c (e ▸ hp)
    omega)
   omega
theorem Tryz.infoBool : (Tryz.prog.info? 4).map (fun i => (i.zero, i.size, i.bytes)) = some (some (.bool false), 1, 1) := by kernel_rfl
def tc (l : List Bool) : List Value := l.map Value.bool
theorem zdG (l : List Bool) (i : Nat) (b : Bool) : (tc l).set i (.bool b) = tc (l.set i b) := by unfold tc; rw [List.map_set]
def met (n : Nat) (vis : List Nat) : List Bool := (List.range n).map fun j => decide (j ∈ vis)
theorem qgH (n : Nat) (vis : List Nat) : (met n vis).length = n := by simp [met]
theorem qqV (n : Nat) (vis : List Nat) (j : Nat) (h : j < n) : (met n vis)[j]? = some (decide (j ∈ vis)) := by simp [met, h]
theorem zbZ (n : Nat) : met n [] = List.replicate n false := by
 refine List.ext_getElem? fun j => ?_
 by_cases h : j < n
 ·rw [qqV n [] j h]; simp [h]
 ·rw [List.getElem?_eq_none (by rw [qgH]; omega), List.getElem?_eq_none (by simp; omega)]
theorem qzO (n : Nat) (vis : List Nat) (p : Nat) (hp : p < n) : (met n vis).set p true = met n (vis ++ [p]) := by
 refine List.ext_getElem? fun j => ?_
 by_cases h : j < n
 ·rw [qqV _ _ j h]
  by_cases e : p = j
  ·subst e; rw [List.getElem?_set_self (by rw [qgH]; exact hp)]; simp
  ·rw [List.getElem?_set_ne e, qqV _ _ j h]
   have : j ≠ p := fun h => e h.symm
   simp [this]
 ·rw [List.getElem?_eq_none (by rw [List.length_set, qgH]; omega), List.getElem?_eq_none (by rw [qgH]; omega)]
structure WayA (l : List Sl) (f a : Int) (vis : List Nat) : Prop where
 path : Path l f vis a
 nodup : vis.Nodup
 lt : ∀ p ∈ vis, p < l.length
theorem WayA.not_out {l : List Sl} {f a : Int} {vis : List Nat} (h : WayA l f a vis) (ha : a ≠ -1) (ho : ¬ (0 <= a /\ a <= (l.length : Int) - 1)) : ¬ OkA l f := by
 rintro ⟨_, _, ⟨V, hV, _⟩, _⟩
 obtain ⟨V', rfl, hc⟩ := h.path.chain.1 hV
 match V', hc with
 | [], hc => exact ha hc
 | p :: V', hc =>
  have e : a = (p : Int) := hc.1
  have hp := hc.2.1
  omega
theorem WayA.not_seen {l : List Sl} {f : Int} {p : Nat} {vis : List Nat} (h : WayA l f (p : Int) vis) (hs : p ∈ vis) : ¬ OkA l f := by
 rintro ⟨_, _, ⟨V, hV, _⟩, _⟩
 obtain ⟨V', rfl, hc⟩ := h.path.chain.1 hV
 match V', hc with
 | [], hc => have e : (p : Int) = -1 := hc; omega
 | q :: V', hc =>
  have e : (p : Int) = (q : Int) := hc.1
  obtain rfl : p = q := by omega
  have := hV.nodup
  rw [List.nodup_append] at this
  exact this.2.2 p hs p (by simp) rfl
theorem WayA.not_used {l : List Sl} {f : Int} {p : Nat} {vis : List Nat} (h : WayA l f (p : Int) vis) (hp : p < l.length) (hu : l[p].used = true) : ¬ OkA l f := by
 rintro ⟨_, _, ⟨V, hV, hall⟩, _⟩
 obtain ⟨V', rfl, hc⟩ := h.path.chain.1 hV
 match V', hc with
 | [], hc => have e : (p : Int) = -1 := hc; omega
 | q :: V', hc =>
  have e : (p : Int) = (q : Int) := hc.1
  obtain rfl : p = q := by omega
  have := (hall p hp).2 (by simp)
  rw [hu] at this
  cases this
theorem WayA.next {l : List Sl} {f : Int} {p : Nat} {vis : List Nat} (h : WayA l f (p : Int) vis) (hp : p < l.length) (hs : p ∉ vis) : WayA l f l[p].next (vis ++ [p]) := by
 refine ⟨h.path.snoc hp, ?_, ?_⟩
 ·rw [List.nodup_append]
  refine ⟨h.nodup, by simp, ?_⟩
  intro a ha b hb e
  simp at hb
  subst hb e
  exact hs ha
 ·intro q hq
  rcases List.mem_append.1 hq with h1 | h1
  ·exact h.lt q h1
  ·simp at h1; omega
theorem WayA.room {l : List Sl} {f : Int} {p : Nat} {vis : List Nat} (h : WayA l f (p : Int) vis) (hp : p < l.length) (hs : p ∉ vis) : vis.length < l.length := by
 have w := h.next hp hs
 have := quE l.length _ w.nodup w.lt
 simp at this
 omega
theorem qwV {z : ByteArray} (h : z.size = 0) : z.toList = [] := by
 rw [ByteArray.toList_eq]
 exact List.eq_nil_of_length_eq_zero (by simpa using h)
theorem zaV {z : ByteArray} (h : ¬ z.size = 0) : ¬ z.toList = [] := by
 rw [ByteArray.toList_eq]
 intro e
 have := congrArg List.length e
 simp at this
 exact h (by simp [this])
theorem OkA.met {l : List Sl} {f : Int} {vis : List Nat} (h : OkA l f) (hc : Chain l f vis) (i : Nat) (hi : i < l.length) : l[i].used = false ↔ i ∈ vis := by
 obtain ⟨V, hV, hall⟩ := h.chain
 rw [<- Chain.det hV hc]
 exact hall i hi
theorem qgC (ao : Option Addr) (l : List Sl) (ca : Nat) (f : Int) (w : World) (hl : l.length <= 1048576) (hA : RdA w ao l) :
  Calls Tryz.prog 93 #[arV ao l.length ca f] w fun e w' => ∃ x : Bool, e = .returned (.bool x) /\ (x = true ↔ OkA l f) /\ Below w.heap.size w w' := by
 obtain ⟨i0, hi, hz0, hz1, hz2⟩ := info_parts Tryz.infoBool
 have c0 := fun w => qdP (l.length : Int) 1 24 w
 unfold arV
 by_cases hn : 1 <= l.length /\ l.length <= 24
 ·rw [show (decide ((1 : Int) <= (l.length : Int)) && decide ((l.length : Int) <= 24)) = true by simp; omega] at c0
  obtain ⟨hn1, hn2⟩ := hn
  have C0 := hI c0
  have HA := hI hA
  clear c0 hA
  go_enter Tryz.func93, Tryz.ntmps93
  go_wp2_with fail
  refine (C0.out _).mono ?_
  rintro e w1 ⟨rfl, rfl⟩
  go_wp2_with (at_make; (refine wpList_make_full _ rfl _ _ 189 rfl (w.heap.size + 1) 4 i0 (.bool false) 1 Tryz.underlying189 hi hz0 hz1 _ _ _ _ l.length rfl rfl rfl rfl (by rw [hz2]; omega) (by unfold maxLen; omega) (by rw [World.size_alloc]; omega) ?_; intro w1 hown0 hg0; have x0 : w1.cell? ⟨w.heap.size, 0, none⟩ = some (.slice ao l.length ca) := hg0.cell (World.cell?_alloc_at _ _ _ _ rfl) (by simp); have x1 : w1.cell? ⟨w.heap.size, 1, none⟩ = some (.int .i64 f) := hg0.cell (World.cell?_alloc_at _ _ _ _ rfl) (by simp)))
  simp only [World.size_alloc] at hown0
  have HO : Hid (w1.ownsRow (w.heap.size + 1) 4 1 (.slice (some ⟨w.heap.size + 1, 0, none⟩) l.length l.length) l.length (tc (met l.length []))) := by
   have e : (madeCells (Value.bool false).cells (l.length * 1)).toList = tc (met l.length []) := by
    show (madeCells #[Value.bool false] (l.length * 1)).toList = _
    rw [toList_madeCells_one, Nat.mul_one, zbZ]
    simp [tc]
   rw [<- e]; exact hown0
  have B1 : Hid (Below w.heap.size w w1) := Below.grown (bAl _ _) hg0 (by rw [World.size_alloc]; omega) (by intro k hk; cases hk)
  have hs1 : Hid (w.heap.size + 1 <= w1.heap.size) := by have := hg0.size; rw [World.size_alloc] at this; exact this
  clear hown0 hg0 C0
  go_loopg [5] l.length (fun k av wr => ∃ (a : Int) (vis : List Nat), av = .int .i64 a /\ Hid (k = l.length - vis.length) /\ Hid (WayA l f a vis) /\ wr.ownsRow (w.heap.size + 1) 4 1 (.slice (some ⟨w.heap.size + 1, 0, none⟩) l.length l.length) l.length (tc (met l.length vis)) /\ Below (w.heap.size + 1) w1 wr)
  case atStart => exact ⟨f, [], rfl, rfl, ⟨rfl, List.nodup_nil, fun p hp => by cases hp⟩, HO.out, Below.refl _ _⟩
  case round =>
   obtain ⟨a, vis, rfl, hgk, hway, hown, hbel⟩ := hrel
   have x0' : wr.cell? ⟨w.heap.size, 0, none⟩ = some (.slice ao l.length ca) := (hbel.cell (p := ⟨w.heap.size, 0, none⟩) (by dsimp only; omega)).trans x0
   have BW := hI (B1.out.trans (hbel.mono (show w.heap.size <= w.heap.size + 1 by omega)))
   by_cases hm : a = -1
   ·subst hm
    have HCH := hI (show Chain l f vis from hway.out.path.chain.2 ⟨[], by simp, rfl⟩)
    have HOB := hI hown
    have hws := hI (hbel.size)
    clear hown hway hgk hbel
    generalize wr = wa at *
    go_wp2
    go_loopw [6] (fun iv wq => ∃ i : Nat, i <= l.length /\ iv = .int .i64 (i : Int) /\ Hid (∀ j (h : j < l.length), j < i -> qmV l[j] /\ (l[j].used = false ↔ j ∈ vis)) /\ Below wa.heap.size wa wq) (fun iv _ => l.length - (intOf iv).toNat)
    case atStart => exact ⟨0, by omega, rfl, fun j _ h => by omega, Below.refl _ _⟩
    case round =>
     obtain ⟨i, hi, rfl, hdone, hbel⟩ := hrel
     by_cases hlt : i < l.length
     ·have k1 : (i : Int) < (l.length : Int) := by omega
      have hsz : w.heap.size + 1 < wa.heap.size := (HOB.out.lt (w.heap.size + 1) rfl).2
      have B2 := tRn BW hbel
      have z0 : wr.cell? ⟨w.heap.size, 0, none⟩ = some (.slice ao l.length ca) := (hbel.cell (p := ⟨w.heap.size, 0, none⟩) (by dsimp only; omega)).trans x0'
      obtain ⟨g, rfl, hg, h1⟩ := HA.out.at i hlt
      obtain ⟨y0, y1, y2, y3, y4⟩ := h1.below B2.out hg
      have m1 : wr.cell? ⟨w.heap.size + 1, i, none⟩ = some (.bool (decide (i ∈ vis))) := (hbel.cell (p := ⟨w.heap.size + 1, i, none⟩) (by dsimp only; omega)).trans ((HOB.out.cellAt i (by omega)).trans (by rw [tc, List.getElem?_map, qqV _ _ i hlt]; rfl))
      have hmt := hI (fun h : OkA l f => h.met HCH.out i hlt)
      have hsl := hI (fun h : OkA l f => h.slots i hlt)
      have hst := hI (fun (h : qmV l[i]) (k : l[i].used = false ↔ i ∈ vis) j (hj : j < l.length) (hj2 : j < i + 1) => show qmV l[j] /\ (l[j].used = false ↔ j ∈ vis) by
       by_cases e : j < i
       ·exact hdone.out j hj e
       ·obtain rfl : j = i := by omega
        exact ⟨h, k⟩)
      generalize hs : l[i] = s at *
      clear hs h1
      obtain ⟨gn, us, ky, vl, nx⟩ := s
      simp only at y0 y1 y2 y3 y4 hmt hsl hst
      have hww2 : w.heap.size + 1 < wr.heap.size := by have := hbel.size; omega
      obtain ⟨mt, hmd⟩ : ∃ mt, decide (i ∈ vis) = mt := ⟨_, rfl⟩
      rw [hmd] at m1
      have HMD := hI hmd
      clear hmd
      have n0 : (wr.alloc (.cells #[.int .i64 gn, .bool us, .string ky, .string vl, .int .i64 nx] 99)).cell? ⟨wr.heap.size, 0, none⟩ = some (.int .i64 gn) := World.cell?_alloc_at _ _ _ _ rfl
      have n1 : (wr.alloc (.cells #[.int .i64 gn, .bool us, .string ky, .string vl, .int .i64 nx] 99)).cell? ⟨wr.heap.size, 1, none⟩ = some (.bool us) := World.cell?_alloc_at _ _ _ _ rfl
      have n2 : (wr.alloc (.cells #[.int .i64 gn, .bool us, .string ky, .string vl, .int .i64 nx] 99)).cell? ⟨wr.heap.size, 2, none⟩ = some (.string ky) := World.cell?_alloc_at _ _ _ _ rfl
      have n3 : (wr.alloc (.cells #[.int .i64 gn, .bool us, .string ky, .string vl, .int .i64 nx] 99)).cell? ⟨wr.heap.size, 3, none⟩ = some (.string vl) := World.cell?_alloc_at _ _ _ _ rfl
      have n4 : (wr.alloc (.cells #[.int .i64 gn, .bool us, .string ky, .string vl, .int .i64 nx] 99)).cell? ⟨wr.heap.size, 4, none⟩ = some (.int .i64 nx) := World.cell?_alloc_at _ _ _ _ rfl
      have n5 : (wr.alloc (.cells #[.int .i64 gn, .bool us, .string ky, .string vl, .int .i64 nx] 99)).cell? ⟨w.heap.size + 1, i, none⟩ = some (.bool mt) := (World.cell?_alloc_lt wr _ ⟨w.heap.size + 1, i, none⟩ hww2).trans m1
      have BA := hI (hbel.alloc (hbel.size) (.cells #[.int .i64 gn, .bool us, .string ky, .string vl, .int .i64 nx] 99))
      have NN := hI (And.intro n0 (And.intro n1 (And.intro n2 (And.intro n3 (And.intro n4 n5)))))
      clear n0 n1 n2 n3 n4 n5
      have cg := fun w => qdP gn 0 41666665 w
      go_wp2
      generalize (wr.alloc (.cells #[.int .i64 gn, .bool us, .string ky, .string vl, .int .i64 nx] 99)) = wn at NN BA ⊢
      obtain ⟨n0, n1, n2, n3, n4, n5⟩ := NN.out
      have BN := hI (BW.out.trans (BA.out.mono BW.out.size))
      clear NN y0 y1 y2 y3 y4 m1 z0
      by_cases c1 : 0 <= gn /\ gn <= 41666665
      ·rw [show (decide ((0 : Int) <= gn) && decide (gn <= 41666665)) = true by simp; omega] at cg
       have CG := hI (fun w => (cg w).mono (fun e w' h => (⟨h.1, h.2.symm⟩ : _ /\ w' = w)))
       have C1 := hI c1
       clear cg c1
       rcases hq : (us == mt) with _ | _
       ·have HK : Hid (us = false ↔ i ∈ vis) := by
         show us = false ↔ i ∈ vis
         have h1 : ¬ us = mt := by simpa using hq
         have h2 := HMD.out
         constructor
         ·intro h; subst h; cases mt with | false => exact absurd rfl h1 | true => exact of_decide_eq_true h2
         ·intro h; rw [decide_eq_true h] at h2; subst h2; cases us with | false => rfl | true => exact absurd rfl h1
        go_quiet ((go_at_call 36; exact Calls.quiet_of_same (CG.out _)))
        rcases us with _ | _
        ·by_cases ck : ky.size = 0
         ·have qk : ky.toList = [] := qwV ck
          by_cases cv : vl.size = 0
          ·have qv : vl.toList.isEmpty = true := by rw [qwV cv]; rfl
           have HOK := hI (show qmV ⟨gn, false, ky, vl, nx⟩ from ⟨C1.out.1, C1.out.2, (fun h => by cases h), fun _ => ⟨ck, cv⟩⟩)
           clear ck cv
           go_wp2
           go_roundw
           case rel => exact ⟨i + 1, by omega, by go_num, hst.out HOK.out HK.out, by have := BA.out; first | exact this | exact this.drew | exact below_drewN this _⟩
           case measure => simp [intOf]; omega
          ·have qv : vl.toList.isEmpty = false := by cases h : vl.toList with | nil => exact absurd h (zaV cv) | cons a b => rfl
           have HN := hI (show ¬ OkA l f from fun h => cv ((hsl.out h).2.2.2 rfl).2)
           clear ck cv
           go_wp2
           go_ret
           first | exact .inl ⟨rfl, HN.out, by have := BN.out; first | exact this | exact this.drew | exact below_drewN this _⟩ | exact ⟨false, rfl, ⟨(fun h => by cases h), fun h => absurd h HN.out⟩, by have := BN.out; first | exact this | exact this.drew | exact below_drewN this _⟩
         ·have qk : ¬ ky.toList = [] := zaV ck
          have HN := hI (show ¬ OkA l f from fun h => ck ((hsl.out h).2.2.2 rfl).1)
          clear ck
          go_wp2
          go_ret
          first | exact .inl ⟨rfl, HN.out, by have := BN.out; first | exact this | exact this.drew | exact below_drewN this _⟩ | exact ⟨false, rfl, ⟨(fun h => by cases h), fun h => absurd h HN.out⟩, by have := BN.out; first | exact this | exact this.drew | exact below_drewN this _⟩
        ·have kk := fun w => qdP (ky.size : Int) 1 12 w
         by_cases ck : 1 <= ky.size /\ ky.size <= 12
         ·rw [show (decide ((1 : Int) <= (ky.size : Int)) && decide ((ky.size : Int) <= 12)) = true by simp; omega] at kk
          have CK := hI kk
          have CKK := hI ck
          clear kk ck
          by_cases cv : vl.size <= 20
          ·have qv : decide ((20 : Int) < (vl.size : Int)) = false := by simp; omega
           by_cases cn : nx = 0
           ·have qn : (nx != 0) = false := by simp [cn]
            have HOK := hI (show qmV ⟨gn, true, ky, vl, nx⟩ from ⟨C1.out.1, C1.out.2, (fun _ => ⟨CKK.out.1, CKK.out.2, cv, cn⟩), fun h => by cases h⟩)
            clear cv cn
            go_wp2_with fail
            refine (CK.out _).mono ?_
            rintro e w4 ⟨rfl, rfl⟩
            go_wp2
            go_roundw
            case rel => exact ⟨i + 1, by omega, by go_num, hst.out HOK.out HK.out, by have := BA.out; first | exact this | exact this.drew | exact below_drewN this _⟩
            case measure => simp [intOf]; omega
           ·have qn : (nx != 0) = true := by simp [cn]
            have HN := hI (show ¬ OkA l f from fun h => cn ((hsl.out h).2.2.1 rfl).2.2.2)
            clear cv cn
            go_wp2_with fail
            refine (CK.out _).mono ?_
            rintro e w4 ⟨rfl, rfl⟩
            go_wp2
            go_ret
            first | exact .inl ⟨rfl, HN.out, by have := BN.out; first | exact this | exact this.drew | exact below_drewN this _⟩ | exact ⟨false, rfl, ⟨(fun h => by cases h), fun h => absurd h HN.out⟩, by have := BN.out; first | exact this | exact this.drew | exact below_drewN this _⟩
          ·have qv : decide ((20 : Int) < (vl.size : Int)) = true := by simp; omega
           have HN := hI (show ¬ OkA l f from fun h => cv ((hsl.out h).2.2.1 rfl).2.2.1)
           clear cv
           go_wp2_with fail
           refine (CK.out _).mono ?_
           rintro e w4 ⟨rfl, rfl⟩
           go_wp2
           go_ret
           first | exact .inl ⟨rfl, HN.out, by have := BN.out; first | exact this | exact this.drew | exact below_drewN this _⟩ | exact ⟨false, rfl, ⟨(fun h => by cases h), fun h => absurd h HN.out⟩, by have := BN.out; first | exact this | exact this.drew | exact below_drewN this _⟩
         ·rw [show (decide ((1 : Int) <= (ky.size : Int)) && decide ((ky.size : Int) <= 12)) = false by simp; omega] at kk
          have CK := hI kk
          have HN := hI (show ¬ OkA l f from fun h => ck ⟨((hsl.out h).2.2.1 rfl).1, ((hsl.out h).2.2.1 rfl).2.1⟩)
          clear kk ck
          go_wp2_with fail
          refine (CK.out _).mono ?_
          rintro e w4 ⟨rfl, rfl⟩
          go_wp2
          go_ret
          first | exact .inl ⟨rfl, HN.out, by have := BN.out; first | exact this | exact this.drew | exact below_drewN this _⟩ | exact ⟨false, rfl, ⟨(fun h => by cases h), fun h => absurd h HN.out⟩, by have := BN.out; first | exact this | exact this.drew | exact below_drewN this _⟩
       ·have HN := hI (show ¬ OkA l f from fun h => by
         have h1 : us = mt := by simpa using hq
         have h2 := hmt.out h
         have h3 := HMD.out
         rw [h1, <- h3] at h2
         by_cases hm : i ∈ vis
         ·have := h2.2 hm; rw [decide_eq_true hm] at this; cases this
         ·exact hm (h2.1 (decide_eq_false hm)))
        go_quiet ((go_at_call 36; exact Calls.quiet_of_same (CG.out _)))
        go_wp2
        go_ret
        first | exact .inl ⟨rfl, HN.out, by have := BN.out; first | exact this | exact this.drew | exact below_drewN this _⟩ | exact ⟨false, rfl, ⟨(fun h => by cases h), fun h => absurd h HN.out⟩, by have := BN.out; first | exact this | exact this.drew | exact below_drewN this _⟩
      ·rw [show (decide ((0 : Int) <= gn) && decide (gn <= 41666665)) = false by simp; omega] at cg
       have CG := hI (fun w => (cg w).mono (fun e w' h => (⟨h.1, h.2.symm⟩ : _ /\ w' = w)))
       have HN := hI (show ¬ OkA l f from fun h => c1 ⟨(hsl.out h).1, (hsl.out h).2.1⟩)
       clear cg c1
       go_quiet ((go_at_call 36; exact Calls.quiet_of_same (CG.out _)))
       go_wp2
       go_ret
       first | exact .inl ⟨rfl, HN.out, by have := BN.out; first | exact this | exact this.drew | exact below_drewN this _⟩ | exact ⟨false, rfl, ⟨(fun h => by cases h), fun h => absurd h HN.out⟩, by have := BN.out; first | exact this | exact this.drew | exact below_drewN this _⟩
     ·go_wp2
      go_ret
      exact ⟨true, rfl, ⟨(fun _ => ⟨hn1, hn2, ⟨vis, HCH.out, fun j hj => (hdone.out j hj (by omega)).2⟩, fun j hj => (hdone.out j hj (by omega)).1⟩), fun _ => rfl⟩, BW.out.trans (hbel.mono BW.out.size)⟩
   ·have q : (a != -1) = true := by simp [hm]
    have HM := hI hm
    clear hm
    have ci := fun w => qdP a 0 ((l.length : Int) - 1) w
    by_cases hr : 0 <= a /\ a <= (l.length : Int) - 1
    ·rw [show (decide ((0 : Int) <= a) && decide (a <= (l.length : Int) - 1)) = true by simp; omega] at ci
     obtain ⟨p, rfl⟩ := Int.eq_ofNat_of_zero_le hr.1
     have hp : p < l.length := by omega
     have hpi : (p : Int) < (l.length : Int) := by omega
     obtain ⟨g, rfl, hg, h1⟩ := HA.out.at p hp
     obtain ⟨y0, y1, y2, y3, y4⟩ := h1.below BW.out hg
     have m1 : wr.cell? ⟨w.heap.size + 1, p, none⟩ = some (.bool (decide (p ∈ vis))) := (hown.cellAt p (by omega)).trans (by rw [tc, List.getElem?_map, qqV _ _ p hp]; rfl)
     have m2 := hown.frozenAt p
     have CI := hI ci
     have HO1 := hI hown
     clear ci h1 y0 y2 y3 hr hown
     by_cases hv : p ∈ vis
     ·have HN := hI (hway.out.not_seen hv)
      rw [show decide (p ∈ vis) = true from decide_eq_true hv] at m1
      clear hv
      go_wp2_with fail
      refine (CI.out _).mono ?_
      rintro e w2 ⟨rfl, rfl⟩
      go_wp2
      go_ret
      exact ⟨false, rfl, ⟨(fun h => by cases h), fun h => absurd h HN.out⟩, BW.out⟩
     ·have HV := hI hv
      rw [show decide (p ∈ vis) = false from decide_eq_false hv] at m1
      clear hv
      rcases hu : l[p].used with _ | _
      ·rw [hu] at y1
       have HNX := hI (hway.out.next hp HV.out)
       have HRM := hI (hway.out.room hp HV.out)
       have ST := hI (World.ownsRow.stored HO1.out p (.bool true)).1
       have hpg : ¬ g = w.heap.size + 1 := by omega
       generalize l[p].next = nx at *
       clear hu HO1
       go_wp2_with fail
       refine (CI.out _).mono ?_
       rintro e w2 ⟨rfl, rfl⟩
       go_wp2
       go_roundg (l.length - (vis.length + 1))
       case measure => have := HRM.out; have := hgk.out; omega
       case rel =>
        refine ⟨nx, vis ++ [p], rfl, by show _ = _; simp, HNX.out, ?_, ?_⟩
        ·rw [<- qzO _ _ _ hp, <- zdG]; exact ST.out
        ·exact hbel.setCell (p := ⟨w.heap.size + 1, p, none⟩) (by dsimp only; omega) _
      ·rw [hu] at y1
       have HN := hI (hway.out.not_used hp hu)
       clear hu
       go_wp2_with fail
       refine (CI.out _).mono ?_
       rintro e w2 ⟨rfl, rfl⟩
       go_wp2
       go_ret
       exact ⟨false, rfl, ⟨(fun h => by cases h), fun h => absurd h HN.out⟩, BW.out⟩
    ·rw [show (decide ((0 : Int) <= a) && decide (a <= (l.length : Int) - 1)) = false by simp; omega] at ci
     have CI := hI ci
     have HN := hI (hway.out.not_out HM.out hr)
     clear ci hr
     go_wp2_with fail
     refine (CI.out _).mono ?_
     rintro e w2 ⟨rfl, rfl⟩
     go_wp2
     go_ret
     exact ⟨false, rfl, ⟨(fun h => by cases h), fun h => absurd h HN.out⟩, BW.out⟩
 ·rw [show (decide ((1 : Int) <= (l.length : Int)) && decide ((l.length : Int) <= 24)) = false by simp; omega] at c0
  have HN := hI (show ¬ OkA l f from fun h => hn ⟨h.least, h.most⟩)
  have C0 := hI c0
  clear c0 hA hn
  go_enter Tryz.func93, Tryz.ntmps93
  go_wp2_with fail
  refine (C0.out _).mono ?_
  rintro e w1 ⟨rfl, rfl⟩
  go_wp2
  go_ret
  exact ⟨false, rfl, ⟨(fun h => by cases h), fun h => absurd h HN.out⟩, by go_grown⟩
structure AtA (l : List Sl) (f h : Int) (k : Nat) : Prop where
 ok : OkA l f
 nonneg : 0 <= h
 lt : k < l.length
 place : h % 24 = (k : Int)
 used : l[k].used = true
 gen : l[k].gen = h / 24
theorem qiI {w w1 : World} {o : Obj} {cs : Array Value} {t : TypeId} (ho : o = .cells cs t) (hb : Below (w.alloc o).heap.size (w.alloc o) w1) (j : Nat) : w1.cell? ⟨w.heap.size, j, none⟩ = cs[j]? := by
 subst ho
 rw [hb.cell (p := ⟨w.heap.size, j, none⟩) (by dsimp only; rw [World.size_alloc]; omega), World.cell?_alloc_at _ _ _ _ rfl]
theorem qcL {w w1 : World} {o : Obj} (hb : Below (w.alloc o).heap.size (w.alloc o) w1) : Below w.heap.size w w1 :=
 (bAl _ _).trans (hb.mono (by rw [World.size_alloc]; omega))
theorem qmU (ao : Option Addr) (l : List Sl) (ca : Nat) (f h : Int) (w : World) (hl : l.length <= 1048576) (h1 : -9223372036854775808 <= h) (h2 : h <= 9223372036854775807) (hA : RdA w ao l) :
  Calls Tryz.prog 92 #[arV ao l.length ca f, .int .i64 h] w fun e w' => ((∃ k : Nat, e = .returned (.int .i64 (k : Int)) /\ AtA l f h k) ∨ (e = .returned (.int .i64 (-1)) /\ ∀ k, ¬ AtA l f h k)) /\ Below w.heap.size w w' := by
 have C1 := hI (fun o => qgC ao l ca f (w.alloc o) hl (hA.later ((Below.refl _ _).alloc (Nat.le_refl _) o)))
 have HA := hI hA
 clear hA
 unfold arV at C1 ⊢
 go_enter Tryz.func92, Tryz.ntmps92
 go_wp2_with fail
 refine (C1.out _).mono ?_
 rintro e w1 ⟨x, rfl, hx, hb1⟩
 have x0 : w1.cell? ⟨w.heap.size, 0, none⟩ = some (.slice ao l.length ca) := qiI rfl hb1 0
 have B1 := hI (qcL hb1)
 have HX := hI hx
 clear hb1 hx
 rcases x with _ | _
 ·have HN := hI (show ∀ k, ¬ AtA l f h k from fun k hk => by have := HX.out.2 hk.ok; cases this)
  clear HX
  go_wp2
  go_ret
  exact ⟨.inr ⟨rfl, HN.out⟩, B1.out⟩
 ·have HOK := hI (HX.out.1 rfl)
  clear HX
  by_cases hneg : h < 0
  ·have q : decide (h < 0) = true := decide_eq_true hneg
   have HN := hI (show ∀ k, ¬ AtA l f h k from fun k hk => by have := hk.nonneg; omega)
   clear hneg
   go_wp2
   go_ret
   exact ⟨.inr ⟨rfl, HN.out⟩, B1.out⟩
  ·obtain ⟨n, rfl⟩ := Int.eq_ofNat_of_zero_le (show 0 <= h by omega)
   have q0 : decide ((n : Int) < 0) = false := by simp
   obtain ⟨k, hk⟩ : ∃ k, n % 24 = k := ⟨_, rfl⟩
   have q1 : (n : Int) % 24 = (k : Int) := by omega
   have Q1 := hI q1
   have HK := hI hk
   clear hneg hk
   by_cases hlt : k < l.length
   ·have q2 : decide ((l.length : Int) <= (k : Int)) = false := by simp; omega
    have k1 : (k : Int) < (l.length : Int) := by omega
    obtain ⟨g, rfl, hg, hs⟩ := HA.out.at k hlt
    obtain ⟨y0, y1, y2, y3, y4⟩ := hs.below B1.out hg
    clear hs y2 y3 y4
    obtain ⟨r, hr⟩ : ∃ r, n / 24 = r := ⟨_, rfl⟩
    have q3 : (n : Int) / 24 = (r : Int) := by omega
    have HR := hI hr
    clear hr
    rcases hu : l[k].used with _ | _
    ·rw [hu] at y1
     have HN := hI (show ∀ j, ¬ AtA l f (n : Int) j from fun j hj => by
      have h1 := hj.place
      have h2 := HK.out
      obtain rfl : j = k := by omega
      have := hj.used
      rw [hu] at this
      cases this)
     clear hu
     go_wp2
     go_ret
     exact ⟨.inr ⟨rfl, HN.out⟩, B1.out⟩
    ·rw [hu] at y1
     by_cases hgn : l[k].gen = (r : Int)
     ·rw [hgn] at y0
      have q4 : ((r : Int) != (r : Int)) = false := by simp
      have HY := hI (show AtA l f (n : Int) k from ⟨HOK.out, by omega, hlt, by have := HK.out; omega, hu, by have := HR.out; rw [hgn]; omega⟩)
      clear hu hgn
      go_wp2
      go_ret
      exact ⟨.inl ⟨k, by first | rfl | (show Ending.returned (.int .i64 ((n : Int) % 24)) = _; rw [Q1.out]), HY.out⟩, B1.out⟩
     ·have q4 : (l[k].gen != (r : Int)) = true := by simp [hgn]
      have HN := hI (show ∀ j, ¬ AtA l f (n : Int) j from fun j hj => by
       have h1 := hj.place
       have h2 := HK.out
       obtain rfl : j = k := by omega
       have h3 := hj.gen
       have h4 := HR.out
       exact hgn (by rw [h3]; omega))
      clear hu hgn
      generalize l[k].gen = gn at *
      go_wp2
      go_ret
      exact ⟨.inr ⟨rfl, HN.out⟩, B1.out⟩
   ·have q2 : decide ((l.length : Int) <= (k : Int)) = true := by simp; omega
    have q2' : decide ((l.length : Int) <= (n : Int) % 24) = true := by rw [q1]; exact q2
    have HN := hI (show ∀ j, ¬ AtA l f (n : Int) j from fun j hj => by
     have h1 := hj.place
     have h2 := HK.out
     have h3 := hj.lt
     omega)
    have hge : l.length <= k := by omega
    clear hlt
    go_wp2
    go_ret
    exact ⟨.inr ⟨rfl, HN.out⟩, B1.out⟩
theorem qpY (ao : Option Addr) (l : List Sl) (ca : Nat) (f h : Int) (w : World) (hl : l.length <= 1048576) (h1 : -9223372036854775808 <= h) (h2 : h <= 9223372036854775807) (hA : RdA w ao l) :
  Calls Tryz.prog 54 #[arV ao l.length ca f, .int .i64 h] w fun e w' => ((∃ (k : Nat) (hk : k < l.length), e = .returned (.tuple #[.string l[k].key, .string l[k].val, .bool true]) /\ AtA l f h k) ∨ (e = .returned (.tuple #[.string ⟨#[]⟩, .string ⟨#[]⟩, .bool false]) /\ ∀ k, ¬ AtA l f h k)) /\ Below w.heap.size w w' := by
 have C1 := hI (fun o => qmU ao l ca f h (w.alloc o) hl h1 h2 (hA.later ((Below.refl _ _).alloc (Nat.le_refl _) o)))
 have HA := hI hA
 clear hA
 unfold arV at C1 ⊢
 go_enter Tryz.func54, Tryz.ntmps54
 go_wp2_with fail
 refine (C1.out _).mono ?_
 rintro e w1 ⟨hx, hb1⟩
 have x0 : w1.cell? ⟨w.heap.size, 0, none⟩ = some (.slice ao l.length ca) := qiI rfl hb1 0
 have B1 := hI (qcL hb1)
 clear hb1
 rcases hx with ⟨k, rfl, hk⟩ | ⟨rfl, hn⟩
 ·have q : decide ((k : Int) < 0) = false := by simp
  have hlt := hk.lt
  have HK := hI hk
  have k1 : (k : Int) < (l.length : Int) := by omega
  obtain ⟨g, rfl, hg, hs⟩ := HA.out.at k hlt
  obtain ⟨y0, y1, y2, y3, y4⟩ := hs.below B1.out hg
  clear hs y0 y1 y4 hk
  have HY := hI (show (∃ (j : Nat) (hk : j < l.length), Ending.returned (.tuple #[.string l[k].key, .string l[k].val, .bool true]) = .returned (.tuple #[.string l[j].key, .string l[j].val, .bool true]) /\ AtA l f h j) from ⟨k, hlt, rfl, HK.out⟩)
  generalize l[k].key = ky at *
  generalize l[k].val = vl at *
  go_wp2
  go_quiet (fail)
  go_wp2
  go_ret3
  exact ⟨.inl HY.out, below_drewN B1.out _⟩
 ·have HN := hI hn
  clear hn
  go_wp2
  go_ret3
  exact ⟨.inr ⟨rfl, HN.out⟩, B1.out⟩
def qeN (l : List Sl) : Nat -> Nat
 | 0 => 0
 | i + 1 => qeN l i + (if (l[i]?.map (·.used)) = some true then 1 else 0)
theorem qpF (ao : Option Addr) (l : List Sl) (ca : Nat) (f : Int) (w : World) (hl : l.length <= 1048576) (hA : RdA w ao l) :
  Calls Tryz.prog 53 #[arV ao l.length ca f] w fun e w' => (∃ r : Nat, e = .returned (.int .i64 (r : Int)) /\ (OkA l f -> r = qeN l l.length) /\ (¬ OkA l f -> r = 0)) /\ Below w.heap.size w w' := by
 have HA := hI hA
 clear hA
 unfold arV
 go_enter Tryz.func53, Tryz.ntmps53
 go_wp2
 go_loopw [3, 4] (fun nv iv wr => ∃ (i r : Nat), i <= l.length /\ iv = .int .i64 (i : Int) /\ nv = .int .i64 (r : Int) /\ r <= i /\ Hid (r = qeN l i) /\ Hid (0 < i -> OkA l f) /\ Below (w.heap.size + 1) (w.alloc (.cells #[.slice ao l.length ca, .int .i64 f] 26)) wr) (fun _ iv _ => l.length - (intOf iv).toNat)
 case atStart => exact ⟨0, 0, by omega, rfl, rfl, Nat.le_refl _, rfl, fun h => by omega, Below.refl _ _⟩
 case round =>
  obtain ⟨i, r, hi, rfl, rfl, hri, hr, hok, hbel⟩ := hrel
  have hb0 : Below (w.alloc (.cells #[.slice ao l.length ca, .int .i64 f] 26)).heap.size (w.alloc (.cells #[.slice ao l.length ca, .int .i64 f] 26)) wr := by rw [World.size_alloc]; exact hbel
  have x0 : wr.cell? ⟨w.heap.size, 0, none⟩ = some (.slice ao l.length ca) := qiI rfl hb0 0
  have x1 : wr.cell? ⟨w.heap.size, 1, none⟩ = some (.int .i64 f) := qiI rfl hb0 1
  have B1 := hI (qcL hb0)
  have BL := hI hbel
  clear hb0 hbel
  by_cases hlt : i < l.length
  ·have k1 : (i : Int) < (l.length : Int) := by omega
   have C1 := hI (qgC ao l ca f wr hl (HA.out.later B1.out))
   unfold arV at C1
   go_wp2_with fail
   refine C1.out.mono ?_
   rintro e w1 ⟨x, rfl, hx, hb1⟩
   have hsz1 : w.heap.size + 1 <= wr.heap.size := by have := BL.out.size; rw [World.size_alloc] at this; exact this
   have hsz : w.heap.size < wr.heap.size := by omega
   have z0 := (hb1.cell (p := ⟨w.heap.size, 0, none⟩) hsz).trans x0
   have B2 := tRn B1 hb1
   have BL2 := hI (BL.out.trans (hb1.mono hsz1))
   have HX := hI hx
   clear hx
   rcases x with _ | _
   ·have HN := hI (show ¬ OkA l f from fun h => by have := HX.out.2 h; cases this)
    have hi0 : Hid (r = 0) := by
     show r = 0
     by_cases h : 0 < i
     ·exact absurd (hok.out h) HN.out
     ·omega
    clear HX
    go_wp2
    go_ret
    exact ⟨⟨r, rfl, fun h => absurd h HN.out, fun _ => hi0.out⟩, B2.out⟩
   ·have HOK := hI (HX.out.1 rfl)
    clear HX
    obtain ⟨g, rfl, hg, hs⟩ := HA.out.at i hlt
    obtain ⟨y0, y1, y2, y3, y4⟩ := hs.below B2.out hg
    clear hs y0 y2 y3 y4 hb1
    have hun : Hid (qeN l (i + 1) = qeN l i + (if l[i].used = true then 1 else 0)) := by
     show qeN l (i + 1) = _
     rw [qeN, List.getElem?_eq_getElem hlt]
     simp
    rcases hu : l[i].used with _ | _
    ·rw [hu] at y1 hun
     clear hu
     go_wp2
     go_roundw
     case rel => exact ⟨i + 1, r, by omega, by go_num, rfl, by omega, by show r = _; rw [hun.out, <- hr.out]; rfl, fun _ => HOK.out, BL2.out⟩
     case measure => simp [intOf]; omega
    ·rw [hu] at y1 hun
     clear hu
     go_wp2
     go_roundw
     case rel => exact ⟨i + 1, r + 1, by omega, by go_num, by go_num, by omega, by show r + 1 = _; rw [hun.out, <- hr.out]; rfl, fun _ => HOK.out, BL2.out⟩
     case measure => simp [intOf]; omega
  ·obtain rfl : i = l.length := by omega
   go_wp2
   go_ret
   refine ⟨⟨r, rfl, fun _ => hr.out, fun h => ?_⟩, B1.out⟩
   by_cases h0 : 0 < l.length
   ·exact absurd (hok.out h0) h
   ·omega
end Go.Proofs.YtigpjmmfelndkaaGreatDoor
