import Derived.Test.YtigpjmmfelndkaaGreatDoorLXRO
namespace Go.Proofs.YtigpjmmfelndkaaGreatDoor
open Go.RowKit
set_option maxRecDepth 100000
set_option maxHeartbeats 2000000
theorem qvX (ao : Option Addr) (l : List Sl) (ca : Nat) (f : Int) (w : World) (hl : l.length <= 1048576) (hA : RdA w ao l) :
  Calls Tryz.prog 102 #[arV ao l.length ca f] w fun e w' => ∃ x : Bool, e = .returned (.bool x) /\ (x = true ↔ OkA l f) /\ Below w.heap.size w w' := by
 have C1 := hI (fun o => qdU ao l ca f (w.alloc o) hl (hA.later ((Below.refl _ _).alloc (Nat.le_refl _) o)))
 clear hA
 unfold arV at C1 ⊢
 go_enter Tryz.func102, Tryz.ntmps102
 go_wp2_with fail
 refine (C1.out _).mono ?_
 rintro e w1 ⟨⟨r, p, V, rfl, hr, ho, hc, hR, hk⟩ | ⟨rfl, hn⟩, hb1⟩
 ·have HO := hI ho
  have HB := hI (qcL hb1)
  clear ho hc hR hk hb1
  go_wp2
  go_ret
  exact ⟨true, rfl, ⟨fun _ => HO.out, fun _ => rfl⟩, HB.out⟩
 ·have HN := hI hn
  have HB := hI (qcL hb1)
  clear hn hb1
  go_wp2
  go_ret
  exact ⟨false, rfl, ⟨(fun h => by cases h), fun h => absurd h HN.out⟩, HB.out⟩
theorem qgK {l : List Sl} (h : l.length <= 24) (i : Nat) (hi : i < l.length) : (qaH l)[i]'(by rw [qaC h]; omega) = l[i] := by
 have := qdQ i hi
 rw [List.getElem?_eq_getElem (by rw [qaC h]; omega)] at this
 exact Option.some.inj this
theorem RoomAt.of {w : World} {r : Nat} {l : List Sl} {p : Option Addr} (h : RoomAt w r l.length (qaH l) p) (h2 : l.length <= 24) (i : Nat) (hi : i < l.length) : zdL w r 1 i l[i] := by
 have := h.slot i (by rw [qaC h2]; omega)
 rw [qgK h2 i hi] at this
 exact this
theorem qjZ {w : World} {r : Nat} {l : List Sl} {p : Option Addr} (h : RoomAt w r l.length (qaH l) p) {f : Int} (ho : OkA l f) (i : Nat) (hi : i < l.length) :
  Calls Tryz.prog 169 #[.pointer (some ⟨r, 0, none⟩), .int .i64 (i : Int)] w fun e w' => e = .returned (.int .i64 (24 * l[i].gen + (i : Int))) /\ w' = w := by
 have h2 := ho.most
 have hs := ho.slots i hi
 have := qrV h (qaC h2) i (by omega) (by rw [qgK h2 i hi]; exact hs.1) (by rw [qgK h2 i hi]; exact hs.2.1)
 rw [qgK h2 i hi] at this
 exact this
theorem qfT {w : World} {r : Nat} {l : List Sl} {p : Option Addr} (hR : RoomAt w r l.length (qaH l) p) {f : Int} (ho : OkA l f) (h : Int) (h1 : -9223372036854775808 <= h) (h2 : h <= 9223372036854775807) :
  Calls Tryz.prog 142 #[.pointer (some ⟨r, 0, none⟩), .int .i64 h] w fun e w' => ((∃ k : Nat, e = .returned (.tuple #[.int .i64 (k : Int), .bool true]) /\ AtA l f h k) ∨ (e = .returned (.tuple #[.int .i64 0, .bool false]) /\ ∀ k, ¬ AtA l f h k)) /\ w' = w := by
 have hn24 := ho.most
 have HO := hI ho
 have HR := hI hR
 have x0 := hR.size
 clear ho hR
 by_cases hneg : h < 0
 ·have q : decide (h < 0) = true := decide_eq_true hneg
  have HN := hI (show ∀ k, ¬ AtA l f h k from fun k hk => by have := hk.nonneg; omega)
  clear hneg
  go_enter Tryz.func142, Tryz.ntmps142
  go_wp2
  go_ret2
  exact ⟨.inr ⟨rfl, HN.out⟩, rfl⟩
 ·obtain ⟨n, rfl⟩ := Int.eq_ofNat_of_zero_le (show 0 <= h by omega)
  have q0 : decide ((n : Int) < 0) = false := by simp
  obtain ⟨k, hk⟩ : ∃ k, n % 24 = k := ⟨_, rfl⟩
  have q1 : (n : Int) % 24 = (k : Int) := by omega
  have Q1 := hI q1
  have HK := hI hk
  have k24 : (k : Int) < 24 := by omega
  clear hneg hk
  by_cases hlt : k < l.length
  ·have q2 : decide ((l.length : Int) <= (k : Int)) = false := by simp; omega
   obtain ⟨y0, y1, y2, y3, y4⟩ := HR.out.of hn24 k hlt
   have CH := hI (qjZ HR.out HO.out k hlt)
   rcases hu : l[k].used with _ | _
   ·rw [hu] at y1
    have HN := hI (show ∀ j, ¬ AtA l f (n : Int) j from fun j hj => by
     have h1 := hj.place
     have h2 := HK.out
     obtain rfl : j = k := by omega
     have := hj.used
     rw [hu] at this
     cases this)
    clear hu CH
    go_enter Tryz.func142, Tryz.ntmps142
    go_wp2
    go_ret2
    exact ⟨.inr ⟨rfl, HN.out⟩, rfl⟩
   ·rw [hu] at y1
    have hgs := HO.out.slots k hlt
    by_cases hgn : 24 * l[k].gen + (k : Int) = (n : Int)
    ·rw [hgn] at CH
     have q4 : ((n : Int) != (n : Int)) = false := by simp
     have HY := hI (show AtA l f (n : Int) k from ⟨HO.out, by omega, hlt, by have := HK.out; omega, hu, by omega⟩)
     clear hu hgn hgs
     go_enter Tryz.func142, Tryz.ntmps142
     go_wp2_with fail
     refine CH.out.mono ?_
     rintro e w1 ⟨rfl, rfl⟩
     go_wp2
     go_ret2
     exact ⟨.inl ⟨k, by first | rfl | (show Ending.returned (.tuple #[.int .i64 ((n : Int) % 24), .bool true]) = _; rw [Q1.out]), HY.out⟩, rfl⟩
    ·have q4 : (24 * l[k].gen + (k : Int) != (n : Int)) = true := by simp [hgn]
     have HN := hI (show ∀ j, ¬ AtA l f (n : Int) j from fun j hj => by
      have h1 := hj.place
      have h2 := HK.out
      obtain rfl : j = k := by omega
      have h3 := hj.gen
      exact hgn (by rw [h3]; omega))
     clear hu hgn hgs
     generalize l[k].gen = gn at *
     go_enter Tryz.func142, Tryz.ntmps142
     go_wp2_with fail
     refine CH.out.mono ?_
     rintro e w1 ⟨rfl, rfl⟩
     go_wp2
     go_ret2
     exact ⟨.inr ⟨rfl, HN.out⟩, rfl⟩
  ·have q2 : decide ((l.length : Int) <= (k : Int)) = true := by simp; omega
   have q2' : decide ((l.length : Int) <= (n : Int) % 24) = true := by rw [q1]; exact q2
   have hge : l.length <= k := by omega
   have HN := hI (show ∀ j, ¬ AtA l f (n : Int) j from fun j hj => by
    have h1 := hj.place
    have h2 := HK.out
    have h3 := hj.lt
    omega)
   clear hlt
   go_enter Tryz.func142, Tryz.ntmps142
   go_wp2
   go_ret2
   exact ⟨.inr ⟨rfl, HN.out⟩, rfl⟩
theorem qrN (ao : Option Addr) (l : List Sl) (ca : Nat) (f h : Int) (w : World) (hl : l.length <= 1048576) (h1 : -9223372036854775808 <= h) (h2 : h <= 9223372036854775807) (hA : RdA w ao l) :
  Calls Tryz.prog 79 #[arV ao l.length ca f, .int .i64 h] w fun e w' => ((∃ (k : Nat) (hk : k < l.length), e = .returned (.tuple #[.string l[k].key, .string l[k].val, .bool true]) /\ AtA l f h k) ∨ (e = .returned (.tuple #[.string ⟨#[]⟩, .string ⟨#[]⟩, .bool false]) /\ ∀ k, ¬ AtA l f h k)) /\ Below w.heap.size w w' := by
 have C1 := hI (fun o => qdU ao l ca f (w.alloc o) hl (hA.later ((Below.refl _ _).alloc (Nat.le_refl _) o)))
 clear hA
 unfold arV at C1 ⊢
 go_enter Tryz.func79, Tryz.ntmps79
 go_wp2_with fail
 refine (C1.out _).mono ?_
 rintro e w1 ⟨⟨r, p, V, rfl, hr, ho, hc, hR, hk⟩ | ⟨rfl, hn⟩, hb1⟩
 ·have HO := hI ho
  have HR := hI hR
  have HB := hI (qcL hb1)
  have CP := hI (qfT hR ho h h1 h2)
  clear ho hc hk hb1 hR hr
  go_wp2_with fail
  refine CP.out.mono ?_
  rintro e w2 ⟨⟨k, rfl, hk⟩ | ⟨rfl, hn⟩, rfl⟩
  ·have hlt := hk.lt
   have n24 := hk.ok.most
   have k24 : (k : Int) < 24 := by omega
   obtain ⟨_, _, y2, y3, _⟩ := HR.out.of n24 k hlt
   have hrl := HR.out.lt
   have HY := hI (show (∃ (j : Nat) (hj : j < l.length), Ending.returned (.tuple #[.string l[k].key, .string l[k].val, .bool true]) = .returned (.tuple #[.string l[j].key, .string l[j].val, .bool true]) /\ AtA l f h j) from ⟨k, hlt, rfl, hk⟩)
   generalize l[k].key = ky at *
   generalize l[k].val = vl at *
   have Y := hI (And.intro y2 y3)
   clear hk CP
   go_upto_region 7 with fail
   go_region_held3 (fun w' => w'.cell? ⟨r, 1 + k * 5 + 2, none⟩ = some (.string ky) /\ w'.cell? ⟨r, 1 + k * 5 + 3, none⟩ = some (.string vl)) (first | exact ⟨(HBc.cell hrl).trans Y.out.1, (HBc.cell hrl).trans Y.out.2⟩ | exact Y.out) ((go_at_call 134; refine (qkL _ _).mono ?_; rintro e wk ⟨rfl, hbk⟩; have HBc : Below w2.heap.size w2 wk := (by first | exact HBc.trans (hbk.mono HBc.size) | exact HBc.drew.trans (hbk.mono HBc.size) | exact hbk | exact (Below.refl _ _).drew.trans hbk)))
   go_wp2
   go_ret3
   exact ⟨.inl HY.out, HB.out.trans (HBc.mono HB.out.size)⟩
  ·have HN := hI hn
   clear hn CP
   go_wp2
   go_ret3
   exact ⟨.inr ⟨rfl, HN.out⟩, HB.out⟩
 ·have HN := hI (show ∀ k, ¬ AtA l f h k from fun k hk => hn hk.ok)
  have HB := hI (qcL hb1)
  clear hn hb1
  go_wp2
  go_ret3
  exact ⟨.inr ⟨rfl, HN.out⟩, HB.out⟩
theorem qjV (ao : Option Addr) (l : List Sl) (ca : Nat) (f : Int) (w : World) (hl : l.length <= 1048576) (hA : RdA w ao l) :
  Calls Tryz.prog 55 #[arV ao l.length ca f] w fun e w' => (∃ r : Nat, e = .returned (.int .i64 (r : Int)) /\ (OkA l f -> r = qeN l l.length) /\ (¬ OkA l f -> r = 0)) /\ Below w.heap.size w w' := by
 have C1 := hI (fun o => qdU ao l ca f (w.alloc o) hl (hA.later ((Below.refl _ _).alloc (Nat.le_refl _) o)))
 clear hA
 unfold arV at C1 ⊢
 go_enter Tryz.func55, Tryz.ntmps55
 go_wp2_with fail
 refine (C1.out _).mono ?_
 rintro e w1 ⟨⟨r, q, V, rfl, hr, ho, hc, hR, hk⟩ | ⟨rfl, hn⟩, hb1⟩
 ·have HO := hI ho
  have HU := hI (qvG ho hc)
  have n24 := ho.most
  have HB := hI (qcL hb1)
  have x0 := hR.size
  have x1 := hR.free (qaC n24)
  have HK := hI hk
  clear ho hc hk hb1 hR hr
  go_wp2
  go_loopg [5, 6] V.length (fun k uv fv wr => ∃ (V2 : List Nat) (p2 : Option Addr) (u : Nat), uv = .int .i64 (u : Int) /\ fv = .pointer p2 /\ u <= 24 /\ V2.length <= u /\ Hid (u = qeN l l.length + V2.length) /\ Hid (k = V2.length) /\ Hid (Lnk w1 r p2 V2) /\ wr = w1)
  case atStart => exact ⟨V, q, l.length, rfl, rfl, n24, by have := HU.out; omega, HU.out.symm, rfl, HK, rfl⟩
  case round =>
   obtain ⟨V2, p2, u, rfl, rfl, hu1, hu2, hu, hkk, hlk, rfl⟩ := hrel
   match V2, hlk, hkk, hu, hu2 with
   | [], hlk, hkk, hu, hu2 =>
    have hp : p2 = none := hlk.out
    subst hp
    go_wp2
    go_ret
    exact ⟨⟨u, rfl, fun _ => hu.out, fun h => absurd HO.out h⟩, HB.out⟩
   | k :: V2, hlk, hkk, hu, hu2 =>
    obtain ⟨b, q2, rfl, _, _, z0, z1, hq⟩ := hlk.out
    have HQ := hI hq
    have hu3 : V2.length + 1 <= u := hu2
    clear hq hlk
    go_wp2
    go_roundg V2.length
    case rel => exact ⟨V2, q2, u - 1, by go_num, rfl, by omega, by omega, by have := hu.out; rw [List.length_cons] at this; show u - 1 = _; omega, rfl, HQ, rfl⟩
    case measure => have := hkk.out; rw [List.length_cons] at this; omega
 ·have HN := hI hn
  have HB := hI (qcL hb1)
  clear hn hb1
  go_wp2
  go_ret
  exact ⟨⟨0, rfl, fun h => absurd h HN.out, fun _ => rfl⟩, HB.out⟩
theorem qvZ {l : List Sl} (k : Nat) (hk : k < l.length) (s : Sl) : (qaH l).set k s = qaH (l.set k s) := by
 rw [qaH, qaH, List.set_append_left _ _ hk, List.length_set]
theorem qgB {w w1 : World} {ao : Option Addr} {n ca : Nat} {f : Int} {t : TypeId} (hb1 : Below ((w.alloc (.cells #[.slice ao n ca, .int .i64 f] t)).alloc (.cells #[.slice none 0 0, .int .i64 0] t)).heap.size ((w.alloc (.cells #[.slice ao n ca, .int .i64 f] t)).alloc (.cells #[.slice none 0 0, .int .i64 0] t)) w1) :
  Blk w1 (w.heap.size + 1) t [.slice none 0 0, .int .i64 0] /\ Below w.heap.size w w1 /\ w.heap.size + 1 + 1 <= w1.heap.size := by
 have bl := qhJ w (.cells #[.slice ao n ca, .int .i64 f] t) (.cells #[.slice none 0 0, .int .i64 0] t)
 refine ⟨(hb1.block (w.heap.size + 1) (by simp only [World.size_alloc]; omega)).trans bl.2, (qcF w _ _).trans (hb1.mono (qcF w _ _).size), ?_⟩
 have := hb1.size
 simp only [World.size_alloc] at this
 exact this
theorem Blk.pair {w : World} {g : Nat} {t : TypeId} (h : Blk w g t [.slice none 0 0, .int .i64 0]) : w.cell? ⟨g, 0, none⟩ = some (.slice none 0 0) /\ w.cell? ⟨g, 1, none⟩ = some (.int .i64 0) /\ (∀ j, w.frozen? ⟨g, j, none⟩ = false) /\ w.heap[g]? = some (.cells #[.slice none 0 0, .int .i64 0] t (0, 0)) :=
 ⟨h.cell 0, h.cell 1, fun j => h.froz j, h⟩
theorem qtK (ao : Option Addr) (l : List Sl) (ca : Nat) (f : Int) (ky vl : ByteArray) (w : World) (hl : l.length <= 1048576) (hA : RdA w ao l) :
  Calls Tryz.prog 137 #[arV ao l.length ca f, .string ky, .string vl] w fun e w' =>
   ((∃ (k b c : Nat) (hk : k < l.length), e = .returned (.tuple #[arV (some ⟨b, 0, none⟩) l.length c l[k].next, .int .i64 (24 * l[k].gen + (k : Int)), .bool true]) /\ f = (k : Int) /\ OkA l f /\ 1 <= ky.size /\ ky.size <= 12 /\ vl.size <= 20 /\ w'.ownsRow w.heap.size 99 5 (.slice (some ⟨b, 0, none⟩) l.length c) l.length (sls (l.set k ⟨l[k].gen, true, ky, vl, 0⟩)))
    ∨ (e = .returned (.tuple #[arV none 0 0 0, .int .i64 0, .bool false]) /\ ¬ (OkA l f /\ f ≠ -1 /\ 1 <= ky.size /\ ky.size <= 12 /\ vl.size <= 20))) /\ Below w.heap.size w w' := by
 have C1 := hI (fun o1 o2 => qdU ao l ca f ((w.alloc o1).alloc o2) hl (hA.later (qcF w o1 o2)))
 clear hA
 unfold arV at C1 ⊢
 go_enter Tryz.func137, Tryz.ntmps137
 go_wp2_with fail
 refine (C1.out _ _).mono ?_
 rintro e w1 ⟨⟨r, p, V, rfl, hr, ho, hc, hR, hk⟩ | ⟨rfl, hn⟩, hb1⟩
 ·obtain ⟨BR, B1, hsz⟩ := qgB hb1
  have hr2 : w.heap.size + 2 <= r := by simp only [World.size_alloc] at hr; exact hr
  obtain ⟨y0, y1, f0, hbr⟩ := BR.pair
  have HBR := hI hbr
  have BR := hI BR
  have B1 := hI B1
  have HO := hI ho
  have HC := hI hc
  have HR := hI hR
  have HK := hI hk
  have n24 := ho.most
  have x1 := hR.free (qaC n24)
  clear hb1 hr ho hc hR hk hbr C1
  match V, HC, HK with
  | [], HC, HK =>
   have hp : p = none := HK.out
   subst hp
   have HN := hI (show ¬ (OkA l f /\ f ≠ -1 /\ 1 <= ky.size /\ ky.size <= 12 /\ vl.size <= 20) from fun h => h.2.1 HC.out.hd)
   go_wp2
   refine bodyPost_ret (qbI Tryz.results137 _ _ (w.heap.size + 1) 26 #[.slice none 0 0, .int .i64 0] (0, 0) _ rfl (qeZ HBR.out _ _) Tryz.underlying26 rfl (by kernel_rfl)) rfl ?_
   exact ⟨.inr ⟨rfl, HN.out⟩, (B1.out.setCell (p := ⟨w.heap.size + 1, 0, none⟩) (by dsimp only; omega) _).setCell (p := ⟨w.heap.size + 1, 1, none⟩) (by dsimp only; omega) _⟩
  | k :: V, HC, HK =>
   obtain ⟨b, q, rfl, hb1, hb2, z0, z1, hq⟩ := HK.out
   have CF := hI (qkQ ky vl w1)
   rcases hf : fits ky vl with _ | _
   ·have HN := hI (show ¬ (OkA l f /\ f ≠ -1 /\ 1 <= ky.size /\ ky.size <= 12 /\ vl.size <= 20) from fun h => by rw [(qkP ky vl).2 h.2.2] at hf; cases hf)
    rw [hf] at CF
    clear hf hq
    go_wp2_with fail
    refine CF.out.mono ?_
    rintro e w2 ⟨rfl, rfl⟩
    go_wp2
    refine bodyPost_ret (qbI Tryz.results137 _ _ (w.heap.size + 1) 26 #[.slice none 0 0, .int .i64 0] (0, 0) _ rfl (qeZ HBR.out _ _) Tryz.underlying26 rfl (by kernel_rfl)) rfl ?_
    exact ⟨.inr ⟨rfl, HN.out⟩, (B1.out.setCell (p := ⟨w.heap.size + 1, 0, none⟩) (by dsimp only; omega) _).setCell (p := ⟨w.heap.size + 1, 1, none⟩) (by dsimp only; omega) _⟩
   ·have hfit := (qkP ky vl).1 hf
    obtain ⟨hfk, hkl, hcn⟩ := HC.out
    have hkV : k ∉ V := (List.nodup_cons.1 HC.out.nodup).1
    have hko := HO.out
    rw [hfk] at hko
    have hlay := hko.lay hkl ky vl hfit.1 hfit.2.1 hfit.2.2
    have hcs : Chain (l.set k ⟨l[k].gen, true, ky, vl, 0⟩) l[k].next V := hcn.set k _ hkV
    have HFK := hI hfk
    have HFIT := hI hfit
    have k24 : (k : Int) < 24 := by omega
    have HQ := hI hq
    have hnx : Hid (l[k].next = hdI V) := hcn.hd
    have fr1 : ∀ j, w1.frozen? ⟨r, j, none⟩ = false := fun j => Blk.froz HR.out j
    have V24 : Hid (∀ j ∈ V, j < 24) := fun j hj => Nat.lt_of_lt_of_le (hcn.lt j hj) n24
    rw [hf] at CF
    clear hf hq hfk hfit hko hcn
    have R2 : Hid (RoomAt (w1.setCell ⟨r, 121, none⟩ (.pointer q)) r l.length (qaH l) q /\ Lnk (w1.setCell ⟨r, 121, none⟩ (.pointer q)) r q V /\ Blk (w1.setCell ⟨r, 121, none⟩ (.pointer q)) (w.heap.size + 1) 26 [.slice none 0 0, .int .i64 0] /\ Below w.heap.size w (w1.setCell ⟨r, 121, none⟩ (.pointer q)) /\ (w1.setCell ⟨r, 121, none⟩ (.pointer q)).heap.size = w1.heap.size) :=
     ⟨HR.out.setFree (qaC n24) q, HQ.out.set 121 _, Blk.far BR.out _ _ (by dsimp only; omega), B1.out.setCell (p := ⟨r, 121, none⟩) (by dsimp only; omega) _, by simp [World.setCell]⟩
    go_wp2_with fail
    refine CF.out.mono ?_
    rintro e w2 ⟨rfl, rfl⟩
    go_upto_region 6 with fail
    generalize (w2.setCell ⟨r, 121, none⟩ (.pointer q)) = wb at R2 ⊢
    obtain ⟨rb, lb, bb, eb, sb⟩ := R2.out
    obtain ⟨v0, v1, v2, v3, v4⟩ := rb.of n24 k hkl
    have fr2 : ∀ j, wb.frozen? ⟨r, j, none⟩ = false := fun j => Blk.froz rb j
    obtain ⟨w3, hw3⟩ : ∃ w3, w3 = ((((wb.setCell ⟨r, 1 + k * 5, none⟩ (.int .i64 l[k].gen)).setCell ⟨r, 1 + k * 5 + 1, none⟩ (.bool true)).setCell ⟨r, 1 + k * 5 + 2, none⟩ (.string ky)).setCell ⟨r, 1 + k * 5 + 3, none⟩ (.string vl)).setCell ⟨r, 1 + k * 5 + 4, none⟩ (.int .i64 0) := ⟨_, rfl⟩
    have R3 : Hid (RoomAt w3 r l.length (qaH (l.set k ⟨l[k].gen, true, ky, vl, 0⟩)) q) := by
     show RoomAt w3 r l.length (qaH (l.set k ⟨l[k].gen, true, ky, vl, 0⟩)) q
     rw [<- qvZ k hkl, hw3]
     exact rb.setSlot k (by rw [qaC n24]; omega) ⟨l[k].gen, true, ky, vl, 0⟩
    have L3 : Hid (Lnk w3 r q V) := by
     show Lnk w3 r q V
     rw [hw3]
     exact ((((lb.set (1 + k * 5) (.int .i64 l[k].gen)).set (1 + k * 5 + 1) (.bool true)).set (1 + k * 5 + 2) (.string ky)).set (1 + k * 5 + 3) (.string vl)).set (1 + k * 5 + 4) (.int .i64 0)
    have E3 : Hid (Below w.heap.size w w3) := by
     show Below w.heap.size w w3
     rw [hw3]
     exact ((((eb.setCell (p := ⟨r, 1 + k * 5, none⟩) (by dsimp only; omega) (.int .i64 l[k].gen)).setCell (p := ⟨r, 1 + k * 5 + 1, none⟩) (by dsimp only; omega) (.bool true)).setCell (p := ⟨r, 1 + k * 5 + 2, none⟩) (by dsimp only; omega) (.string ky)).setCell (p := ⟨r, 1 + k * 5 + 3, none⟩) (by dsimp only; omega) (.string vl)).setCell (p := ⟨r, 1 + k * 5 + 4, none⟩) (by dsimp only; omega) (.int .i64 0)
    have K3 : Hid (Blk w3 (w.heap.size + 1) 26 [.slice none 0 0, .int .i64 0]) := by
     show Blk w3 (w.heap.size + 1) 26 [.slice none 0 0, .int .i64 0]
     rw [hw3]
     exact Blk.far (Blk.far (Blk.far (Blk.far (Blk.far bb ⟨r, 1 + k * 5, none⟩ (.int .i64 l[k].gen) (by dsimp only; omega)) ⟨r, 1 + k * 5 + 1, none⟩ (.bool true) (by dsimp only; omega)) ⟨r, 1 + k * 5 + 2, none⟩ (.string ky) (by dsimp only; omega)) ⟨r, 1 + k * 5 + 3, none⟩ (.string vl) (by dsimp only; omega)) ⟨r, 1 + k * 5 + 4, none⟩ (.int .i64 0) (by dsimp only; omega)
    have HW3 := hI hw3
    clear hw3
    obtain ⟨M, hM⟩ : ∃ M, M = l.set k ⟨l[k].gen, true, ky, vl, 0⟩ := ⟨_, rfl⟩
    rw [<- hM] at R3 hlay hcs
    have hMl : M.length = l.length := by rw [hM, List.length_set]
    have hMk : Hid (∃ h : k < M.length, M[k].gen = l[k].gen) := ⟨by omega, by simp [hM]⟩
    have hMw := hI (qtU hlay hcs (qaC hlay.most) (fun i hi => ⟨M[i], qdQ i hi, rfl, fun _ => ⟨rfl, rfl⟩⟩))
    have HM := hI hM
    have HML := hI hMl
    have HLAY := hI hlay
    have n24' : M.length <= 24 := by omega
    have m1 : Hid (1 <= M.length) := hlay.least
    rw [<- hMl] at R3
    clear hM hMl hlay hcs rb lb bb eb R2 HQ HR BR HBR y0 y1 f0 x1 z0 z1 fr1
    generalize hgn : l[k].gen = gn at *
    go_upto_region 8 with fail
    rw [<- HW3.out]
    clear HW3 v0 v1 v2 v3 v4 fr2
    have CA := hI (qmH (w := w3) (M := M) (L := qaH M) R3.out (qaC n24') m1.out n24' L3.out V24.out hMw.out)
    have CH := hI (fun w4 (hb4 : Below w3.heap.size w3 w4) => qjZ (R3.out.below hb4 R3.out.lt) HLAY.out k hMk.out.1)
    rw [HML.out] at CA
    rw [hMk.out.2] at CH
    unfold arV at CA
    have hgn' := hI hgn
    clear hgn
    have K3s : Hid (w.heap.size + 1 < w3.heap.size) := K3.out.lt
    go_wp2_with fail
    refine CA.out.mono ?_
    rintro e w4 ⟨b', c, rfl, hown, hb4⟩
    have OW := hI hown
    have B4 := hI hb4
    have K4 := hI (K3.out.below hb4 K3.out.lt)
    obtain ⟨t0, t1, ft, hbr⟩ := K4.out.pair
    have HBR := hI hbr
    clear hown hb4 hbr CA
    go_wp2_with fail
    refine (CH.out w4 B4.out).mono ?_
    rintro e w5 ⟨rfl, rfl⟩
    go_wp2
    refine bodyPost_ret (qbI Tryz.results137 _ _ (w.heap.size + 1) 26 #[.slice (some ⟨b', 0, none⟩) l.length c, .int .i64 (hdI V)] (0, 0) _ rfl (qeZ HBR.out _ _) Tryz.underlying26 rfl (by kernel_rfl)) rfl ?_
    have hlow : ∀ j, (Value.slice (some ⟨b', 0, none⟩) l.length c).ownBlock = some j -> j ≠ w.heap.size + 1 := by
     intro j hj
     have := (OW.out.lt j hj).1
     have := K3s.out
     omega
    refine ⟨.inl ⟨k, b', c, hkl, ?_, HFK.out, HO.out, HFIT.out.1, HFIT.out.2.1, HFIT.out.2.2, ?_⟩, ?_⟩
    ·rw [hgn'.out, hnx.out]; rfl
    ·rw [hgn'.out, <- HM.out]
     exact qaB (qaA (qaA OW.out _ _ hlow) _ _ hlow) (by have := E3.out.size; omega)
    ·exact ((E3.out.trans (B4.out.mono E3.out.size)).setCell (p := ⟨w.heap.size + 1, 0, none⟩) (by dsimp only; omega) _).setCell (p := ⟨w.heap.size + 1, 1, none⟩) (by dsimp only; omega) _
 ·obtain ⟨BR, B1, hsz⟩ := qgB hb1
  obtain ⟨y0, y1, f0, hbr⟩ := BR.pair
  have HBR := hI hbr
  have B1 := hI B1
  have HN := hI (show ¬ (OkA l f /\ f ≠ -1 /\ 1 <= ky.size /\ ky.size <= 12 /\ vl.size <= 20) from fun h => hn h.1)
  clear hn hb1 hbr BR C1
  go_wp2
  refine bodyPost_ret (qbI Tryz.results137 _ _ (w.heap.size + 1) 26 #[.slice none 0 0, .int .i64 0] (0, 0) _ rfl (qeZ HBR.out _ _) Tryz.underlying26 rfl (by kernel_rfl)) rfl ?_
  exact ⟨.inr ⟨rfl, HN.out⟩, (B1.out.setCell (p := ⟨w.heap.size + 1, 0, none⟩) (by dsimp only; omega) _).setCell (p := ⟨w.heap.size + 1, 1, none⟩) (by dsimp only; omega) _⟩
theorem qrZ (g : Int) (h1 : 0 <= g) (h2 : g <= 41666665) (w : World) : Calls Tryz.prog 173 #[.int .i64 g] w fun e w' => e = .returned (.int .i64 (qbM g)) /\ w' = w := by
 by_cases c : 41666665 <= g
 ·have q : decide (41666665 <= g) = true := decide_eq_true c
  have HU := hI (show qbM g = 0 by rw [qbM, if_pos (by omega)])
  go_enter Tryz.func173, Tryz.ntmps173
  go_wp2
  go_ret
  exact ⟨by rw [HU.out]; rfl, rfl⟩
 ·have q : decide (41666665 <= g) = false := decide_eq_false c
  have HU := hI (show qbM g = g + 1 by rw [qbM, if_neg (by omega)])
  go_enter Tryz.func173, Tryz.ntmps173
  go_wp2
  go_ret
  exact ⟨by rw [HU.out]; rfl, rfl⟩
theorem qrP (ao : Option Addr) (l : List Sl) (ca : Nat) (f h : Int) (w : World) (hl : l.length <= 1048576) (h1 : -9223372036854775808 <= h) (h2 : h <= 9223372036854775807) (hA : RdA w ao l) :
  Calls Tryz.prog 143 #[arV ao l.length ca f, .int .i64 h] w fun e w' =>
   ((∃ (k b c : Nat) (hk : k < l.length), e = .returned (.tuple #[arV (some ⟨b, 0, none⟩) l.length c (k : Int), .bool true]) /\ AtA l f h k /\ w'.ownsRow w.heap.size 99 5 (.slice (some ⟨b, 0, none⟩) l.length c) l.length (sls (l.set k (qaS l[k] f))))
    ∨ (e = .returned (.tuple #[arV none 0 0 0, .bool false]) /\ ∀ k, ¬ AtA l f h k)) /\ Below w.heap.size w w' := by
 have C1 := hI (fun o1 o2 => qdU ao l ca f ((w.alloc o1).alloc o2) hl (hA.later (qcF w o1 o2)))
 clear hA
 unfold arV at C1 ⊢
 go_enter Tryz.func143, Tryz.ntmps143
 go_wp2_with fail
 refine (C1.out _ _).mono ?_
 rintro e w1 ⟨⟨r, p, V, rfl, hr, ho, hc, hR, hk⟩ | ⟨rfl, hn⟩, hb1⟩
 ·obtain ⟨BR, B1, hsz⟩ := qgB hb1
  have hr2 : w.heap.size + 2 <= r := by simp only [World.size_alloc] at hr; exact hr
  obtain ⟨y0, y1, f0, hbr⟩ := BR.pair
  have HBR := hI hbr
  have BR := hI BR
  have B1 := hI B1
  have HO := hI ho
  have HC := hI hc
  have HR := hI hR
  have HK := hI hk
  have n24 := ho.most
  have CP := hI (qfT hR ho h h1 h2)
  clear hb1 hr ho hc hR hk hbr C1
  go_wp2_with fail
  refine CP.out.mono ?_
  rintro e w2 ⟨⟨k, rfl, hk⟩ | ⟨rfl, hn⟩, rfl⟩
  ·have hlt := hk.lt
   have k24 : (k : Int) < 24 := by omega
   have HAT := hI hk
   obtain ⟨v0, v1, v2, v3, v4⟩ := HR.out.of n24 k hlt
   have hgs := HO.out.slots k hlt
   have CG := hI (qrZ l[k].gen hgs.1 hgs.2.1 w2)
   have hkV : Hid (k ∉ V) := fun hm => by
    have := (HO.out.met HC.out k hlt).2 hm
    rw [hk.used] at this
    cases this
   have hlift := HO.out.lift hlt hk.used
   have hMc : Chain (l.set k (qaS l[k] f)) (k : Int) (k :: V) := ⟨rfl, by rw [List.length_set]; exact hlt, by rw [List.getElem_set_self]; exact HC.out.set k _ hkV.out⟩
   obtain ⟨M, hM⟩ : ∃ M, M = l.set k (qaS l[k] f) := ⟨_, rfl⟩
   rw [<- hM] at hlift hMc
   have hMl : M.length = l.length := by rw [hM, List.length_set]
   have fr1 : ∀ j, w2.frozen? ⟨r, j, none⟩ = false := fun j => Blk.froz HR.out j
   obtain ⟨w3, hw3⟩ : ∃ w3, w3 = ((((w2.setCell ⟨r, 1 + k * 5, none⟩ (.int .i64 (qbM l[k].gen))).setCell ⟨r, 1 + k * 5 + 1, none⟩ (.bool false)).setCell ⟨r, 1 + k * 5 + 2, none⟩ (.string ⟨#[]⟩)).setCell ⟨r, 1 + k * 5 + 3, none⟩ (.string ⟨#[]⟩)).setCell ⟨r, 1 + k * 5 + 4, none⟩ (.int .i64 0) := ⟨_, rfl⟩
   have R3 : Hid (RoomAt w3 r l.length ((qaH l).set k ⟨qbM l[k].gen, false, ⟨#[]⟩, ⟨#[]⟩, 0⟩) p) := by
    show RoomAt w3 r l.length ((qaH l).set k ⟨qbM l[k].gen, false, ⟨#[]⟩, ⟨#[]⟩, 0⟩) p
    rw [hw3]
    exact HR.out.setSlot k (by rw [qaC n24]; omega) ⟨qbM l[k].gen, false, ⟨#[]⟩, ⟨#[]⟩, 0⟩
   have L3 : Hid (Lnk w3 r p V) := by
    show Lnk w3 r p V
    rw [hw3]
    exact ((((HK.out.set (1 + k * 5) (.int .i64 (qbM l[k].gen))).set (1 + k * 5 + 1) (.bool false)).set (1 + k * 5 + 2) (.string ⟨#[]⟩)).set (1 + k * 5 + 3) (.string ⟨#[]⟩)).set (1 + k * 5 + 4) (.int .i64 0)
   have E3 : Hid (Below w.heap.size w w3) := by
    show Below w.heap.size w w3
    rw [hw3]
    exact ((((B1.out.setCell (p := ⟨r, 1 + k * 5, none⟩) (by dsimp only; omega) (.int .i64 (qbM l[k].gen))).setCell (p := ⟨r, 1 + k * 5 + 1, none⟩) (by dsimp only; omega) (.bool false)).setCell (p := ⟨r, 1 + k * 5 + 2, none⟩) (by dsimp only; omega) (.string ⟨#[]⟩)).setCell (p := ⟨r, 1 + k * 5 + 3, none⟩) (by dsimp only; omega) (.string ⟨#[]⟩)).setCell (p := ⟨r, 1 + k * 5 + 4, none⟩) (by dsimp only; omega) (.int .i64 0)
   have K3 : Hid (Blk w3 (w.heap.size + 1) 26 [.slice none 0 0, .int .i64 0]) := by
    show Blk w3 (w.heap.size + 1) 26 [.slice none 0 0, .int .i64 0]
    rw [hw3]
    exact Blk.far (Blk.far (Blk.far (Blk.far (Blk.far BR.out ⟨r, 1 + k * 5, none⟩ (.int .i64 (qbM l[k].gen)) (by dsimp only; omega)) ⟨r, 1 + k * 5 + 1, none⟩ (.bool false) (by dsimp only; omega)) ⟨r, 1 + k * 5 + 2, none⟩ (.string ⟨#[]⟩) (by dsimp only; omega)) ⟨r, 1 + k * 5 + 3, none⟩ (.string ⟨#[]⟩) (by dsimp only; omega)) ⟨r, 1 + k * 5 + 4, none⟩ (.int .i64 0) (by dsimp only; omega)
   have hL24 : Hid (((qaH l).set k ⟨qbM l[k].gen, false, ⟨#[]⟩, ⟨#[]⟩, 0⟩).length = 24) := by show _ = _; rw [List.length_set, qaC n24]
   have hMw := hI (qtU (L := (qaH l).set k ⟨qbM l[k].gen, false, ⟨#[]⟩, ⟨#[]⟩, 0⟩) hlift hMc hL24.out (fun i hi => by
    by_cases e : k = i
    ·subst e
     exact ⟨_, List.getElem?_set_self (by rw [qaC n24]; omega), by simp [hM, qaS], fun hno => absurd (by simp) hno⟩
    ·have hil : i < l.length := by omega
     refine ⟨l[i], by rw [List.getElem?_set_ne e]; exact qdQ i hil, ?_⟩
     have : M[i] = l[i] := by simp only [hM]; rw [List.getElem_set_ne e]
     rw [this]
     exact ⟨rfl, fun _ => ⟨rfl, rfl⟩⟩))
   rw [<- hMl] at R3
   have V24 : Hid (∀ j ∈ k :: V, j < 24) := fun j hj => by have := hMc.lt j hj; omega
   have HM := hI hM
   have HML := hI hMl
   have HW3 := hI hw3
   have n24' : M.length <= 24 := by omega
   have m1 : Hid (1 <= M.length) := hlift.least
   have x3 := R3.out.free hL24.out
   have fr3 : ∀ j, w3.frozen? ⟨r, j, none⟩ = false := fun j => Blk.froz R3.out j
   have s3 : Hid (r < w3.heap.size) := R3.out.lt
   clear hk CP hw3 hM hMl hMc hlift hgs y0 y1 f0
   go_wp2_with fail
   refine CG.out.mono ?_
   rintro e w4 ⟨rfl, rfl⟩
   go_upto_region 9 with fail
   rw [<- HW3.out]
   clear HW3 v0 v1 v2 v3 v4 fr1 CG HR HK BR HBR B1
   generalize (qaH l).set k ⟨qbM l[k].gen, false, ⟨#[]⟩, ⟨#[]⟩, 0⟩ = L at *
   obtain ⟨w5, hw5⟩ : ∃ w5, w5 = (w3.alloc (.cells #[.int .i64 (k : Int), .pointer p] 157)).setCell ⟨r, 121, none⟩ (.pointer (some ⟨w3.heap.size, 0, none⟩)) := ⟨_, rfl⟩
   have RA : RoomAt (w3.alloc (.cells #[.int .i64 (k : Int), .pointer p] 157)) r M.length L p := Blk.more R3.out _
   have R5 : Hid (RoomAt w5 r M.length L (some ⟨w3.heap.size, 0, none⟩)) := by
    show RoomAt w5 r M.length L (some ⟨w3.heap.size, 0, none⟩)
    rw [hw5]
    exact RA.setFree hL24.out _
   have L5 : Hid (Lnk w5 r (some ⟨w3.heap.size, 0, none⟩) (k :: V)) := by
    show Lnk w5 r (some ⟨w3.heap.size, 0, none⟩) (k :: V)
    rw [hw5]
    refine Lnk.set ?_ 121 _
    refine ⟨w3.heap.size, p, rfl, s3.out, by rw [World.size_alloc]; omega, World.cell?_alloc_at _ _ _ _ rfl, World.cell?_alloc_at _ _ _ _ rfl, L3.out.below (bAl _ _)⟩
   have E5 : Hid (Below w.heap.size w w5) := by
    show Below w.heap.size w w5
    rw [hw5]
    exact (E3.out.alloc (by have := E3.out.size; omega) _).setCell (p := ⟨r, 121, none⟩) (by dsimp only; omega) _
   have K5 : Hid (Blk w5 (w.heap.size + 1) 26 [.slice none 0 0, .int .i64 0]) := by
    show Blk w5 (w.heap.size + 1) 26 [.slice none 0 0, .int .i64 0]
    rw [hw5]
    exact Blk.far (Blk.more K3.out _) _ _ (by dsimp only; omega)
   have c1 : (w3.alloc (.cells #[.int .i64 (k : Int), .pointer p] 157)).cell? ⟨r, 121, none⟩ = some (.pointer p) := RA.free hL24.out
   have c2 : ∀ j, (w3.alloc (.cells #[.int .i64 (k : Int), .pointer p] 157)).frozen? ⟨r, j, none⟩ = false := fun j => Blk.froz RA j
   have HW5 := hI hw5
   clear hw5 RA
   go_upto_region 10 with fail
   rw [<- HW5.out]
   clear HW5 c1 c2 x3 fr3
   have CA := hI (qmH (w := w5) (M := M) (L := L) R5.out hL24.out m1.out n24' L5.out V24.out hMw.out)
   rw [HML.out] at CA
   unfold arV at CA
   have K5s : Hid (w.heap.size + 1 < w5.heap.size) := K5.out.lt
   go_wp2_with fail
   refine CA.out.mono ?_
   rintro e w6 ⟨b', c, rfl, hown, hb6⟩
   have OW := hI hown
   have B6 := hI hb6
   have K6 := hI (K5.out.below hb6 K5.out.lt)
   obtain ⟨t0, t1, ft, hbr⟩ := K6.out.pair
   have HBR := hI hbr
   clear hown hb6 hbr CA
   go_wp2
   refine bodyPost_ret (qaW Tryz.results143 _ _ (w.heap.size + 1) 26 #[.slice (some ⟨b', 0, none⟩) l.length c, .int .i64 (hdI (k :: V))] (0, 0) _ rfl (qeZ HBR.out _ _) Tryz.underlying26 rfl (by kernel_rfl)) rfl ?_
   have hlow : ∀ j, (Value.slice (some ⟨b', 0, none⟩) l.length c).ownBlock = some j -> j ≠ w.heap.size + 1 := by
    intro j hj
    have := (OW.out.lt j hj).1
    have := K5s.out
    omega
   refine ⟨.inl ⟨k, b', c, hlt, rfl, HAT.out, ?_⟩, ?_⟩
   ·rw [<- HM.out]
    exact qaB (qaA (qaA OW.out _ _ hlow) _ _ hlow) (by have := E5.out.size; omega)
   ·exact ((E5.out.trans (B6.out.mono E5.out.size)).setCell (p := ⟨w.heap.size + 1, 0, none⟩) (by dsimp only; omega) _).setCell (p := ⟨w.heap.size + 1, 1, none⟩) (by dsimp only; omega) _
  ·have HN := hI hn
   clear hn CP
   go_wp2
   refine bodyPost_ret (qaW Tryz.results143 _ _ (w.heap.size + 1) 26 #[.slice none 0 0, .int .i64 0] (0, 0) _ rfl (qeZ HBR.out _ _) Tryz.underlying26 rfl (by kernel_rfl)) rfl ?_
   exact ⟨.inr ⟨rfl, HN.out⟩, (B1.out.setCell (p := ⟨w.heap.size + 1, 0, none⟩) (by dsimp only; omega) _).setCell (p := ⟨w.heap.size + 1, 1, none⟩) (by dsimp only; omega) _⟩
 ·obtain ⟨BR, B1, hsz⟩ := qgB hb1
  obtain ⟨y0, y1, f0, hbr⟩ := BR.pair
  have HBR := hI hbr
  have B1 := hI B1
  have HN := hI (show ∀ k, ¬ AtA l f h k from fun k hk => hn hk.ok)
  clear hn hb1 hbr BR C1
  go_wp2
  refine bodyPost_ret (qaW Tryz.results143 _ _ (w.heap.size + 1) 26 #[.slice none 0 0, .int .i64 0] (0, 0) _ rfl (qeZ HBR.out _ _) Tryz.underlying26 rfl (by kernel_rfl)) rfl ?_
  exact ⟨.inr ⟨rfl, HN.out⟩, (B1.out.setCell (p := ⟨w.heap.size + 1, 0, none⟩) (by dsimp only; omega) _).setCell (p := ⟨w.heap.size + 1, 1, none⟩) (by dsimp only; omega) _⟩
theorem qvR (j m : Nat) (h : j < m) : List.range' j (m - j) = j :: List.range' (j + 1) (m - (j + 1)) := by
 rw [show m - j = (m - (j + 1)) + 1 by omega, List.range'_succ]
theorem qrK (n : Int) (w : World) :
  Calls Tryz.prog 58 #[.int .i64 n] w fun e w' =>
   ((∃ (m b c : Nat), n = (m : Int) /\ 1 <= m /\ m <= 24 /\ e = .returned (.tuple #[arV (some ⟨b, 0, none⟩) m c 0, .bool true]) /\ w'.ownsRow w.heap.size 99 5 (.slice (some ⟨b, 0, none⟩) m c) m (sls (qiO m m)))
    ∨ (e = .returned (.tuple #[arV none 0 0 0, .bool false]) /\ ¬ (1 <= n /\ n <= 24))) /\ Below w.heap.size w w' := by
 unfold arV
 have hN : (w.alloc (.cells #[.slice none 0 0, .int .i64 0] 26)).heap[w.heap.size]? = some (.cells #[.slice none 0 0, .int .i64 0] 26 (0, 0)) := heap_alloc_last _ _
 have HN := hI hN
 clear hN
 by_cases c1 : n < 1
 ·have q1 : decide (n < 1) = true := decide_eq_true c1
  have HNN := hI (show ¬ (1 <= n /\ n <= 24) by omega)
  clear c1
  go_enter Tryz.func58, Tryz.ntmps58
  go_wp2
  refine bodyPost_ret (qaW Tryz.results58 _ _ w.heap.size 26 #[.slice none 0 0, .int .i64 0] (0, 0) _ rfl (by first | exact HN.out | exact qeZ HN.out _ _) Tryz.underlying26 rfl (by kernel_rfl)) rfl ?_
  exact ⟨.inr ⟨rfl, HNN.out⟩, by go_grown⟩
 ·have q1 : decide (n < 1) = false := decide_eq_false c1
  by_cases c2 : 24 < n
  ·have q2 : decide (24 < n) = true := decide_eq_true c2
   have HNN := hI (show ¬ (1 <= n /\ n <= 24) by omega)
   clear c1 c2
   go_enter Tryz.func58, Tryz.ntmps58
   go_wp2
   refine bodyPost_ret (qaW Tryz.results58 _ _ w.heap.size 26 #[.slice none 0 0, .int .i64 0] (0, 0) _ rfl (by first | exact HN.out | exact qeZ HN.out _ _) Tryz.underlying26 rfl (by kernel_rfl)) rfl ?_
   exact ⟨.inr ⟨rfl, HNN.out⟩, by go_grown⟩
  ·have q2 : decide (24 < n) = false := decide_eq_false c2
   obtain ⟨m, rfl⟩ := Int.eq_ofNat_of_zero_le (show 0 <= n by omega)
   have m1 : 1 <= m := by omega
   have m2 : m <= 24 := by omega
   obtain ⟨hz, _⟩ := zero_of_info Tryz.infoRoom
   obtain ⟨Z, hZ⟩ : ∃ Z, Z = (qcU 0 (List.replicate 24 zS) none).toArray := ⟨_, rfl⟩
   rw [<- hZ] at hz
   have hne : ¬ Z = #[] := by rw [hZ]; intro e; have := congrArg Array.size e; simp [qcU] at this
   have F0 : Hid (RoomAt ((w.alloc (.cells #[.slice none 0 0, .int .i64 0] 26)).alloc (.cells (Z.setIfInBounds 0 (.int .i64 (m : Int))) 155)) (w.heap.size + 1) m (List.replicate 24 zS) none /\ Blk ((w.alloc (.cells #[.slice none 0 0, .int .i64 0] 26)).alloc (.cells (Z.setIfInBounds 0 (.int .i64 (m : Int))) 155)) w.heap.size 26 [.slice none 0 0, .int .i64 0] /\ Below w.heap.size w ((w.alloc (.cells #[.slice none 0 0, .int .i64 0] 26)).alloc (.cells (Z.setIfInBounds 0 (.int .i64 (m : Int))) 155))) := by
    refine ⟨?_, Blk.more (Blk.new w _ _) _, qcF w _ _⟩
    have := Blk.new (w.alloc (.cells #[.slice none 0 0, .int .i64 0] 26)) 155 (Z.setIfInBounds 0 (.int .i64 (m : Int)))
    have e : (Z.setIfInBounds 0 (.int .i64 (m : Int))).toList = qcU m (List.replicate 24 zS) none := by rw [hZ, Array.toList_setIfInBounds, List.toList_toArray, qcU, List.set_cons_zero]; rfl
    rw [World.size_alloc, e] at this
    exact this
   clear hZ c1 c2 HN
   go_enter Tryz.func58, Tryz.ntmps58
   go_upto_region 4 with fail
   generalize ((w.alloc (.cells #[.slice none 0 0, .int .i64 0] 26)).alloc (.cells (Z.setIfInBounds 0 (.int .i64 (m : Int))) 155)) = wn at F0 ⊢
   clear hz hne
   go_wp2
   go_loopw [5] (fun jv wr => ∃ (j : Nat) (p : Option Addr), j <= m /\ jv = .int .i64 ((j : Int) - 1) /\ Hid (RoomAt wr (w.heap.size + 1) m (List.replicate 24 zS) p) /\ Hid (Lnk wr (w.heap.size + 1) p (List.range' j (m - j))) /\ Hid (Blk wr w.heap.size 26 [.slice none 0 0, .int .i64 0]) /\ Hid (Below w.heap.size w wr)) (fun jv _ => (intOf jv + 1).toNat)
   case atStart => exact ⟨m, none, Nat.le_refl _, rfl, F0.out.1, by rw [Nat.sub_self]; rfl, F0.out.2.1, F0.out.2.2⟩
   case round =>
    obtain ⟨j, p, hj, rfl, hR, hk, hN, hbel⟩ := hrel
    match j, hj, hk with
    | 0, hj, hk =>
     have q : decide (0 <= ((0 : Nat) : Int) - 1) = false := by decide
     have hw := hI (qtU (L := List.replicate 24 zS) (OkA.new m m1 m2) (qmA m m 0 (by omega) (by omega)) (by simp) (fun i hi => ⟨zS, by rw [qaG] at hi; rw [List.getElem?_replicate, if_pos (by omega)], by rw [qhE]; rfl, fun hno => absurd (by rw [qaG] at hi; simp [List.mem_range'_1]; omega) hno⟩))
     have CA := hI (qmH (M := qiO m m) (L := List.replicate 24 zS) (V := List.range' 0 m) (p := p) (by rw [qaG]; exact hR.out) (by simp) (by rw [qaG]; exact m1) (by rw [qaG]; exact m2) hk.out (fun i hi => by rw [List.mem_range'_1] at hi; omega) hw.out)
     rw [qaG] at CA
     unfold arV at CA
     have hd : Hid (hdI (List.range' 0 m) = 0) := by show _ = _; rw [show m = (m - 1) + 1 by omega, List.range'_succ]; rfl
     have hsz : Hid (w.heap.size + 1 < wr.heap.size) := hR.out.lt
     clear hR hk hw F0
     go_wp2_with fail
     refine CA.out.mono ?_
     rintro e w6 ⟨b', c, rfl, hown, hb6⟩
     have OW := hI hown
     have B6 := hI hb6
     have K6 := hI (hN.out.below hb6 hN.out.lt)
     obtain ⟨t0, t1, ft, hbr⟩ := K6.out.pair
     have HBR := hI hbr
     rw [hd.out]
     clear hown hb6 hbr CA
     go_wp2
     refine bodyPost_ret (qaW Tryz.results58 _ _ w.heap.size 26 #[.slice (some ⟨b', 0, none⟩) m c, .int .i64 0] (0, 0) _ rfl (qeZ HBR.out _ _) Tryz.underlying26 rfl (by kernel_rfl)) rfl ?_
     have hlow : ∀ j, (Value.slice (some ⟨b', 0, none⟩) m c).ownBlock = some j -> j ≠ w.heap.size := by
      intro j hj
      have := (OW.out.lt j hj).1
      have := hsz.out
      omega
     refine ⟨.inl ⟨m, b', c, rfl, m1, m2, rfl, qaB (qaA (qaA OW.out _ _ hlow) _ _ hlow) (by have := hsz.out; omega)⟩, ?_⟩
     exact ((hbel.out.trans (B6.out.mono hbel.out.size)).setCell (p := ⟨w.heap.size, 0, none⟩) (Nat.le_refl _) _).setCell (p := ⟨w.heap.size, 1, none⟩) (Nat.le_refl _) _
    | j + 1, hj, hk =>
     have q : decide (0 <= ((j + 1 : Nat) : Int) - 1) = true := decide_eq_true (by omega)
     have q' : ((j + 1 : Nat) : Int) - 1 = (j : Int) := by omega
     rw [q'] at q ⊢
     have x1 := hR.out.free (by simp)
     have hrl := hR.out.lt
     have RA : RoomAt (wr.alloc (.cells #[.int .i64 (j : Int), .pointer p] 157)) (w.heap.size + 1) m (List.replicate 24 zS) p := Blk.more hR.out _
     have c1 : (wr.alloc (.cells #[.int .i64 (j : Int), .pointer p] 157)).cell? ⟨w.heap.size + 1, 121, none⟩ = some (.pointer p) := RA.free (by simp)
     have c2 : ∀ i, (wr.alloc (.cells #[.int .i64 (j : Int), .pointer p] 157)).frozen? ⟨w.heap.size + 1, i, none⟩ = false := fun i => Blk.froz RA i
     have R5 : Hid (RoomAt ((wr.alloc (.cells #[.int .i64 (j : Int), .pointer p] 157)).setCell ⟨w.heap.size + 1, 121, none⟩ (.pointer (some ⟨wr.heap.size, 0, none⟩))) (w.heap.size + 1) m (List.replicate 24 zS) (some ⟨wr.heap.size, 0, none⟩)) := RA.setFree (by simp) _
     have L5 : Hid (Lnk ((wr.alloc (.cells #[.int .i64 (j : Int), .pointer p] 157)).setCell ⟨w.heap.size + 1, 121, none⟩ (.pointer (some ⟨wr.heap.size, 0, none⟩))) (w.heap.size + 1) (some ⟨wr.heap.size, 0, none⟩) (List.range' j (m - j))) := by
      show Lnk _ _ _ _
      rw [qvR j m (by omega)]
      refine Lnk.set ?_ 121 _
      exact ⟨wr.heap.size, p, rfl, hrl, by rw [World.size_alloc]; omega, World.cell?_alloc_at _ _ _ _ rfl, World.cell?_alloc_at _ _ _ _ rfl, hk.out.below (bAl _ _)⟩
     have E5 : Hid (Below w.heap.size w ((wr.alloc (.cells #[.int .i64 (j : Int), .pointer p] 157)).setCell ⟨w.heap.size + 1, 121, none⟩ (.pointer (some ⟨wr.heap.size, 0, none⟩)))) := (hbel.out.alloc (by omega) _).setCell (p := ⟨w.heap.size + 1, 121, none⟩) (by dsimp only; omega) _
     have K5 : Hid (Blk ((wr.alloc (.cells #[.int .i64 (j : Int), .pointer p] 157)).setCell ⟨w.heap.size + 1, 121, none⟩ (.pointer (some ⟨wr.heap.size, 0, none⟩))) w.heap.size 26 [.slice none 0 0, .int .i64 0]) := Blk.far (Blk.more hN.out _) _ _ (by dsimp only; omega)
     have hrl' := hI hrl
     clear RA hR hk hN hbel F0 hrl q'
     go_wp2
     go_roundw
     case rel => exact ⟨j, _, by omega, by go_num, R5, L5, K5, E5⟩
     case measure => simp [intOf]
end Go.Proofs.YtigpjmmfelndkaaGreatDoor
