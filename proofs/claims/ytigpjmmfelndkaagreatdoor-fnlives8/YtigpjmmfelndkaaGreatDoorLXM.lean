import Derived.Test.YtigpjmmfelndkaaGreatDoorLXL
namespace Go.Proofs.YtigpjmmfelndkaaGreatDoor
open Go.RowKit
set_option maxRecDepth 100000
set_option maxHeartbeats 4000000
theorem qqQ {w w' : World} {base n : Nat} {e : TypeId} {v : Value} {xs : List Value} (h : w.ownsRow base e 1 v n xs) (hB : Below w.heap.size w w') : w'.ownsRow base e 1 v n xs := by
 refine ⟨h.1, ?_⟩
 rcases h.2 with h2 | ⟨g, cap, cur, hv, hg, hh, r⟩
 ·exact .inl h2
 ·exact .inr ⟨g, cap, cur, hv, hg, by rw [hB.block g (Array.getElem?_eq_some_iff.1 hh).1]; exact hh, r⟩
def qbX (E : List Ce) : List ByteArray := E.map Ce.key
theorem qaT (E : List Ce) : (qbX E).length = E.length := by simp [qbX]
theorem qvU {E : List Ce} {i : Nat} (h : i < E.length) : qbX (E.take (i + 1)) = qbX (E.take i) ++ [E[i].key] := by
 rw [List.take_succ_eq_append_getElem h]
 unfold qbX
 rw [List.map_append]
 rfl
def KeysA (l o : List Ce) (mv : Int) (ks : List ByteArray) : Prop := (OkT l o mv /\ ks = qbX (qaY (qdL l o))) ∨ (¬ OkT l o mv /\ ks = [])
theorem KeysA.det {l o : List Ce} {mv : Int} {ks ks' : List ByteArray} (x : KeysA l o mv ks) (y : KeysA l o mv ks') : ks = ks' := by
 rcases x with ⟨a, rfl⟩ | ⟨a, rfl⟩ <;> rcases y with ⟨b, rfl⟩ | ⟨b, rfl⟩
 ·rfl
 ·exact absurd a b
 ·exact absurd b a
 ·rfl
theorem Tryz.infoStr : (Tryz.prog.info? 9).map (fun i => (i.zero, i.size, i.bytes)) = some (some (.string ⟨#[]⟩), 1, 16) := by kernel_rfl
theorem qxF (l : List ByteArray) : (sc l).length = l.length := by simp [sc]
theorem qrQ (ao a' : Option Addr) (l o : List Ce) (ca ca' : Nat) (mv : Int) (w : World) (hl : l.length <= 1048576) (hl' : o.length <= 1048576) (hA : RdJ w ao l) (hA' : RdJ w a' o) :
  Calls Tryz.prog 110 #[tbV ao l.length ca a' o.length ca' mv] w fun e w' => ∃ po ks pc, e = .returned (.slice po ks.length pc) /\ KeysA l o mv ks /\ w'.ownsRow w.heap.size 9 1 (.slice po ks.length pc) ks.length (sc ks) /\ Below w.heap.size w w' := by
 obtain ⟨i0, hi0, hz0, hz1, hz2⟩ := info_parts Tryz.infoStr
 have CB := hI (fun o1 => qdH ao a' l o ca ca' mv (w.alloc o1) hl hl' (hA.later (bAl _ _)) (hA'.later (bAl _ _)))
 have BB := hI (fun o1 w1 (h : Below (w.alloc o1).heap.size (w.alloc o1) w1) => (bAl w o1).trans (h.mono (by rw [World.size_alloc]; omega)))
 clear hA hA'
 unfold tbV at CB ⊢
 go_enter Tryz.func110, Tryz.ntmps110
 go_wp2_with fail
 refine (CB.out _).mono ?_
 rintro e w1 ⟨⟨b, g, m, rfl, hm, hok, hbr⟩ | ⟨v, rfl, hn⟩, hb1⟩
 ·have HOK := hI hok
  have B1 := hI (BB.out _ _ hb1)
  have CE := hI (qtM hbr hok.len.1 hok.len.2.1 (qcT hok))
  have hel : (qdL l o).length <= 128 := by have := qgL (l := l) (o := o); have := hok.len; omega
  have HSL := hI (qfQ (qcT hok))
  have HSM := hI (fun i (hi : i < (qaY (qdL l o)).length) => (quU hok ((qcI (qcT hok)).2.mem_iff.1 (List.getElem_mem hi))).2.2)
  clear hok hbr hb1 hm
  go_wp2_with fail
  refine CE.out.mono ?_
  rintro e w2 ⟨eo, ec, rfl, hrd, hb2⟩
  have HRD := hI hrd
  have B2 := tRn B1 hb2
  clear hrd hb2 CE
  obtain ⟨E, hE⟩ : ∃ E, qaY (qdL l o) = E := ⟨_, rfl⟩
  rw [hE] at HRD HSL HSM
  have HE0 := hI hE
  clear hE
  rw [<- HSL.out] at hel ⊢
  go_wp2
  go_loopw [5, 18] (fun lv iv wr => ∃ (i : Nat) (lo : Option Addr) (lc : Nat), i <= E.length /\ iv = .int .i64 (i : Int) /\ lv = .slice lo i lc /\ Hid (wr.ownsRow w2.heap.size 9 1 (.slice lo i lc) i (sc (qbX (E.take i)))) /\ Hid (Below w2.heap.size w2 wr)) (fun _ iv _ => E.length - (intOf iv).toNat)
  case atStart => exact ⟨0, none, 0, by omega, rfl, rfl, World.ownsRow_nil _ _ _ _, Below.refl _ _⟩
  case round =>
   obtain ⟨i, lo, lc, hi, rfl, rfl, hown, hbel⟩ := hrel
   by_cases hlt : i < E.length
   ·have k1 : (i : Int) < (E.length : Int) := by omega
    obtain ⟨bb, of, hao, hb, h1⟩ := HRD.out i hlt
    obtain ⟨x0, x1⟩ := h1.below hbel.out hb
    have hkt := hI (qvU hlt)
    have CN := hI (fun w => qkL E[i].key w)
    generalize E[i] = s at *
    obtain ⟨ky, hh⟩ := s
    simp only at x0 x1 hkt CN
    have BX : Hid (Below w2.heap.size w2 (wr.alloc (.cells #[.string ky, .int .i64 hh] 132))) := hbel.out.alloc hbel.out.size _
    have OX := hI (hown.out.alloc (.cells #[.string ky, .int .i64 hh] 132))
    have NN : Hid ((wr.alloc (.cells #[.string ky, .int .i64 hh] 132)).cell? ⟨wr.heap.size, 0, none⟩ = some (.string ky)) := World.cell?_alloc_at _ _ _ _ rfl
    rw [hao]
    clear h1 hao hown hbel
    go_upto_region 8 with fail
    generalize (wr.alloc (.cells #[.string ky, .int .i64 hh] 132)) = wv at NN BX OX ⊢
    have n0 := NN.out
    clear NN x0 x1
    go_wp2_with fail
    refine (CN.out _).mono ?_
    rintro e w5 ⟨rfl, hb5⟩
    have OY := hI (qqQ OX.out hb5)
    have BY := tRn BX hb5
    have hbs := BY.out.size
    clear hb5 OX BX n0
    go_wp2_with (at_builtin; (refine qbG rfl _ _ 30 rfl w2.heap.size 9 i0 (.string ⟨#[]⟩) 16 Tryz.underlying30 hi0 hz0 hz1 hz2 rfl (by decide) _ i (sc (qbX (E.take i))) rfl OY.out (.string ky) rfl rfl (by omega) hbs ?_; intro v' w6 hown6 hb6))
    have O6 : Hid (w6.ownsRow w2.heap.size 9 1 v' (i + 1) (sc (qbX (E.take (i + 1))))) := by
     show World.ownsRow _ _ _ _ _ _ _
     rw [hkt.out, qdM]
     exact hown6
    obtain ⟨lo2, lc2, rfl⟩ := qbW O6.out
    have B6 := hI (BY.out.trans hb6)
    clear hown6 hb6 hkt
    go_wp2
    go_roundw
    case rel => exact ⟨i + 1, lo2, lc2, by omega, by go_num, by first | rfl | (congr 1; omega), O6, B6⟩
    case measure => simp [intOf]; omega
   ·obtain rfl : i = E.length := by omega
    have HE := hI (show qbX (E.take E.length) = qbX E by rw [List.take_length])
    have O9 := hI hown.out
    rw [HE.out] at O9
    have HKL := hI (qaT E)
    have HKA := hI (show KeysA l o mv (qbX E) from .inl ⟨HOK.out, by rw [HE0.out]⟩)
    have B9 := hI (B2.out.trans (hbel.out.mono B2.out.size))
    have S9 := hI B2.out.size
    clear hown hbel HE
    go_wp2
    go_ret
    exact ⟨lo, qbX E, lc, by rw [HKL.out]; rfl, HKA.out, by rw [HKL.out]; exact qaB O9.out S9.out, B9.out⟩
 ·have HN := hI (show KeysA l o mv [] from .inr ⟨hn, rfl⟩)
  have B1 := hI (BB.out _ _ hb1)
  clear hn hb1
  go_wp2
  go_ret
  exact ⟨none, [], 0, rfl, HN.out, World.ownsRow_nil _ _ _ _, B1.out⟩
def RdT (w : World) (lo : Option Addr) (ks : List ByteArray) : Prop := ∀ j (h : j < ks.length), ∃ g, lo = some ⟨g, 0, none⟩ /\ g < w.heap.size /\ w.cell? ⟨g, j, none⟩ = some (.string ks[j])
theorem qcO {w : World} {base n ca : Nat} {lo : Option Addr} {ks : List ByteArray} (h : w.ownsRow base 9 1 (.slice lo n ca) n (sc ks)) : RdT w lo ks := by
 intro j hj
 have hn : ks.length = n := by have := h.1; rw [qxF] at this; omega
 rcases h.2 with ⟨hv, h0⟩ | ⟨g, cap, cur, hv, hb, hh, r⟩
 ·omega
 ·injection hv with h1 h2 h3
  subst h1
  refine ⟨g, rfl, (Array.getElem?_eq_some_iff.1 hh).1, ?_⟩
  rw [h.cellAt j (by omega)]
  simp [sc, List.getElem?_eq_getElem hj]
def qmL (ks : List ByteArray) (x : ByteArray) : List ByteArray := ks.filter (fun y => kLt y x) ++ (x :: ks.filter (fun y => !kLt y x))
theorem qrD (L : List Ce) (x : Ce) : qmL (qbX L) x.key = qbX (qkO L x) := by
 unfold qmL qkO qbX
 rw [List.map_append, List.map_cons, List.filter_map, List.filter_map]
 rfl
theorem qlX {p : ByteArray -> Bool} {ks : List ByteArray} {i : Nat} (h : i < ks.length) : (ks.take (i + 1)).filter p = (ks.take i).filter p ++ (if p ks[i] then [ks[i]] else []) := by
 rw [List.take_succ_eq_append_getElem h, List.filter_append]
 congr 1
 cases e : p ks[i] <;> simp [e]
theorem qcH (lo : Option Addr) (ks : List ByteArray) (lc : Nat) (x : ByteArray) (w : World) (hl : ks.length <= 65536) (hA : RdT w lo ks) :
  Calls Tryz.prog 72 #[.slice lo ks.length lc, .string x] w fun e w' => ∃ po pc, e = .returned (.slice po (qmL ks x).length pc) /\ w'.ownsRow w.heap.size 9 1 (.slice po (qmL ks x).length pc) (qmL ks x).length (sc (qmL ks x)) /\ Below w.heap.size w w' := by
 obtain ⟨i0, hi0, hz0, hz1, hz2⟩ := info_parts Tryz.infoStr
 have HA := hI hA
 clear hA
 go_enter Tryz.func72, Tryz.ntmps72
 go_wp2
 go_loopw [5, 6] (fun lv iv wr => ∃ (i : Nat) (R : List ByteArray) (po : Option Addr) (pc : Nat), i <= ks.length /\ R.length <= i /\ iv = .int .i64 (i : Int) /\ lv = .slice po R.length pc /\ Hid (R = (ks.take i).filter (fun y => kLt y x)) /\ Hid (wr.ownsRow w.heap.size 9 1 (.slice po R.length pc) R.length (sc R)) /\ Hid (Below w.heap.size w wr)) (fun _ iv _ => ks.length - (intOf iv).toNat)
 case atStart => exact ⟨0, [], _, _, by omega, Nat.le_refl _, rfl, rfl, rfl, qbB w 9, bAl _ _⟩
 case round =>
  obtain ⟨i, R, po, pc, hi, hRi, rfl, rfl, hR, hown, hbel⟩ := hrel
  by_cases hlt : i < ks.length
  ·have k1 : (i : Int) < (ks.length : Int) := by omega
   obtain ⟨g, hlo, hg, h1⟩ := HA.out i hlt
   have x0 : wr.cell? ⟨g, i, none⟩ = some (.string ks[i]) := (hbel.out.cell (p := ⟨g, i, none⟩) hg).trans h1
   have hft := hI (qlX (p := fun y => kLt y x) hlt)
   generalize ks[i] = y at *
   have hbs := hbel.out.size
   rw [hlo]
   clear h1 hlo
   cases e : kLt y x with
   | true =>
    have b1 : Op.bytesLess y.toList x.toList = true := e
    have HR2 := hI (show R ++ [y] = (ks.take (i + 1)).filter (fun y => kLt y x) by rw [hft.out, if_pos e, hR.out])
    clear hft e
    go_wp2_with (at_builtin; (refine qbG rfl _ _ 30 rfl w.heap.size 9 i0 (.string ⟨#[]⟩) 16 Tryz.underlying30 hi0 hz0 hz1 hz2 rfl (by decide) _ R.length (sc R) rfl hown.out (.string y) rfl rfl (by omega) hbs ?_; intro v' w6 hown6 hb6))
    have O6 : Hid (w6.ownsRow w.heap.size 9 1 v' (R ++ [y]).length (sc (R ++ [y]))) := by
     show World.ownsRow _ _ _ _ _ _ _
     rw [qdM, List.length_append]
     exact hown6
    obtain ⟨lo2, lc2, rfl⟩ := qbW O6.out
    have B6 := hI (hbel.out.trans hb6)
    have hll : (R ++ [y]).length = R.length + 1 := by simp
    clear hown6 hb6
    go_wp2
    go_roundw
    case rel => exact ⟨i + 1, R ++ [y], lo2, lc2, by omega, by omega, by go_num, rfl, HR2, O6, B6⟩
    case measure => simp [intOf]; omega
   | false =>
    have b1 : Op.bytesLess y.toList x.toList = false := e
    have HR2 := hI (show R = (ks.take (i + 1)).filter (fun y => kLt y x) by rw [hft.out, if_neg (by rw [e]; simp), hR.out, List.append_nil])
    clear hft e
    go_wp2
    go_roundw
    case rel => exact ⟨i + 1, R, po, pc, by omega, by omega, by go_num, rfl, HR2, hown, hbel⟩
    case measure => simp [intOf]; omega
  ·obtain rfl : i = ks.length := by omega
   have k1 : decide ((ks.length : Int) < (ks.length : Int)) = false := by simp
   have HR1 := hI (show R = ks.filter (fun y => kLt y x) by rw [hR.out, List.take_length])
   have hbs := hbel.out.size
   clear hR
   go_wp2_with (at_builtin; (refine qbG rfl _ _ 30 rfl w.heap.size 9 i0 (.string ⟨#[]⟩) 16 Tryz.underlying30 hi0 hz0 hz1 hz2 rfl (by decide) _ R.length (sc R) rfl hown.out (.string x) rfl rfl (by omega) hbs ?_; intro v' w6 hown6 hb6))
   have O6 : Hid (w6.ownsRow w.heap.size 9 1 v' (R ++ [x]).length (sc (R ++ [x]))) := by
    show World.ownsRow _ _ _ _ _ _ _
    rw [qdM, List.length_append]
    exact hown6
   obtain ⟨lo2, lc2, rfl⟩ := qbW O6.out
   have B6 := hI (hbel.out.trans hb6)
   have hll : (R ++ [x]).length <= ks.length + 1 := by simp; omega
   obtain ⟨R0, hR0⟩ : ∃ R0, R ++ [x] = R0 := ⟨_, rfl⟩
   rw [hR0] at O6 hll
   have HR0 := hI hR0
   rw [hR0]
   clear hown6 hb6 hown hbel hR0
   go_wp2
   go_loopw [5, 7] (fun lv iv wr => ∃ (i : Nat) (T : List ByteArray) (po : Option Addr) (pc : Nat), i <= ks.length /\ T.length <= R0.length + i /\ iv = .int .i64 (i : Int) /\ lv = .slice po T.length pc /\ Hid (T = R0 ++ (ks.take i).filter (fun y => !kLt y x)) /\ Hid (wr.ownsRow w.heap.size 9 1 (.slice po T.length pc) T.length (sc T)) /\ Hid (Below w.heap.size w wr)) (fun _ iv _ => ks.length - (intOf iv).toNat)
   case atStart => exact ⟨0, R0, lo2, lc2, by omega, Nat.le_refl _, rfl, rfl, by show R0 = _; simp, O6, B6⟩
   case round =>
    obtain ⟨i, T, po, pc, hi, hTi, rfl, rfl, hT, hown, hbel⟩ := hrel
    by_cases hlt : i < ks.length
    ·have k2 : (i : Int) < (ks.length : Int) := by omega
     obtain ⟨g, hlo, hg, h1⟩ := HA.out i hlt
     have x0 : wr.cell? ⟨g, i, none⟩ = some (.string ks[i]) := (hbel.out.cell (p := ⟨g, i, none⟩) hg).trans h1
     have hft := hI (qlX (p := fun y => !kLt y x) hlt)
     generalize ks[i] = y at *
     have hbs := hbel.out.size
     rw [hlo]
     clear h1 hlo
     cases e : kLt y x with
     | false =>
      have b1 : Op.bytesLess y.toList x.toList = false := e
      have HR2 := hI (show T ++ [y] = R0 ++ (ks.take (i + 1)).filter (fun y => !kLt y x) by rw [hft.out, if_pos (by rw [e]; rfl), hT.out, List.append_assoc])
      clear hft e
      go_wp2_with (at_builtin; (refine qbG rfl _ _ 30 rfl w.heap.size 9 i0 (.string ⟨#[]⟩) 16 Tryz.underlying30 hi0 hz0 hz1 hz2 rfl (by decide) _ T.length (sc T) rfl hown.out (.string y) rfl rfl (by omega) hbs ?_; intro v' w6 hown6 hb6))
      have O7 : Hid (w6.ownsRow w.heap.size 9 1 v' (T ++ [y]).length (sc (T ++ [y]))) := by
       show World.ownsRow _ _ _ _ _ _ _
       rw [qdM, List.length_append]
       exact hown6
      obtain ⟨lo3, lc3, rfl⟩ := qbW O7.out
      have B7 := hI (hbel.out.trans hb6)
      have hl2 : (T ++ [y]).length = T.length + 1 := by simp
      clear hown6 hb6
      go_wp2
      go_roundw
      case rel => exact ⟨i + 1, T ++ [y], lo3, lc3, by omega, by omega, by go_num, rfl, HR2, O7, B7⟩
      case measure => simp [intOf]; omega
     | true =>
      have b1 : Op.bytesLess y.toList x.toList = true := e
      have HR2 := hI (show T = R0 ++ (ks.take (i + 1)).filter (fun y => !kLt y x) by rw [hft.out, if_neg (by rw [e]; simp), hT.out, List.append_nil])
      clear hft e
      go_wp2
      go_roundw
      case rel => exact ⟨i + 1, T, po, pc, by omega, by omega, by go_num, rfl, HR2, hown, hbel⟩
      case measure => simp [intOf]; omega
    ·obtain rfl : i = ks.length := by omega
     have HT := hI (show T = qmL ks x by rw [hT.out, List.take_length, <- HR0.out, HR1.out, List.append_assoc]; rfl)
     clear hT
     go_wp2
     go_ret
     rw [<- HT.out]
     exact ⟨po, pc, rfl, hown.out, hbel.out⟩
theorem qjL (ao a' : Option Addr) (l o : List Ce) (ca ca' : Nat) (mv : Int) (w : World) (hl : l.length <= 1048576) (hl' : o.length <= 1048576) (hA : RdC w ao l) (hA' : RdC w a' o) :
  Calls Tryz.prog 52 #[tbV ao l.length ca a' o.length ca' mv] w fun e w' => ∃ po ks pc, e = .returned (.slice po ks.length pc) /\ KeysA l o mv ks /\ w'.ownsRow w.heap.size 9 1 (.slice po ks.length pc) ks.length (sc ks) /\ Below w.heap.size w w' := by
 have CB := hI (fun w' (hb : Below w.heap.size w w') => qcX ao a' l o ca ca' mv w' hl hl' (hA.later hb) (hA'.later hb))
 have HA := hI hA
 have HA' := hI hA'
 have F0 : Hid (Blk ((w.alloc (.cells #[.slice ao l.length ca, .slice a' o.length ca', .int .i64 mv] 29)).alloc (.cells #[] 9)) w.heap.size 29 [.slice ao l.length ca, .slice a' o.length ca', .int .i64 mv] /\ ((w.alloc (.cells #[.slice ao l.length ca, .slice a' o.length ca', .int .i64 mv] 29)).alloc (.cells #[] 9)).ownsRow w.heap.size 9 1 (.slice (some ⟨w.heap.size + 1, 0, none⟩) 0 0) 0 [] /\ Below w.heap.size w ((w.alloc (.cells #[.slice ao l.length ca, .slice a' o.length ca', .int .i64 mv] 29)).alloc (.cells #[] 9))) := by
  refine ⟨Blk.more (Blk.new w _ _) _, ?_, qcF w _ _⟩
  have := qbB (w.alloc (.cells #[.slice ao l.length ca, .slice a' o.length ca', .int .i64 mv] 29)) 9
  rw [World.size_alloc] at this
  exact qaB this (by omega)
 clear hA hA'
 unfold tbV at CB ⊢
 go_enter Tryz.func52, Tryz.ntmps52
 go_wp2_with fail
 generalize ((w.alloc (.cells #[.slice ao l.length ca, .slice a' o.length ca', .int .i64 mv] 29)).alloc (.cells #[] 9)) = wz at F0 ⊢
 obtain ⟨Kz, Oz, Bz⟩ := F0.out
 have Kz := hI Kz
 have Oz := hI Oz
 have Bz := hI Bz
 clear F0
 refine (CB.out wz Bz.out).mono ?_
 rintro e w0 ⟨x, rfl, hx, hb1⟩
 have HX := hI hx
 have K0 := bRn Kz hb1
 have O0 := hI (qqQ Oz.out hb1)
 have B0 := tRn Bz hb1
 have hs0 := K0.out.lt
 clear hb1 CB hx Kz Oz Bz
 rcases x with _ | _
 ·have HN := hI (show KeysA l o mv [] from .inr ⟨(fun h => by have := HX.out.2 h; cases this), rfl⟩)
  clear HX
  go_wp2
  go_ret
  exact ⟨_, [], 0, rfl, HN.out, O0.out, B0.out⟩
 ·have HOK := hI (HX.out.1 rfl)
  have hlen := HOK.out.len
  clear HX
  go_wp2
  go_loopw [3, 4] (fun lv iv wr => ∃ (i : Nat) (E : List Ce) (po : Option Addr) (pc : Nat), i <= l.length /\ E.length <= 0 + i /\ iv = .int .i64 (i : Int) /\ lv = .slice po E.length pc /\ Hid (E = qaY ( qaO (l.take i))) /\ Hid (wr.ownsRow w0.heap.size 9 1 (.slice po E.length pc) E.length (sc (qbX E)) ∨ (E = [] /\ wr.ownsRow w.heap.size 9 1 (.slice po E.length pc) E.length (sc (qbX E)))) /\ Hid (Below w0.heap.size w0 wr)) (fun _ iv _ => l.length - (intOf iv).toNat)
  case atStart => exact ⟨0, [], some ⟨w.heap.size + 1, 0, none⟩, 0, by omega, by simp, rfl, rfl, rfl, .inr ⟨rfl, O0.out⟩, Below.refl _ _⟩
  case round =>
   obtain ⟨i, E, po, pc, hi, hEi, rfl, rfl, hE, hown, hbel⟩ := hrel
   have z : wr.cell? ⟨w.heap.size, 0, none⟩ = some (.slice ao l.length ca) := (K0.out.below hbel.out hs0).cell 0
   by_cases hlt : i < l.length
   ·have k1 : (i : Int) < (l.length : Int) := by omega
    obtain ⟨g, hao, hg, hc⟩ := HA.out.at i hlt
    have hg0 : g < w0.heap.size := Nat.lt_of_lt_of_le hg B0.out.size
    have x0 : wr.cell? ⟨g, i * 2, none⟩ = some (.string l[i].key) := (hbel.out.cell (p := ⟨g, i * 2, none⟩) hg0).trans ((B0.out.cell (p := ⟨g, i * 2, none⟩) hg).trans hc.1)
    have hkt := hI (qgJ hlt)
    generalize l[i] = s at *
    obtain ⟨ky, hh⟩ := s
    simp only at x0 hkt
    rw [hao] at z
    clear hc hao
    by_cases d1 : ky.toList = []
    ·have b1 : ky.toList.isEmpty = true := by rw [d1]; rfl
     have HE := hI (show E = qaY ( qaO (l.take (i + 1))) by rw [hkt.out, if_pos b1, List.append_nil]; exact hE.out)
     clear hkt d1
     go_wp2
     go_roundw
     case rel => exact ⟨i + 1, E, po, pc, by omega, by omega, by go_num, rfl, HE, hown, hbel⟩
     case measure => simp [intOf]; omega
    ·have b1 : ky.toList.isEmpty = false := by cases h : ky.toList with | nil => exact absurd h d1 | cons a b => rfl
     have HE := hI (show qkO E ⟨ky, hh⟩ = qaY ( qaO (l.take (i + 1))) by
      rw [hkt.out, if_neg (by rw [b1]; simp),  qaY, List.foldl_append, <- qaY, <- hE.out]
      rfl)
     have HRT := hI (show RdT wr po (qbX E) by
      rcases hown.out with h | ⟨_, h⟩
      ·exact qcO h
      ·exact qcO h)
     have CI := hI (qcH po (qbX E) pc ky wr (by rw [qaT]; omega) HRT.out)
     rw [qaT, qrD E ⟨ky, hh⟩] at CI
     have hil : (qkO E ⟨ky, hh⟩).length = E.length + 1 := by have := (qiA E ⟨ky, hh⟩).length_eq; simpa using this
     have HIL := hI hil
     have hbs := hbel.out.size
     clear hkt d1 hown hil HRT
     go_wp2_with fail
     refine CI.out.mono ?_
     rintro e w6 ⟨lo2, lc2, rfl, ho6, hb6⟩
     have O6 : Hid (w6.ownsRow w0.heap.size 9 1 (.slice lo2 (qkO E ⟨ky, hh⟩).length lc2) (qkO E ⟨ky, hh⟩).length (sc (qbX (qkO E ⟨ky, hh⟩)))) := by
      show World.ownsRow _ _ _ _ _ _ _
      have := qaB ho6 hbs
      rw [qaT] at this
      exact this
     have B6 := hI (hbel.out.trans (hb6.mono hbs))
     clear ho6 hb6 CI
     rw [qaT]
     have hle : (qkO E ⟨ky, hh⟩).length <= 0 + (i + 1) := by rw [HIL.out]; omega
     generalize qkO E ⟨ky, hh⟩ = E2 at *
     go_wp2
     go_roundw
     case rel => exact ⟨i + 1, E2, lo2, lc2, by omega, hle, by go_num, rfl, HE, .inl O6.out, B6⟩
     case measure => simp [intOf]; omega
   ·obtain rfl : i = l.length := by omega
    have k1 : decide ((l.length : Int) < (l.length : Int)) = false := by simp
    have HE1 := hI (show E = qaY ( qaO l) by rw [hE.out, List.take_length])
    clear hE
    go_wp2
    clear z
    go_loopw [3, 5] (fun lv iv wr => ∃ (i : Nat) (E : List Ce) (po : Option Addr) (pc : Nat), i <= o.length /\ E.length <= l.length + i /\ iv = .int .i64 (i : Int) /\ lv = .slice po E.length pc /\ Hid (E = qaY (qaO l ++ qaO (o.take i))) /\ Hid (wr.ownsRow w0.heap.size 9 1 (.slice po E.length pc) E.length (sc (qbX E)) ∨ (E = [] /\ wr.ownsRow w.heap.size 9 1 (.slice po E.length pc) E.length (sc (qbX E)))) /\ Hid (Below w0.heap.size w0 wr)) (fun _ iv _ => o.length - (intOf iv).toNat)
    case atStart => exact ⟨0, E, po, pc, by omega, by omega, rfl, rfl, (by show E = _; rw [HE1.out]; simp [qaO]), hown, hbel⟩
    case round =>
     obtain ⟨i, E, po, pc, hi, hEi, rfl, rfl, hE, hown, hbel⟩ := hrel
     have z : wr.cell? ⟨w.heap.size, 1, none⟩ = some (.slice a' o.length ca') := (K0.out.below hbel.out hs0).cell 1
     by_cases hlt : i < o.length
     ·have k1 : (i : Int) < (o.length : Int) := by omega
      obtain ⟨g, hao, hg, hc⟩ := HA'.out.at i hlt
      have hg0 : g < w0.heap.size := Nat.lt_of_lt_of_le hg B0.out.size
      have x0 : wr.cell? ⟨g, i * 2, none⟩ = some (.string o[i].key) := (hbel.out.cell (p := ⟨g, i * 2, none⟩) hg0).trans ((B0.out.cell (p := ⟨g, i * 2, none⟩) hg).trans hc.1)
      have hkt := hI (qgJ hlt)
      generalize o[i] = s at *
      obtain ⟨ky, hh⟩ := s
      simp only at x0 hkt
      rw [hao] at z
      clear hc hao
      by_cases d1 : ky.toList = []
      ·have b1 : ky.toList.isEmpty = true := by rw [d1]; rfl
       have HE := hI (show E = qaY (qaO l ++ qaO (o.take (i + 1))) by rw [hkt.out, if_pos b1, List.append_nil]; exact hE.out)
       clear hkt d1
       go_wp2
       go_roundw
       case rel => exact ⟨i + 1, E, po, pc, by omega, by omega, by go_num, rfl, HE, hown, hbel⟩
       case measure => simp [intOf]; omega
      ·have b1 : ky.toList.isEmpty = false := by cases h : ky.toList with | nil => exact absurd h d1 | cons a b => rfl
       have HE := hI (show qkO E ⟨ky, hh⟩ = qaY (qaO l ++ qaO (o.take (i + 1))) by
        rw [hkt.out, if_neg (by rw [b1]; simp), <- List.append_assoc, qaY, List.foldl_append, <- qaY, <- hE.out]
        rfl)
       have HRT := hI (show RdT wr po (qbX E) by
        rcases hown.out with h | ⟨_, h⟩
        ·exact qcO h
        ·exact qcO h)
       have CI := hI (qcH po (qbX E) pc ky wr (by rw [qaT]; omega) HRT.out)
       rw [qaT, qrD E ⟨ky, hh⟩] at CI
       have hil : (qkO E ⟨ky, hh⟩).length = E.length + 1 := by have := (qiA E ⟨ky, hh⟩).length_eq; simpa using this
       have HIL := hI hil
       have hbs := hbel.out.size
       clear hkt d1 hown hil HRT
       go_wp2_with fail
       refine CI.out.mono ?_
       rintro e w6 ⟨lo2, lc2, rfl, ho6, hb6⟩
       have O6 : Hid (w6.ownsRow w0.heap.size 9 1 (.slice lo2 (qkO E ⟨ky, hh⟩).length lc2) (qkO E ⟨ky, hh⟩).length (sc (qbX (qkO E ⟨ky, hh⟩)))) := by
        show World.ownsRow _ _ _ _ _ _ _
        have := qaB ho6 hbs
        rw [qaT] at this
        exact this
       have B6 := hI (hbel.out.trans (hb6.mono hbs))
       clear ho6 hb6 CI
       rw [qaT]
       have hle : (qkO E ⟨ky, hh⟩).length <= l.length + (i + 1) := by rw [HIL.out]; omega
       generalize qkO E ⟨ky, hh⟩ = E2 at *
       go_wp2
       go_roundw
       case rel => exact ⟨i + 1, E2, lo2, lc2, by omega, hle, by go_num, rfl, HE, .inl O6.out, B6⟩
       case measure => simp [intOf]; omega
     ·obtain rfl : i = o.length := by omega
      have k1 : decide ((o.length : Int) < (o.length : Int)) = false := by simp
      have HE1 := hI (show E = qaY (qaO l ++ qaO o) by rw [hE.out, List.take_length])
      clear hE
      have HKA := hI (show KeysA l o mv (qbX E) from .inl ⟨HOK.out, by rw [HE1.out]; rfl⟩)
      have HKL := hI (qaT E)
      have O9 : Hid (wr.ownsRow w.heap.size 9 1 (.slice po E.length pc) E.length (sc (qbX E))) := by
       show World.ownsRow _ _ _ _ _ _ _
       rcases hown.out with h | ⟨_, h⟩
       ·exact qaB h B0.out.size
       ·exact h
      have B9 := hI (B0.out.trans (hbel.out.mono B0.out.size))
      clear hown hbel
      go_wp2
      go_ret
      exact ⟨po, qbX E, pc, by rw [HKL.out]; rfl, HKA.out, by rw [HKL.out]; exact O9.out, B9.out⟩
end Go.Proofs.YtigpjmmfelndkaaGreatDoor
