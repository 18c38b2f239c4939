import Derived.Test.YtigpjmmfelndkaaGreatDoorLYA
namespace Go.Proofs.YtigpjmmfelndkaaGreatDoor
open Go.RowKit
set_option maxRecDepth 100000
set_option maxHeartbeats 2000000
theorem Tryz.infoStrW : (Tryz.prog.info? 9).map (fun i => (i.zero, i.size, i.bytes)) = some (some (.string ⟨#[]⟩), 1, 16) := by kernel_rfl
def Wds (w : World) (wo : Option Addr) (ws : List ByteArray) : Prop := ∀ j (h : j < ws.length), ∃ g, wo = some ⟨g, 0, none⟩ /\ g < w.heap.size /\ w.cell? ⟨g, j, none⟩ = some (.string ws[j])
theorem Wds.later {w w' : World} {wo : Option Addr} {ws : List ByteArray} (h : Wds w wo ws) (hb : Below w.heap.size w w') : Wds w' wo ws := by
 intro j hj
 obtain ⟨g, h1, h2, h3⟩ := h j hj
 exact ⟨g, h1, Nat.lt_of_lt_of_le h2 hb.size, (hb.cell (p := ⟨g, j, none⟩) h2).trans h3⟩
theorem zbK {w : World} {base n ca : Nat} {lo : Option Addr} {ks : List ByteArray} (h : w.ownsRow base 9 1 (.slice lo n ca) n (sc ks)) : Wds w lo ks := by
 intro j hj
 have hn : ks.length = n := by have := h.1; simp only [sc, List.length_map] at this; omega
 rcases h.2 with ⟨hv, h0⟩ | ⟨g, cap, cur, hv, hb, hh, r⟩
 ·omega
 ·injection hv with h1 h2 h3
  subst h1
  refine ⟨g, rfl, (Array.getElem?_eq_some_iff.1 hh).1, ?_⟩
  rw [h.cellAt j (by omega)]
  unfold sc
  rw [List.getElem?_map, List.getElem?_eq_getElem hj]
  rfl
theorem qwF (w : World) (a : Option Addr) (len cap : Nat) (hc : Code w.heap.size w a len) :
  Calls Tryz.prog 14 #[.slice a len cap] w fun e w' => ∃ (ws : List ByteArray) (wo : Option Addr) (c : Nat), e = .returned (.slice wo ws.length c) /\ ws.length <= 29 /\ (∀ z ∈ ws, (1 <= z.size /\ z.size <= 12)) /\ Wds w' wo ws /\ Below w.heap.size w w' := by
 obtain ⟨i0, hi, hz0, hz1, hz2⟩ := info_parts Tryz.infoStrW
 go_enter Tryz.func14, Tryz.ntmps14
 go_wp2_with fail
 refine (qxS w a len cap hc).mono ?_
 rintro e w2 ⟨g, rfl, h2, hb2⟩
 have hgl := h2.lt
 have hba := h2.base
 have hBg := h2.cur.1
 have H := hI h2
 have B2 := hI hb2
 clear h2 hc hb2
 go_wp2
 go_loopw [4, 5] (fun v iv wr => ∃ (i : Nat) (acc : List ByteArray), i <= 29 /\ iv = .int .i64 (i : Int) /\ Hid (acc.length = i) /\ acc.length <= 29 /\ wr.ownsRow w2.heap.size 9 1 v acc.length (sc acc) /\ Hid (Drw w.heap.size wr a len cap g) /\ Hid (w2.grownBy wr (some g)) /\ Hid (∀ y ∈ acc, (1 <= y.size /\ y.size <= 12))) (fun _ iv _ => 30 - (intOf iv).toNat)
 case atStart => exact ⟨0, [], by omega, rfl, rfl, by simp, qbB w2 _, hI (H.out.later (bAl _ _)), World.grownBy_alloc w2 _ _, fun y hy => by cases hy⟩
 case round =>
  obtain ⟨i, acc, hin, rfl, hl, hle, hown, hD, hgr, hall⟩ := hrel
  have hbs := hgr.out.size
  have HO := hI hown
  clear hown
  go_wp2_with fail
  refine (qmG hD.out 30 (by omega)).mono ?_
  rintro e w3 ⟨x, rfl, hx, _, hD1, hb1⟩
  have hx30 : x < 30 := by have := hx (by omega); omega
  have hown1 := hI (gown hb1 HO.out (fun k hk e => by have := (HO.out.lt k hk).1; injection e with e; omega))
  have hg1 := hI (qaK hgr.out hb1)
  have D1 := hI hD1
  clear hD1 hx hb1 HO hD hgr
  by_cases hlt : i < x
  ·have k1 : decide ((i : Int) < (x : Int)) = true := by simp; omega
   have hlt2 : acc.length < 29 := by have := hl.out; omega
   have CK := hI (zcD D1.out)
   go_wp2_with fail
   refine CK.out.mono ?_
   rintro e w4 ⟨z, rfl, hs1, hz12, hD4, hb4⟩
   have hown4 : w4.ownsRow w2.heap.size 9 1 u4 acc.length (sc acc) := gown hb4 hown1.out (fun k hk e => by have := (hown1.out.lt k hk).1; injection e with e; omega)
   have hg4 := hI (qaK hg1.out hb4)
   have hs4 : w2.heap.size <= w4.heap.size := hg4.out.size
   have D4 := hI hD4
   clear hD4 hb4 CK
   go_wp2_with (at_builtin; (refine qbG rfl _ _ 30 rfl w2.heap.size 9 i0 (.string ⟨#[]⟩) 16 Tryz.underlying30 hi hz0 hz1 hz2 rfl (by decide) _ acc.length (sc acc) rfl hown4 _ rfl rfl (by omega) hs4 ?_; intro v' w5 hown' hb'))
   go_roundw
   case rel =>
    refine ⟨i + 1, acc ++ [z], by omega, by go_num, ?_, by simp; omega, ?_, hI (D4.out.keep hb' (by omega) hgl), ?_, ?_⟩
    ·show (acc ++ [z]).length = i + 1; rw [List.length_append, hl.out]; rfl
    ·rw [qdM, List.length_append]; exact hown'
    ·refine ⟨hb'.os.trans hg4.out.os, hb'.tape.trans hg4.out.tape, hb'.output.trans hg4.out.output, Nat.le_trans hg4.out.size hb'.size, fun k hk hne => ?_⟩
     rw [hb'.block k hk, hg4.out.block k hk hne]
    ·intro y hy
     rcases List.mem_append.1 hy with h | h
     ·exact hall.out y h
     ·simp at h; rw [h]; exact ⟨hs1, hz12⟩
   case measure => simp [intOf]; omega
  ·have k1 : decide ((i : Int) < (x : Int)) = false := by simp; omega
   obtain ⟨wo, c, rfl⟩ := qbW hown1.out
   go_wp2
   go_ret
   exact ⟨acc, wo, c, rfl, hle, hall.out, zbK hown1.out, B2.out.trans (qaU hg1.out (fun k hk => by injection hk with e; omega) B2.out.size)⟩
theorem Tryz.infoIntP : (Tryz.prog.info? 3).map (fun i => (i.zero, i.size, i.bytes)) = some (some (.int .i64 0), 1, 8) := by kernel_rfl
def icP (l : List Nat) : List Value := l.map fun n : Nat => Value.int .i64 (n : Int)
theorem qvY (l m : List Nat) : icP (l ++ m) = icP l ++ icP m := by simp [icP]
theorem zbS {w : World} {base n : Nat} {e : TypeId} {v : Value} {xs : List Value} (h : w.ownsRow base e 1 v n xs) (hn : 0 < n) : ∃ g cap, v = .slice (some ⟨g, 0, none⟩) n cap /\ base <= g /\ g < w.heap.size := by
 rcases h.2 with ⟨_, h0⟩ | ⟨g, cap, cur, hv, _⟩
 ·omega
 ·have := h.lt g (by rw [hv]; rfl)
  exact ⟨g, cap, hv, this.1, this.2⟩
theorem qwG (w : World) (a : Option Addr) (len cap : Nat) (hc : Code w.heap.size w a len) :
  Calls Tryz.prog 15 #[.slice a len cap] w fun e w' => ∃ (xs : List Nat) (p c : Nat), xs.length = 12 /\ (∀ y ∈ xs, y < 10000) /\ e = .returned (.slice (some ⟨p, 0, none⟩) 12 c) /\ w.heap.size <= p /\ p < w'.heap.size /\ (∀ j (h : j < xs.length), w'.cell? ⟨p, j, none⟩ = some (.int .i64 (xs[j] : Int))) /\ Below w.heap.size w w' := by
 obtain ⟨i0, hi, hz0, hz1, hz2⟩ := info_parts Tryz.infoIntP
 go_enter Tryz.func15, Tryz.ntmps15
 go_wp2_with fail
 refine (qxS w a len cap hc).mono ?_
 rintro e w1 ⟨g, rfl, h1, hb1⟩
 have hBg := h1.cur.1
 go_wp2_with fail
 refine (qgP h1).mono ?_
 rintro e w2 ⟨x, rfl, hx, h2, hb2⟩
 have hgl := h2.lt
 have hba := h2.base
 have hb12 := hI (hb1.trans (qiV hb2 hBg h1.base))
 have H := hI h2
 clear h1 h2 hb1 hb2 hx hc
 go_wp2
 go_loopw [4, 5] (fun v iv wr => ∃ (i : Nat) (acc : List Nat), i <= 12 /\ iv = .int .i64 (i : Int) /\ Hid (acc.length = i) /\ acc.length <= 12 /\ wr.ownsRow w2.heap.size 3 1 v acc.length (icP acc) /\ Hid (Drw w.heap.size wr a len cap g) /\ w2.grownBy wr (some g) /\ Hid (∀ y ∈ acc, y < 10000)) (fun _ iv _ => 12 - (intOf iv).toNat)
 case atStart => exact ⟨0, [], by omega, rfl, rfl, by simp, qbB w2 _, hI (H.out.later (bAl _ _)), World.grownBy_alloc w2 _ _, fun y hy => by cases hy⟩
 case round =>
  obtain ⟨i, acc, hin, rfl, hl, hle, hown, hD, hgr, hall⟩ := hrel
  have hbs := hgr.size
  by_cases hlt : i < 12
  ·have HO := hI hown
   have hlt2 : acc.length < 12 := by have := hl.out; omega
   clear hown
   go_wp2_with fail
   refine (qmG hD.out 10000 (by omega)).mono ?_
   rintro e w3 ⟨x, rfl, hx, _, hD1, hb1⟩
   have hx2 : x < 10000 := by have := hx (by omega); omega
   have hown1 : w3.ownsRow w2.heap.size 3 1 u4 acc.length (icP acc) := HO.out.kept hb1 (by
    cases hv : u4.ownBlock with
    | none => exact .inl rfl
    | some k => right; intro e; have := (HO.out.lt k hv).1; simp at e; omega)
   have hb1s : w2.heap.size <= w3.heap.size := Nat.le_trans hbs hb1.size
   have D1 := hI hD1
   clear hD1 hx
   go_wp2_with (at_builtin; (refine qbG rfl _ _ 33 rfl w2.heap.size 3 i0 (.int .i64 0) 8 Tryz.underlying33 hi hz0 hz1 hz2 rfl (by decide) _ acc.length (icP acc) rfl hown1 _ rfl rfl (by omega) hb1s ?_; intro v' w4 hown' hb'))
   go_roundw
   case rel =>
    refine ⟨i + 1, acc ++ [x], by omega, by go_num, ?_, by simp; omega, ?_, hI (D1.out.keep hb' hba hgl), ?_, ?_⟩
    ·show (acc ++ [x]).length = i + 1; rw [List.length_append, hl.out]; rfl
    ·rw [qvY, List.length_append]; exact hown'
    ·refine ⟨hb'.os.trans (hb1.os.trans hgr.os), hb'.tape.trans (hb1.tape.trans hgr.tape), hb'.output.trans (hb1.output.trans hgr.output), Nat.le_trans hb1s hb'.size, fun k hk hne => ?_⟩
     rw [hb'.block k hk, hb1.block k (by omega) hne, hgr.block k hk hne]
    ·intro y hy
     rcases List.mem_append.1 hy with h | h
     ·exact hall.out y h
     ·simp at h; omega
   case measure => simp [intOf]; omega
  ·have hl2 : acc.length = 12 := by have := hl.out; omega
   obtain ⟨p, c, rfl, hp1, hp2⟩ := zbS hown (by omega)
   have ec : ∀ j (h : j < acc.length), wr.cell? ⟨p, j, none⟩ = some (.int .i64 (acc[j] : Int)) := by
    intro j hj
    rw [hown.cellAt j (by omega)]
    simp [icP, hj]
   have EC := hI ec
   have HL := hI hl2
   rw [hl2]
   clear ec
   go_wp2
   go_ret
   exact ⟨acc, p, c, HL.out, hall.out, rfl, Nat.le_trans hb12.out.size hp1, hp2, EC.out, hb12.out.trans (qiV hgr hBg hba)⟩
end Go.Proofs.YtigpjmmfelndkaaGreatDoor
