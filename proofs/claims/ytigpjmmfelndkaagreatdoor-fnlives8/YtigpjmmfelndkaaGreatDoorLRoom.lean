import Derived.Test.YtigpjmmfelndkaaGreatDoorLXB
namespace Go.Proofs.YtigpjmmfelndkaaGreatDoor
open Go.RowKit
def hdI : List Nat -> Int
 | [] => -1
 | k :: _ => (k : Int)
def qcU (n : Nat) (L : List Sl) (p : Option Addr) : List Value := Value.int .i64 (n : Int) :: (sls L ++ [.pointer p])
theorem qqJ {n : Nat} {L : List Sl} {p : Option Addr} (hL : L.length = 24) : (qcU n L p).length = 122 := by simp [qcU, qaL, hL]
def RoomAt (w : World) (r n : Nat) (L : List Sl) (p : Option Addr) : Prop := Blk w r 155 (qcU n L p)
theorem RoomAt.lt {w : World} {r n : Nat} {L : List Sl} {p : Option Addr} (h : RoomAt w r n L p) : r < w.heap.size := Blk.lt h
theorem RoomAt.size {w : World} {r n : Nat} {L : List Sl} {p : Option Addr} (h : RoomAt w r n L p) : w.cell? ⟨r, 0, none⟩ = some (.int .i64 (n : Int)) := Blk.cell h 0
theorem RoomAt.free {w : World} {r n : Nat} {L : List Sl} {p : Option Addr} (h : RoomAt w r n L p) (hL : L.length = 24) : w.cell? ⟨r, 121, none⟩ = some (.pointer p) := by
 rw [Blk.cell h, qcU, List.getElem?_cons_succ, List.getElem?_append_right (by rw [qaL, hL]; omega), qaL, hL]; rfl
theorem RoomAt.slot {w : World} {r n : Nat} {L : List Sl} {p : Option Addr} (h : RoomAt w r n L p) (i : Nat) (hi : i < L.length) : zdL w r 1 i L[i] := by
 have k : ∀ j, j < 5 -> w.cell? ⟨r, 1 + i * 5 + j, none⟩ = (slC L[i])[j]? := fun j hj => by
  rw [Blk.cell h, qcU, show 1 + i * 5 + j = (i * 5 + j) + 1 by omega, List.getElem?_cons_succ, List.getElem?_append_left (by rw [qaL]; omega), qjN L i j hi hj]
 exact ⟨k 0 (by decide), k 1 (by decide), k 2 (by decide), k 3 (by decide), k 4 (by decide)⟩
theorem RoomAt.below {w w' : World} {r n B : Nat} {L : List Sl} {p : Option Addr} (h : RoomAt w r n L p) (hb : Below B w w') (hr : r < B) : RoomAt w' r n L p := Blk.below h hb hr
theorem RoomAt.setFree {w : World} {r n : Nat} {L : List Sl} {p : Option Addr} (h : RoomAt w r n L p) (hL : L.length = 24) (q : Option Addr) : RoomAt (w.setCell ⟨r, 121, none⟩ (.pointer q)) r n L q := by
 have := Blk.set h 121 (.pointer q)
 have e : (qcU n L p).set 121 (.pointer q) = qcU n L q := by
  rw [qcU, List.set_cons_succ, List.set_append_right _ _ (by rw [qaL, hL]; omega), qaL, hL]; rfl
 rw [e] at this
 exact this
theorem RoomAt.setSlot {w : World} {r n : Nat} {L : List Sl} {p : Option Addr} (h : RoomAt w r n L p) (i : Nat) (hi : i < L.length) (s : Sl) :
  RoomAt (((((w.setCell ⟨r, 1 + i * 5, none⟩ (.int .i64 s.gen)).setCell ⟨r, 1 + i * 5 + 1, none⟩ (.bool s.used)).setCell ⟨r, 1 + i * 5 + 2, none⟩ (.string s.key)).setCell ⟨r, 1 + i * 5 + 3, none⟩ (.string s.val)).setCell ⟨r, 1 + i * 5 + 4, none⟩ (.int .i64 s.next)) r n (L.set i s) p := by
 have st := Blk.set (Blk.set (Blk.set (Blk.set (Blk.set h (1 + i * 5) (.int .i64 s.gen)) (1 + i * 5 + 1) (.bool s.used)) (1 + i * 5 + 2) (.string s.key)) (1 + i * 5 + 3) (.string s.val)) (1 + i * 5 + 4) (.int .i64 s.next)
 have hl : (sls L).length = L.length * 5 := qaL L
 have e : (((((qcU n L p).set (1 + i * 5) (.int .i64 s.gen)).set (1 + i * 5 + 1) (.bool s.used)).set (1 + i * 5 + 2) (.string s.key)).set (1 + i * 5 + 3) (.string s.val)).set (1 + i * 5 + 4) (.int .i64 s.next) = qcU n (L.set i s) p := by
  rw [show 1 + i * 5 = i * 5 + 1 by omega, show i * 5 + 1 + 1 = (i * 5 + 1) + 1 by omega, show i * 5 + 1 + 2 = (i * 5 + 2) + 1 by omega, show i * 5 + 1 + 3 = (i * 5 + 3) + 1 by omega, show i * 5 + 1 + 4 = (i * 5 + 4) + 1 by omega]
  simp only [qcU, List.set_cons_succ]
  rw [List.set_append_left _ _ (by omega), List.set_append_left _ _ (by simp only [List.length_set]; omega), List.set_append_left _ _ (by simp only [List.length_set]; omega), List.set_append_left _ _ (by simp only [List.length_set]; omega), List.set_append_left _ _ (by simp only [List.length_set]; omega), set5 _ _ _ _ _ _ _ (by omega), qnX L i s hi]
  rfl
 rw [e] at st
 exact st
def Lnk (w : World) (r : Nat) : Option Addr -> List Nat -> Prop
 | p, [] => p = none
 | p, k :: V => ∃ b q, p = some ⟨b, 0, none⟩ /\ r < b /\ b < w.heap.size /\ w.cell? ⟨b, 0, none⟩ = some (.int .i64 (k : Int)) /\ w.cell? ⟨b, 1, none⟩ = some (.pointer q) /\ Lnk w r q V
theorem Lnk.keep {w w' : World} {r : Nat} (hb : ∀ k, r < k -> k < w.heap.size -> w'.heap[k]? = w.heap[k]?) (hs : w.heap.size <= w'.heap.size) : ∀ {V : List Nat} {p : Option Addr}, Lnk w r p V -> Lnk w' r p V
 | [], _, h => h
 | k :: V, p, h => by
  obtain ⟨b, q, hp, h1, h2, h3, h4, h5⟩ := h
  exact ⟨b, q, hp, h1, Nat.lt_of_lt_of_le h2 hs, (World.cell?_of_block (w := w) (hb b h1 h2)).trans h3, (World.cell?_of_block (w := w) (hb b h1 h2)).trans h4, Lnk.keep hb hs h5⟩
theorem Lnk.below {w w' : World} {r : Nat} {V : List Nat} {p : Option Addr} (h : Lnk w r p V) (hb : Below w.heap.size w w') : Lnk w' r p V := h.keep (fun k _ hk => hb.block k hk) hb.size
theorem Lnk.set {w : World} {r : Nat} {V : List Nat} {p : Option Addr} (h : Lnk w r p V) (j : Nat) (v : Value) : Lnk (w.setCell ⟨r, j, none⟩ v) r p V :=
 h.keep (fun k hk _ => Below.heap_setCell w ⟨r, j, none⟩ v k (Nat.ne_of_gt hk)) (by simp [World.setCell])
theorem qyP {w : World} {r : Nat} {V : List Nat} {p : Option Addr} (h : Lnk w r p V) : Calls Tryz.prog 162 #[.pointer p] w fun e w' => e = .returned (.int .i64 (hdI V)) /\ w' = w := by
 match V, h with
 | [], h =>
  have hp : p = none := h
  subst hp
  go_enter Tryz.func162, Tryz.ntmps162
  go_wp2
  go_ret
  exact ⟨rfl, rfl⟩
 | k :: V, h =>
  obtain ⟨b, q, rfl, _, _, h3, _, _⟩ := h
  go_enter Tryz.func162, Tryz.ntmps162
  go_wp2
  go_ret
  exact ⟨rfl, rfl⟩
theorem qwH {P : Program} (w : World) (src dst e : TypeId) (s : ByteArray) (hs : P.underlying src = some .string) (hd : P.underlying dst = some (.slice e)) (he : P.underlying e = some (.int .u8)) :
  ∃ v w1, (convert src dst (.string s)).run P w = .ok v w1 /\ (convert dst src v).run P w1 = .ok (.string s) w1 /\ Below w.heap.size w w1 := by
 refine ⟨_, _, run_bytes_of_string w src dst e s hs hd he, ?_, (Below.refl _ _).drew.alloc (Nat.le_refl _) _⟩
 have hl : s.size = s.data.toList.length := by simp
 rw [hl, run_convert_bytes_back _ dst src e ⟨w.heap.size, 0, none⟩ _ s.data.toList hd he hs]
 intro j hj
 have hj' : j < s.data.size := by simpa using hj
 rw [Addr.add_lit, Nat.zero_add]
 have := World.cell?_alloc_mark w.drew (bytesRow s (grownCap w s.size 0 e)) e ((bytesRow s (grownCap w s.size 0 e)).size, (bytesRow s (grownCap w s.size 0 e)).size + 1) j
 rw [bytesRow_at s _ j hj'] at this
 rw [<- hl]
 simpa using this
theorem qkL (s : ByteArray) (w : World) : Calls Tryz.prog 134 #[.string s] w fun e w' => e = .returned (.string s) /\ Below w.heap.size w w' := by
 obtain ⟨v, w1, r1, r2, hb⟩ := qwH (P := Tryz.prog) w 9 22 5 s Tryz.underlying9 Tryz.underlying22 Tryz.underlying5
 go_enter Tryz.func134, Tryz.ntmps134
 go_wp2
 go_ret
 exact ⟨rfl, hb⟩
def fits (k v : ByteArray) : Bool := decide (1 <= k.size) && decide (k.size <= 12) && decide (v.size <= 20)
theorem qkP (k v : ByteArray) : fits k v = true ↔ 1 <= k.size /\ k.size <= 12 /\ v.size <= 20 := by simp [fits, and_assoc]
theorem qkQ (k v : ByteArray) (w : World) : Calls Tryz.prog 30 #[.string k, .string v] w fun e w' => e = .returned (.bool (fits k v)) /\ w' = w := by
 have CK : Hid (∀ w : World, Calls Tryz.prog 67 #[.string k] w fun e w' => e = .returned (.bool (decide (1 <= k.size) && decide (k.size <= 12))) /\ w' = w) := by
  show ∀ w : World, _
  intro w
  by_cases h1 : 1 <= k.size
  ·by_cases h2 : k.size <= 12
   ·have HF := hI (show (decide (1 <= k.size) && decide (k.size <= 12)) = true by simp [h1, h2])
    go_enter Tryz.func67, Tryz.ntmps67
    go_wp2
    go_ret
    exact ⟨by first | rfl | (rw [HF.out]; first | rfl | (show Ending.returned (.bool (decide ((k.size : Int) <= 12))) = _; rw [decide_eq_true (by omega)])), rfl⟩
   ·have HF := hI (show (decide (1 <= k.size) && decide (k.size <= 12)) = false by simp [h2])
    go_enter Tryz.func67, Tryz.ntmps67
    go_wp2
    go_ret
    exact ⟨by rw [HF.out]; first | rfl | (show Ending.returned (.bool (decide ((k.size : Int) <= 12))) = _; rw [decide_eq_false (by omega)]), rfl⟩
  ·have HF := hI (show (decide (1 <= k.size) && decide (k.size <= 12)) = false by simp [h1])
   go_enter Tryz.func67, Tryz.ntmps67
   go_wp2
   go_ret
   exact ⟨by first | rfl | (rw [HF.out]; rfl), rfl⟩
 by_cases hk : 1 <= k.size /\ k.size <= 12
 ·have hq : (decide (1 <= k.size) && decide (k.size <= 12)) = true := by simp [hk.1, hk.2]
  rw [hq] at CK
  by_cases h3 : v.size <= 20
  ·have HF := hI (show fits k v = true by simp [fits, hk.1, hk.2, h3])
   clear hk hq
   go_enter Tryz.func30, Tryz.ntmps30
   go_wp2_with fail
   refine (CK.out _).mono ?_
   rintro e w1 ⟨rfl, rfl⟩
   go_wp2
   go_ret
   exact ⟨by rw [HF.out]; first | rfl | (show Ending.returned (.bool (decide ((v.size : Int) <= 20))) = _; rw [decide_eq_true (by omega)]), rfl⟩
  ·have HF := hI (show fits k v = false by simp [fits, h3])
   clear hk hq
   go_enter Tryz.func30, Tryz.ntmps30
   go_wp2_with fail
   refine (CK.out _).mono ?_
   rintro e w1 ⟨rfl, rfl⟩
   go_wp2
   go_ret
   exact ⟨by rw [HF.out]; first | rfl | (show Ending.returned (.bool (decide ((v.size : Int) <= 20))) = _; rw [decide_eq_false (by omega)]), rfl⟩
 ·have hq : (decide (1 <= k.size) && decide (k.size <= 12)) = false := by simp; omega
  rw [hq] at CK
  have HF := hI (show fits k v = false by simp [fits]; omega)
  clear hk hq
  go_enter Tryz.func30, Tryz.ntmps30
  go_wp2_with fail
  refine (CK.out _).mono ?_
  rintro e w1 ⟨rfl, rfl⟩
  go_wp2
  go_ret
  exact ⟨by rw [HF.out]; rfl, rfl⟩
theorem qrV {w : World} {r n : Nat} {L : List Sl} {p : Option Addr} (h : RoomAt w r n L p) (hL : L.length = 24) (i : Nat) (hi : i < 24) (g1 : 0 <= (L[i]'(by omega)).gen) (g2 : (L[i]'(by omega)).gen <= 41666665) :
  Calls Tryz.prog 169 #[.pointer (some ⟨r, 0, none⟩), .int .i64 (i : Int)] w fun e w' => e = .returned (.int .i64 (24 * (L[i]'(by omega)).gen + (i : Int))) /\ w' = w := by
 obtain ⟨y0, _, _, _, _⟩ := h.slot i (by omega)
 generalize (L[i]'(by omega)).gen = g at *
 have k1 : (i : Int) < 24 := by omega
 clear h
 go_enter Tryz.func169, Tryz.ntmps169
 go_wp2
 go_ret
 exact ⟨rfl, rfl⟩
end Go.Proofs.YtigpjmmfelndkaaGreatDoor
