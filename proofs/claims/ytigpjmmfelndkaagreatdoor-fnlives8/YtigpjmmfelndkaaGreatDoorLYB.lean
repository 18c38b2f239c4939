import Derived.Test.YtigpjmmfelndkaaGreatDoorLXV
import Derived.Test.YtigpjmmfelndkaaGreatDoorLYA
namespace Go.Proofs.YtigpjmmfelndkaaGreatDoor
open Go.RowKit
set_option linter.unusedVariables false
set_option maxRecDepth 100000
set_option maxHeartbeats 2000000
def qsY (n : Nat) : Nr := { sl := qiO n n, fr := 0, ce := List.replicate (qaN n) nC, od := [], mv := 0, w := [], wm := (qdD n : Int), t := [], tm := (qeF n : Int), s := [], sm := (qdO n : Int), sk := List.replicate 48 0, ad := 0, dr := 0 }
def zeN : Nr := { sl := [], fr := 0, ce := [], od := [], mv := 0, w := [], wm := 0, t := [], tm := 0, s := [], sm := 0, sk := [], ad := 0, dr := 0 }
def noA : NA := ⟨none, 0, none, 0, none, 0, none, 0, none, 0, none, 0, none, 0⟩
theorem qsE (n : Nat) : qwN (qaN n : Int) := by
 unfold qwN qaN
 split
 ·simp
 ·split
  ·simp
  ·split
   ·simp
   ·split <;> simp
theorem qsF (n : Nat) : qaN n <= 64 := by
 unfold qaN
 split
 ·omega
 ·split
  ·omega
  ·split
   ·omega
   ·split <;> omega
theorem OwnN.made {w : World} {B S1 S2 ac cc oc kc : Nat} {a c o k : Option Addr} {sl : List Sl} {ce od : List Ce} {sk : List Int} {fr mv wm tm sm ad dr : Int} (h1 : B <= S1) (h2 : S1 <= S2)
  (ha : w.ownsRow B 99 5 (.slice a sl.length ac) sl.length (sls sl)) (hal : ∀ g, (Value.slice a sl.length ac).ownBlock = some g -> g < S1)
  (hc : Own2 w S1 c cc ce o oc od) (hcl : ∀ g, ((Value.slice c ce.length cc).ownBlock = some g ∨ (Value.slice o od.length oc).ownBlock = some g) -> g < S2)
  (hk : OwnK w S2 k kc sk) :
  OwnN w B ⟨a, ac, c, cc, o, oc, none, 0, none, 0, none, 0, k, kc⟩ { sl := sl, fr := fr, ce := ce, od := od, mv := mv, w := [], wm := wm, t := [], tm := tm, s := [], sm := sm, sk := sk, ad := ad, dr := dr } := by
 refine ⟨ha, qaB hc.1 h1, qaB hc.2.1 h1, World.ownsRow_nil _ _ _ _, World.ownsRow_nil _ _ _ _, World.ownsRow_nil _ _ _ _, hk.base (by omega), ?_⟩
 have q : ∀ g, (Value.slice none 0 0).ownBlock = some g -> False := fun g hg => by simp [Value.ownBlock] at hg
 have c1 : ∀ g, (Value.slice c ce.length cc).ownBlock = some g -> S1 <= g /\ g < S2 := fun g hg => ⟨(hc.1.lt g hg).1, hcl g (.inl hg)⟩
 have c2 : ∀ g, (Value.slice o od.length oc).ownBlock = some g -> S1 <= g /\ g < S2 := fun g hg => ⟨(hc.2.1.lt g hg).1, hcl g (.inr hg)⟩
 have c3 : ∀ g, (Value.slice k sk.length kc).ownBlock = some g -> S2 <= g := fun g hg => (hk.lt g hg).1
 have hap := hc.2.2
 simp only [vlN, List.pairwise_cons, List.mem_cons, List.not_mem_nil, or_false, List.Pairwise.nil, and_true]
 refine ⟨?_, ?_, ?_, ?_, ?_, ?_, ?_⟩
 ·rintro v (rfl | rfl | rfl | rfl | rfl | rfl) g hg e
  ·have := hal g hg; have := c1 g e; omega
  ·have := hal g hg; have := c2 g e; omega
  ·exact q g e
  ·exact q g e
  ·exact q g e
  ·have := hal g hg; have := c3 g e; omega
 ·rintro v (rfl | rfl | rfl | rfl | rfl) g hg e
  ·exact hap g hg e
  ·exact q g e
  ·exact q g e
  ·exact q g e
  ·have := c1 g hg; have := c3 g e; omega
 ·rintro v (rfl | rfl | rfl | rfl) g hg e
  ·exact q g e
  ·exact q g e
  ·exact q g e
  ·have := c2 g hg; have := c3 g e; omega
 ·rintro v (rfl | rfl | rfl) g hg e
  ·exact q g hg
  ·exact q g hg
  ·exact q g hg
 ·rintro v (rfl | rfl) g hg e
  ·exact q g hg
  ·exact q g hg
 ·rintro v rfl g hg e
  exact q g hg
 ·rintro v hv
  cases hv
def RowI (w : World) (lo hi : Nat) (e : TypeId) (size : Nat) (v : Value) (n : Nat) (xs : List Value) : Prop := w.ownsRow lo e size v n xs /\ ∀ g, v.ownBlock = some g -> g < hi
theorem RowI.of {w : World} {lo : Nat} {e : TypeId} {size : Nat} {v : Value} {n : Nat} {xs : List Value} (h : w.ownsRow lo e size v n xs) : RowI w lo w.heap.size e size v n xs := ⟨h, fun g hg => (h.lt g hg).2⟩
theorem RowI.later {w w' : World} {lo hi : Nat} {e : TypeId} {size : Nat} {v : Value} {n : Nat} {xs : List Value} (h : RowI w lo hi e size v n xs) (hb : Below w.heap.size w w') : RowI w' lo hi e size v n xs := ⟨qaE h.1 hb, h.2⟩
theorem RowI.far {w : World} {lo hi : Nat} {e : TypeId} {size : Nat} {v : Value} {n : Nat} {xs : List Value} (h : RowI w lo hi e size v n xs) (a : Addr) (u : Value) (ha : a.block < lo) : RowI (w.setCell a u) lo hi e size v n xs :=
 ⟨qaA h.1 _ _ (fun k hk => by have := (h.1.lt k hk).1; omega), h.2⟩
theorem RowI.wide {w : World} {lo hi lo' hi' : Nat} {e : TypeId} {size : Nat} {v : Value} {n : Nat} {xs : List Value} (h : RowI w lo hi e size v n xs) (h1 : lo' <= lo) (h2 : hi <= hi') : RowI w lo' hi' e size v n xs := ⟨qaB h.1 h1, fun g hg => Nat.lt_of_lt_of_le (h.2 g hg) h2⟩
theorem RowI.apart {w : World} {lo hi lo' hi' : Nat} {e e' : TypeId} {s s' : Nat} {u v : Value} {n n' : Nat} {xs ys : List Value} (h : RowI w lo hi e s u n xs) (h' : RowI w lo' hi' e' s' v n' ys) (hl : hi <= lo') : ∀ g, u.ownBlock = some g -> v.ownBlock ≠ some g := fun g hg e => by have := h.2 g hg; have := (h'.1.lt g e).1; omega
theorem OwnN.seq {w : World} {A : NA} {N : Nr} {B S1 S2 S3 S4 S5 S6 : Nat} (l1 : B <= S1) (l2 : S1 <= S2) (l3 : S2 <= S3) (l4 : S3 <= S4) (l5 : S4 <= S5)
  (ha : RowI w B S1 99 5 (.slice A.a N.sl.length A.ac) N.sl.length (sls N.sl)) (hc : RowI w S1 S2 132 2 (.slice A.c N.ce.length A.cc) N.ce.length (ces N.ce)) (ho : RowI w S1 S2 132 2 (.slice A.o N.od.length A.oc) N.od.length (ces N.od))
  (hco : ∀ g, (Value.slice A.c N.ce.length A.cc).ownBlock = some g -> (Value.slice A.o N.od.length A.oc).ownBlock ≠ some g)
  (hw : RowI w S2 S3 9 1 (.slice A.w N.w.length A.wc) N.w.length (sc N.w)) (ht : RowI w S3 S4 9 1 (.slice A.t N.t.length A.tc) N.t.length (sc N.t)) (hs : RowI w S4 S5 9 1 (.slice A.s N.s.length A.sc) N.s.length (sc N.s)) (hk : RowI w S5 S6 3 1 (.slice A.k N.sk.length A.kc) N.sk.length (iz N.sk)) : OwnN w B A N := by
 refine ⟨ha.1, qaB hc.1 (by omega), qaB ho.1 (by omega), qaB hw.1 (by omega), qaB ht.1 (by omega), qaB hs.1 (by omega), qaB hk.1 (by omega), ?_⟩
 simp only [vlN, List.pairwise_cons, List.mem_cons, List.not_mem_nil, or_false, List.Pairwise.nil, and_true]
 refine ⟨?_, ?_, ?_, ?_, ?_, ?_, ?_⟩
 ·rintro v (rfl | rfl | rfl | rfl | rfl | rfl)
  ·exact ha.apart hc (by omega)
  ·exact ha.apart ho (by omega)
  ·exact ha.apart hw (by omega)
  ·exact ha.apart ht (by omega)
  ·exact ha.apart hs (by omega)
  ·exact ha.apart hk (by omega)
 ·rintro v (rfl | rfl | rfl | rfl | rfl)
  ·exact hco
  ·exact hc.apart hw (by omega)
  ·exact hc.apart ht (by omega)
  ·exact hc.apart hs (by omega)
  ·exact hc.apart hk (by omega)
 ·rintro v (rfl | rfl | rfl | rfl)
  ·exact ho.apart hw (by omega)
  ·exact ho.apart ht (by omega)
  ·exact ho.apart hs (by omega)
  ·exact ho.apart hk (by omega)
 ·rintro v (rfl | rfl | rfl)
  ·exact hw.apart ht (by omega)
  ·exact hw.apart hs (by omega)
  ·exact hw.apart hk (by omega)
 ·rintro v (rfl | rfl)
  ·exact ht.apart hs (by omega)
  ·exact ht.apart hk (by omega)
 ·rintro v rfl
  exact hs.apart hk (by omega)
 ·rintro v hv
  cases hv
theorem qcR {w : World} {r : Nat} {t : TypeId} {A : NA} {N : Nr} (h : Blk w r t (neC A N)) : r < w.heap.size /\ w.cell? ⟨r, 0, none⟩ = some (.slice A.a N.sl.length A.ac) /\ w.cell? ⟨r, 1, none⟩ = some (.int .i64 N.fr) /\ w.cell? ⟨r, 2, none⟩ = some (.slice A.c N.ce.length A.cc) /\ w.cell? ⟨r, 3, none⟩ = some (.slice A.o N.od.length A.oc) /\ w.cell? ⟨r, 4, none⟩ = some (.int .i64 N.mv) /\ w.cell? ⟨r, 5, none⟩ = some (.int .i64 N.wm) /\ w.cell? ⟨r, 6, none⟩ = some (.slice A.w N.w.length A.wc) /\ w.cell? ⟨r, 7, none⟩ = some (.int .i64 N.tm) /\ w.cell? ⟨r, 8, none⟩ = some (.slice A.t N.t.length A.tc) /\ w.cell? ⟨r, 9, none⟩ = some (.int .i64 N.sm) /\ w.cell? ⟨r, 10, none⟩ = some (.slice A.s N.s.length A.sc) /\ w.cell? ⟨r, 11, none⟩ = some (.slice A.k N.sk.length A.kc) /\ w.cell? ⟨r, 12, none⟩ = some (.int .i64 N.ad) /\ w.cell? ⟨r, 13, none⟩ = some (.int .i64 N.dr) :=
 ⟨h.lt, h.cell 0, h.cell 1, h.cell 2, h.cell 3, h.cell 4, h.cell 5, h.cell 6, h.cell 7, h.cell 8, h.cell 9, h.cell 10, h.cell 11, h.cell 12, h.cell 13⟩
theorem qzN {w w1 : World} {t : TypeId} {A : NA} {N : Nr} (hb : Below (w.alloc (.cells (nA A N) t)).heap.size (w.alloc (.cells (nA A N) t)) w1) : Blk w1 w.heap.size t (neC A N) /\ Below w.heap.size w w1 /\ w.heap.size + 1 <= w1.heap.size :=
 ⟨Blk.below (Blk.new w t _) hb (by rw [World.size_alloc]; omega), (bAl _ _).trans (hb.mono (by rw [World.size_alloc]; omega)), by have := hb.size; rw [World.size_alloc] at this; exact this⟩
theorem qvT {w : World} {A : NA} {N : Nr} (hA : RdA w A.a N.sl) (hl : N.sl.length <= 1048576) (k : ByteArray) :
  Calls Tryz.prog 12 #[neV A N, .string k] w fun e w' => ((∃ v, e = .returned (.tuple #[.string v, .bool true]) /\ qkI N.sl k v) ∨ (e = .returned (.tuple #[.string ⟨#[]⟩, .bool false]) /\ ∀ v, ¬ qkI N.sl k v)) /\ Below w.heap.size w w' := by
 have BX := hI (And.intro (show Blk (w.alloc (.cells (nA A N) 39)) w.heap.size 39 (neC A N) from Blk.new w 39 _) (bAl w (.cells (nA A N) 39)))
 have HA := hI hA
 have hl' : (N.sl.length : Int) <= 1048576 := by omega
 clear hA
 unfold neV
 go_enter Tryz.func12, Tryz.ntmps12
 go_wp2
 generalize (w.alloc (.cells (nA A N) 39)) = w0 at BX ⊢
 obtain ⟨K0, B0⟩ := BX.out
 have K0 := hI K0
 have B0 := hI B0
 clear BX
 have x0 : w0.cell? ⟨w.heap.size, 0, none⟩ = _ := cRn (K0.out.cell 0) rfl
 go_loop [6] (fun iv => ∃ i : Nat, i <= N.sl.length /\ iv = .int .i64 (i : Int) /\ Hid (∀ j (h : j < N.sl.length), j < i -> ¬ (N.sl[j].used = true /\ N.sl[j].key = k))) (fun iv => N.sl.length - (intOf iv).toNat)
 case atStart => exact ⟨0, by omega, rfl, fun j _ h => by omega⟩
 case round =>
  obtain ⟨i, hi, rfl, hno⟩ := hrel
  by_cases hlt : i < N.sl.length
  ·have k1 : (i : Int) < (N.sl.length : Int) := by omega
   obtain ⟨g, hao, hg, y0, y1, y2, y3, y4⟩ := (HA.out.later B0.out).at i hlt
   have HS : Hid (∃ (j : Nat) (hj : j < N.sl.length), N.sl[j] = N.sl[i] /\ j = i) := ⟨i, hlt, rfl, rfl⟩
   have HNx := hI (fun (hb : ¬ (N.sl[i].used = true /\ N.sl[i].key = k)) => show ∀ j (h : j < N.sl.length), j < i + 1 -> ¬ (N.sl[j].used = true /\ N.sl[j].key = k) from fun j hj hji => by
    by_cases e : j = i
    ·subst e; exact hb
    ·exact hno.out j hj (by omega))
   have HHv := hI (fun (hu : N.sl[i].used = true) (hk : N.sl[i].key = k) => show qkI N.sl k N.sl[i].val from ⟨i, hlt, hu, hk, rfl⟩)
   generalize N.sl[i] = s at *
   obtain ⟨gn, us, ky, vl, nx⟩ := s
   simp only at y0 y1 y2 y3 y4 HNx HHv
   rw [hao] at x0
   have HAO := hI hao
   clear hao HS hno
   cases us with
   | false =>
    have hn := hI (HNx.out (fun h => by cases h.1))
    clear HNx HHv
    go_wp2
    go_round
    case rel => exact ⟨i + 1, by omega, by go_num, hn⟩
    case measure => simp [intOf]; omega
   | true =>
    by_cases hk : ky = k
    ·have hv := hI (HHv.out rfl hk)
     have qe : (ky.toList == k.toList) = true := by rw [hk]; simp
     clear HNx HHv hk
     go_wp2
     go_ret2
     exact ⟨.inl ⟨vl, rfl, hv.out⟩, B0.out⟩
    ·have hn := hI (HNx.out (fun h => hk h.2))
     have qe : (ky.toList == k.toList) = false := by rw [beq_eq_false_iff_ne]; exact fun e => hk (qtW e)
     clear HNx HHv hk
     go_wp2
     go_round
     case rel => exact ⟨i + 1, by omega, by go_num, hn⟩
     case measure => simp [intOf]; omega
  ·obtain rfl : i = N.sl.length := by omega
   have hn := hI (show ∀ v, ¬ qkI N.sl k v from fun v ⟨j, hj, hu, hk, _⟩ => hno.out j hj hj ⟨hu, hk⟩)
   clear hno
   go_wp2
   go_ret2
   exact ⟨.inr ⟨rfl, hn.out⟩, B0.out⟩
def ValA (N : Nr) (k v : ByteArray) (t : Bool) : Prop := (t = true /\ qkI N.sl k v) ∨ (t = false /\ v = ⟨#[]⟩ /\ ∀ y, ¬ qkI N.sl k y)
theorem zcC {w : World} {A : NA} {N : Nr} (hA : RdN w A N) (hl : SmN N) (k : ByteArray) :
  Calls Tryz.prog 12 #[neV A N, .string k] w fun e w' => ∃ v t, e = .returned (.tuple #[.string v, .bool t]) /\ ValA N k v t /\ Below w.heap.size w w' := by
 refine (qvT hA.fa hl.fa k).mono ?_
 rintro e w' ⟨⟨v, rfl, h⟩ | ⟨rfl, h⟩, hb⟩
 ·exact ⟨v, true, rfl, .inl ⟨rfl, h⟩, hb⟩
 ·exact ⟨_, false, rfl, .inr ⟨rfl, rfl, h⟩, hb⟩
theorem InN.one {N : Nr} (h : InN N) {k x y : ByteArray} (h1 : qkI N.sl k x) (h2 : qkI N.sl k y) : x = y := by
 obtain ⟨i, hi, ui, ki, rfl⟩ := h1
 obtain ⟨j, hj, uj, kj, rfl⟩ := h2
 obtain rfl := h.inT.uniq hi hj ui uj (by rw [ki, kj])
 rfl
theorem ValA.there {N : Nr} (hN : InN N) {k x : ByteArray} {t : Bool} (h : ValA N k x t) : t = true ↔ k ∈ qaD N := by
 rw [<- hN.hasV]
 rcases h with ⟨rfl, h⟩ | ⟨rfl, _, h⟩
 ·exact ⟨fun _ => ⟨_, h⟩, fun _ => rfl⟩
 ·exact ⟨fun e => by (cases e), fun ⟨y, hy⟩ => absurd hy (h y)⟩
structure TwN (w wr : World) (P Q : Nat) (A M : NA) (N K : Nr) : Prop where
 p : Blk wr P 39 (neC A N)
 q : Blk wr Q 39 (neC M K)
 on : OwnN wr w.heap.size A N
 om : OwnN wr w.heap.size M K
 bel : Below w.heap.size w wr
theorem TwN.later {w wr w2 : World} {P Q : Nat} {A M : NA} {N K : Nr} (h : TwN w wr P Q A M N K) (hb : Below wr.heap.size wr w2) : TwN w w2 P Q A M N K :=
 ⟨h.p.below hb h.p.lt, h.q.below hb h.q.lt, h.on.later hb, h.om.later hb, h.bel.trans (hb.mono h.bel.size)⟩
end Go.Proofs.YtigpjmmfelndkaaGreatDoor
