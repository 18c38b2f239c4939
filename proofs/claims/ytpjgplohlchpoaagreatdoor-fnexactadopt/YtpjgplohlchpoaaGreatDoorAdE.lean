/- A task, a member in memory of its own; a seat: the program's newTask, newMember, seatOf. -/
import Derived.Test.YtpjgplohlchpoaaGreatDoorUAL
import Derived.Test.YtpjgplohlchpoaaGreatDoorUAO
import Derived.Test.YtpjgplohlchpoaaGreatDoorUAQ
import Derived.Test.YtpjgplohlchpoaaGreatDoorUAP
import Derived.Test.YtpjgplohlchpoaaGreatDoorToMb
import Derived.Deep.RegionHeld3
import Derived.Laws.CopyOwn
namespace Go.Proofs.YtpjgplohlchpoaaGreatDoor
open Go.RowKit
set_option linter.unusedVariables false

def tkA (t : Tk) (a : Option Addr) (c : Nat) : Array Value := #[.int .i64 t.op, .int .i64 t.cl, .int .i64 t.nu, .string t.it.k, .string t.it.v, .int .i64 t.it.n, .slice a t.lf.length c]
def zTk : Array Value := #[.int .i64 0, .int .i64 0, .int .i64 0, .string ⟨#[]⟩, .string ⟨#[]⟩, .int .i64 0, .slice none 0 0]

theorem own_blkT {w w' : World} {B n k : Nat} {e : TypeId} {v : Value} {xs : List Value} (h : w.ownsRow B e k v n xs) (hs : w.heap.size ≤ w'.heap.size) (hb : ∀ g, v.ownBlock = some g → w'.heap[g]? = w.heap[g]?) : w'.ownsRow B e k v n xs := by
  rcases h.2 with h0 | ⟨g, cap, cur, hv, h1, h2, h3⟩
  · exact ⟨h.1, .inl h0⟩
  · exact ⟨h.1, .inr ⟨g, cap, cur, hv, h1, (hb g (by rw [hv]; rfl)).trans h2, h3⟩⟩
theorem sizeTk : (Tryz.prog.info? 36).map (·.size) = some 7 := by kernel_rfl
theorem oneTk (t : Tk) (a : Option Addr) (c : Nat) : (tkA t a c).all (·.oneCell') = true := by simp [tkA, Value.oneCell']
theorem lenTk (t : Tk) (a : Option Addr) (c : Nat) : (tkA t a c).size = 7 := rfl
set_option maxRecDepth 100000 in
set_option maxHeartbeats 4000000 in
theorem newTask_any (t : Tk) (a : Option Addr) (c : Nat) (w : World) (hl : t.lf.length ≤ 1048576) (hA : RdZ w a t.lf) :
    Calls Tryz.prog 66 #[.agg (tkA t a c)] w fun e w' => ∃ b d, e = .returned (.agg (tkA t b d)) ∧ OwnK w' w.heap.size b d t.lf ∧ Below w.heap.size w w' := by
  obtain ⟨op, cl, nu, ⟨k, v, n⟩, lf⟩ := t
  dsimp only [tkA] at hl hA ⊢
  have HA := hide1 hA
  clear hA
  have F0 := hide1 (blkN2 w #[.int .i64 op, .int .i64 cl, .int .i64 nu, .string k, .string v, .int .i64 n, .slice a lf.length c] zTk 36 36)
  go_enter Tryz.func66, Tryz.ntmps66
  go_upto_region 1 with fail
  unfold zTk at F0
  generalize ((w.alloc (.cells #[.int .i64 op, .int .i64 cl, .int .i64 nu, .string k, .string v, .int .i64 n, .slice a lf.length c] 36)).alloc (.cells #[.int .i64 0, .int .i64 0, .int .i64 0, .string ⟨#[]⟩, .string ⟨#[]⟩, .int .i64 0, .slice none 0 0] 36)) = w0 at F0 ⊢
  obtain ⟨K0, K1, B0⟩ := F0.out
  have HK0 := hide1 K0
  have HK1 := hide1 K1
  have HB0 := hide1 B0
  have hs0 : w.heap.size + 1 < w0.heap.size := K1.lt
  have a0 : w0.cell? ⟨w.heap.size, 0, none⟩ = some (.int .i64 op) := K0.cell 0
  have a1 : w0.cell? ⟨w.heap.size, 1, none⟩ = some (.int .i64 cl) := K0.cell 1
  have a2 : w0.cell? ⟨w.heap.size, 2, none⟩ = some (.int .i64 nu) := K0.cell 2
  have a3 : w0.cell? ⟨w.heap.size, 3, none⟩ = some (.string k) := K0.cell 3
  have a4 : w0.cell? ⟨w.heap.size, 4, none⟩ = some (.string v) := K0.cell 4
  have a5 : w0.cell? ⟨w.heap.size, 5, none⟩ = some (.int .i64 n) := K0.cell 5
  have a6 : w0.cell? ⟨w.heap.size, 6, none⟩ = some (.slice a lf.length c) := K0.cell 6
  have zf : ∀ j, w0.frozen? ⟨w.heap.size, j, none⟩ = false := fun j => K0.froz j
  have CC := hide1 (fun u (h : Below w0.heap.size w0 u) => implClone_any a lf c u hl (HA.out.later (HB0.out.trans (h.mono HB0.out.size))))
  clear F0 K0 K1 B0
  go_cut [] (fun wx => ∃ b d, BlkA wx w.heap.size 36 (tkA ⟨op, cl, nu, ⟨k, v, n⟩, lf⟩ b d) ∧ BlkA wx (w.heap.size + 1) 36 zTk ∧ OwnK wx (w.heap.size + 2) b d lf ∧ Below w.heap.size w wx)
  case first =>
    go_region_with (first | (go_at_call 79; refine (newItem_any ⟨k, v, n⟩ _).mono ?_; rintro e w1 ⟨rfl, hb1⟩; have b1 : Hid (Below w0.heap.size w0 w1) := (show Below w0.heap.size w0 _ by go_grown).trans (hb1.mono (by go_size)); clear hb1; clear zf a0 a1 a2 a3 a4 a5 a6; have a0 : w1.cell? ⟨w.heap.size, 0, none⟩ = some (.int .i64 op) := (HK0.out.below b1.out HK0.out.lt).cell 0; have a1 : w1.cell? ⟨w.heap.size, 1, none⟩ = some (.int .i64 cl) := (HK0.out.below b1.out HK0.out.lt).cell 1; have a2 : w1.cell? ⟨w.heap.size, 2, none⟩ = some (.int .i64 nu) := (HK0.out.below b1.out HK0.out.lt).cell 2; have a3 : w1.cell? ⟨w.heap.size, 3, none⟩ = some (.string k) := (HK0.out.below b1.out HK0.out.lt).cell 3; have a4 : w1.cell? ⟨w.heap.size, 4, none⟩ = some (.string v) := (HK0.out.below b1.out HK0.out.lt).cell 4; have a5 : w1.cell? ⟨w.heap.size, 5, none⟩ = some (.int .i64 n) := (HK0.out.below b1.out HK0.out.lt).cell 5; have a6 : w1.cell? ⟨w.heap.size, 6, none⟩ = some (.slice a lf.length c) := (HK0.out.below b1.out HK0.out.lt).cell 6; have zf : ∀ j, w1.frozen? ⟨w.heap.size, j, none⟩ = false := fun j => (HK0.out.below b1.out HK0.out.lt).froz j; have hs1 : w.heap.size + 1 < w1.heap.size := Nat.lt_of_lt_of_le hs0 b1.out.size) | (go_at_call 64; refine (CC.out _ (b1.out.trans (show Below w0.heap.size w1 _ by go_grown))).mono ?_; rintro e w2 ⟨b, d, rfl, hO, hb2⟩; have b2 : Hid (Below w0.heap.size w0 w2) := (b1.out.trans (show Below w0.heap.size w1 _ by go_grown)).trans (hb2.mono (by have := b1.out.size; go_size)); have HO := hide1 hO; clear hO; clear hb2; clear zf a0 a1 a2 a3 a4 a5 a6; have a0 : w2.cell? ⟨w.heap.size, 0, none⟩ = some (.int .i64 op) := (HK0.out.below b2.out HK0.out.lt).cell 0; have a1 : w2.cell? ⟨w.heap.size, 1, none⟩ = some (.int .i64 cl) := (HK0.out.below b2.out HK0.out.lt).cell 1; have a2 : w2.cell? ⟨w.heap.size, 2, none⟩ = some (.int .i64 nu) := (HK0.out.below b2.out HK0.out.lt).cell 2; have a3 : w2.cell? ⟨w.heap.size, 3, none⟩ = some (.string k) := (HK0.out.below b2.out HK0.out.lt).cell 3; have a4 : w2.cell? ⟨w.heap.size, 4, none⟩ = some (.string v) := (HK0.out.below b2.out HK0.out.lt).cell 4; have a5 : w2.cell? ⟨w.heap.size, 5, none⟩ = some (.int .i64 n) := (HK0.out.below b2.out HK0.out.lt).cell 5; have a6 : w2.cell? ⟨w.heap.size, 6, none⟩ = some (.slice a lf.length c) := (HK0.out.below b2.out HK0.out.lt).cell 6; have zf : ∀ j, w2.frozen? ⟨w.heap.size, j, none⟩ = false := fun j => (HK0.out.below b2.out HK0.out.lt).froz j; have hs2 : w.heap.size + 1 < w2.heap.size := Nat.lt_of_lt_of_le hs0 b2.out.size))
    all_goals go_wp2_with fail
    all_goals go_meet
    all_goals (
      have G9 := hide1 (show w2.grownBy ((((w2.setCell ⟨w.heap.size, 3, none⟩ (.string k)).setCell ⟨w.heap.size, 4, none⟩ (.string v)).setCell ⟨w.heap.size, 5, none⟩ (.int .i64 n)).setCell ⟨w.heap.size, 6, none⟩ (.slice b lf.length d)) (some w.heap.size) from (gset (gset (gset (gset (World.grownBy.refl w2 (some w.heap.size)) 3 (.string k)) 4 (.string v)) 5 (.int .i64 n)) 6 (.slice b lf.length d)))
      have K9 := hide1 (show BlkA ((((w2.setCell ⟨w.heap.size, 3, none⟩ (.string k)).setCell ⟨w.heap.size, 4, none⟩ (.string v)).setCell ⟨w.heap.size, 5, none⟩ (.int .i64 n)).setCell ⟨w.heap.size, 6, none⟩ (.slice b lf.length d)) w.heap.size 36 #[.int .i64 op, .int .i64 cl, .int .i64 nu, .string k, .string v, .int .i64 n, .slice b lf.length d] from (Blk.set (Blk.set (Blk.set (Blk.set (HK0.out.below b2.out HK0.out.lt) 3 (.string k)) 4 (.string v)) 5 (.int .i64 n)) 6 (.slice b lf.length d)).arr)
      have R9 := hide1 (show BlkA ((((w2.setCell ⟨w.heap.size, 3, none⟩ (.string k)).setCell ⟨w.heap.size, 4, none⟩ (.string v)).setCell ⟨w.heap.size, 5, none⟩ (.int .i64 n)).setCell ⟨w.heap.size, 6, none⟩ (.slice b lf.length d)) (w.heap.size + 1) 36 zTk from (gblk G9.out (HK1.out.below b2.out HK1.out.lt) (by simp)).arr)
      have B9 := hide1 (show Below w.heap.size w ((((w2.setCell ⟨w.heap.size, 3, none⟩ (.string k)).setCell ⟨w.heap.size, 4, none⟩ (.string v)).setCell ⟨w.heap.size, 5, none⟩ (.int .i64 n)).setCell ⟨w.heap.size, 6, none⟩ (.slice b lf.length d)) from (HB0.out.trans (b2.out.mono HB0.out.size)).trans (gbelow G9.out (fun g hg => by injection hg with hg; omega) (by omega)))
      exact ⟨b, d, K9.out, R9.out, gown G9.out (HO.out.base (by have := b1.out.size; go_size)) (fun g hg => by have := HO.out.lt g hg; have := b1.out.size; intro e; injection e with e; omega), B9.out⟩)
  case rest =>
    obtain ⟨b, d, K9, R9, O9, B9⟩ := hcut
    clear HK0 HK1 HB0 a0 a1 a2 a3 a4 a5 a6 zf HA CC
    have K9 := hide1 K9
    have R9 := hide1 R9
    have O9 := hide1 O9
    have B9 := hide1 B9
    go_wp2_with (first | (refine wpList_load_rowG rfl 36 _ rfl w.heap.size rfl 36 (tkA ⟨op, cl, nu, ⟨k, v, n⟩, lf⟩ b d) _ K9.out Tryz.underlying36 rfl sizeTk ?_) | (refine wpList_store_row rfl 36 _ _ rfl (w.heap.size + 1) (tkA ⟨op, cl, nu, ⟨k, v, n⟩, lf⟩ b d) rfl rfl 36 zTk R9.out sizeTk rfl (oneTk _ _ _) ?_))
    have SZ : (wc.setRow (w.heap.size + 1) (tkA ⟨op, cl, nu, ⟨k, v, n⟩, lf⟩ b d)).heap.size = wc.heap.size := by simp [World.setRow]
    have RS := setRow_heap wc (w.heap.size + 1) zTk (tkA ⟨op, cl, nu, ⟨k, v, n⟩, lf⟩ b d) 36 (0, 0) R9.out
    have BS := below_setRow (g := w.heap.size + 1) B9.out (by omega) (tkA ⟨op, cl, nu, ⟨k, v, n⟩, lf⟩ b d)
    have OS := own_blkT O9.out (Nat.le_of_eq SZ.symm) (fun g hg => setRow_other wc (w.heap.size + 1) g (tkA ⟨op, cl, nu, ⟨k, v, n⟩, lf⟩ b d) (by have := O9.out.lt g hg; omega))
    refine bodyPost_ret (results_cell_row Tryz.results66 _ _ (w.heap.size + 1) 36 (tkA ⟨op, cl, nu, ⟨k, v, n⟩, lf⟩ b d) (0, 0) _ rfl RS Tryz.underlying36 rfl (by kernel_rfl)) rfl ?_
    exact ⟨b, d, rfl, own_base OS (by omega), BS⟩
end Go.Proofs.YtpjgplohlchpoaaGreatDoor
