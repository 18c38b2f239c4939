/- The contracts of the statements' functions on lists of texts: equal lists are found equal; what is marked is held. -/
import Derived.Test.YtenmpciimocggaaGreatXA
import Derived.Test.YtenmpciimocggaaGreatXL
namespace Go.Proofs.YtenmpciimocggaaGreat
open Go.RowKit

/-- A slice of n texts, text j being f j, lies in memory. -/
def RdS (w : World) (ao : Option Addr) (n : Nat) (f : Nat → ByteArray) : Prop := ∀ j, j < n → ∃ g, ao = some ⟨g, 0, none⟩ ∧ g < w.heap.size ∧ w.cell? ⟨g, j, none⟩ = some (.string (f j))
theorem RdS.below {w w' : World} {ao : Option Addr} {n B : Nat} {f : Nat → ByteArray} (h : RdS w ao n f) (hB : Below B w w') (hle : w.heap.size ≤ B) : RdS w' ao n f := by
  intro j hj
  obtain ⟨g, h1, h2, h3⟩ := h j hj
  exact ⟨g, h1, Nat.lt_of_lt_of_le h2 hB.size, (hB.cell (p := ⟨g, j, none⟩) (Nat.lt_of_lt_of_le h2 hle)).trans h3⟩

/-- A row of the call's own, its first i texts marked from k on. -/
def mkRow (k : Nat) (xs : List Value) : Nat → List Value
  | 0 => xs
  | i + 1 => (mkRow k xs i).set i (.string (mkT (k + i)))
theorem mkRow_length (k : Nat) (xs : List Value) (i : Nat) : (mkRow k xs i).length = xs.length := by
  induction i with
  | zero => rfl
  | succ i ih => simp [mkRow, ih]
theorem mkRow_at (k : Nat) (xs : List Value) : ∀ i, i ≤ xs.length → ∀ j, j < i → (mkRow k xs i)[j]? = some (.string (mkT (k + j)))
  | 0, _, j, hj => by omega
  | i + 1, hi, j, hj => by
    rw [mkRow, List.getElem?_set]
    by_cases e : i = j
    · rw [if_pos e, if_pos (by rw [mkRow_length]; omega), e]
    · rw [if_neg e]; exact mkRow_at k xs i (by omega) j (by omega)

theorem own_below {w w' : World} {base n : Nat} {e : TypeId} {v : Value} {xs : List Value} (h : w.ownsRow base e 1 v n xs) (hB : Below w.heap.size w w') : w'.ownsRow base e 1 v n xs := by
  refine ⟨h.1, ?_⟩
  rcases h.2 with h2 | ⟨g, cap, cur, hv, hg, hh, r⟩
  · exact .inl h2
  · exact .inr ⟨g, cap, cur, hv, hg, by rw [hB.block g (Array.getElem?_eq_some_iff.1 hh).1]; exact hh, r⟩

theorem rds_of_own {w : World} {base n ca : Nat} {e : TypeId} {ao : Option Addr} {xs : List Value} {f : Nat → ByteArray} (h : w.ownsRow base e 1 (.slice ao n ca) n xs) (hf : ∀ j, j < n → xs[j]? = some (.string (f j))) : RdS w ao n f := by
  intro j hj
  rcases h.2 with ⟨hv, h0⟩ | ⟨g, cap, cur, hv, _, hh, _⟩
  · omega
  · have hg : (Value.slice ao n ca).ownBlock = some g := by rw [hv]; rfl
    simp only [Value.slice.injEq] at hv
    refine ⟨g, hv.1, (Array.getElem?_eq_some_iff.1 hh).1, ?_⟩
    have := h.cells hg j _ (hf j hj)
    rw [Addr.add_lit, Nat.zero_add] at this
    exact this
theorem sc_at (l : List ByteArray) : ∀ j, j < l.length → (sc l)[j]? = some (.string (l.getD j ⟨#[]⟩)) := by
  intro j hj
  simp [sc, hj]
end Go.Proofs.YtenmpciimocggaaGreat
namespace Go.Proofs.YtenmpciimocggaaGreat
open Go.RowKit

def keysL (E : List Ce) : List ByteArray := E.map Ce.key
theorem keysL_length (E : List Ce) : (keysL E).length = E.length := by simp [keysL]
theorem keysL_take {E : List Ce} {i : Nat} (h : i < E.length) : keysL (E.take (i + 1)) = keysL (E.take i) ++ [E[i].key] := by
  rw [List.take_succ_eq_append_getElem h]
  unfold keysL
  rw [List.map_append]
  rfl
/-- What KeysOf answers. -/
def KeysA (l o : List Ce) (mv : Int) (ks : List ByteArray) : Prop := (OkT l o mv ∧ ks = keysL (sortE (entT l o))) ∨ (¬ OkT l o mv ∧ ks = [])
theorem KeysA.det {l o : List Ce} {mv : Int} {ks ks' : List ByteArray} (x : KeysA l o mv ks) (y : KeysA l o mv ks') : ks = ks' := by
  rcases x with ⟨a, rfl⟩ | ⟨a, rfl⟩ <;> rcases y with ⟨b, rfl⟩ | ⟨b, rfl⟩
  · rfl
  · exact absurd a b
  · exact absurd b a
  · rfl
theorem KeysA.small {l o : List Ce} {mv : Int} {ks : List ByteArray} (x : KeysA l o mv ks) : ks.length ≤ 128 := by
  rcases x with ⟨a, rfl⟩ | ⟨a, rfl⟩
  · rw [keysL_length, sortE_length (dis_ent a)]
    have := ent_length (l := l) (o := o)
    have := a.len
    omega
  · exact Nat.zero_le _
theorem Tryz.infoStr : (Tryz.prog.info? 9).map (fun i => (i.zero, i.size, i.bytes)) = some (some (.string ⟨#[]⟩), 1, 16) := by kernel_rfl
theorem sc_length (l : List ByteArray) : (sc l).length = l.length := by simp [sc]

set_option maxRecDepth 100000 in
set_option maxHeartbeats 2000000 in
theorem implKeys_any (ao a' : Option Addr) (l o : List Ce) (ca ca' : Nat) (mv : Int) (w : World) (hl : l.length ≤ 1048576) (hl' : o.length ≤ 1048576) (hA : RdJ w ao l) (hA' : RdJ w a' o) :
    Calls Tryz.prog 45 #[tbV ao l.length ca a' o.length ca' mv] w fun e w' => ∃ po ks pc, e = .returned (.slice po ks.length pc) ∧ KeysA l o mv ks ∧ w'.ownsRow w.heap.size 9 1 (.slice po ks.length pc) ks.length (sc ks) ∧ Below w.heap.size w w' := by
  obtain ⟨i0, hi0, hz0, hz1, hz2⟩ := info_parts Tryz.infoStr
  have CB := hide1 (fun o1 => boardOf_any ao a' l o ca ca' mv (w.alloc o1) hl hl' (hA.later ((Below.refl _ _).alloc (Nat.le_refl _) _)) (hA'.later ((Below.refl _ _).alloc (Nat.le_refl _) _)))
  have BB := hide1 (fun o1 w1 (h : Below (w.alloc o1).heap.size (w.alloc o1) w1) => ((Below.refl w.heap.size w).alloc (Nat.le_refl _) o1).trans (h.mono (by rw [World.size_alloc]; omega)))
  clear hA hA'
  unfold tbV at CB ⊢
  go_enter Tryz.func45, Tryz.ntmps45
  go_wp2_with fail
  refine (CB.out _).mono ?_
  rintro e w1 ⟨⟨b, g, m, rfl, hm, hok, hbr⟩ | ⟨v, rfl, hn⟩, hb1⟩
  · have HOK := hide1 hok
    have B1 := hide1 (BB.out _ _ hb1)
    have CE := hide1 (entries_any hbr hok.len.1 hok.len.2.1 (dis_ent hok))
    have hel : (entT l o).length ≤ 128 := by have := ent_length (l := l) (o := o); have := hok.len; omega
    have HSL := hide1 (sortE_length (dis_ent hok))
    have HSM := hide1 (fun i (hi : i < (sortE (entT l o)).length) => (ent_seek hok ((sortE_asc (dis_ent hok)).2.mem_iff.1 (List.getElem_mem hi))).2.2)
    clear hok hbr hb1 hm
    go_wp2_with fail
    refine CE.out.mono ?_
    rintro e w2 ⟨eo, ec, rfl, hrd, hb2⟩
    have HRD := hide1 hrd
    have B2 := hide1 (B1.out.trans (hb2.mono B1.out.size))
    clear hrd hb2 CE
    obtain ⟨E, hE⟩ : ∃ E, sortE (entT l o) = E := ⟨_, rfl⟩
    rw [hE] at HRD HSL HSM
    have HE0 := hide1 hE
    clear hE
    rw [← HSL.out] at hel ⊢
    go_wp2
    go_loopw [5, 18] (fun lv iv wr => ∃ (i : Nat) (lo : Option Addr) (lc : Nat), i ≤ E.length ∧ iv = .int .i64 (i : Int) ∧ lv = .slice lo i lc ∧ Hid (wr.ownsRow w2.heap.size 9 1 (.slice lo i lc) i (sc (keysL (E.take i)))) ∧ Hid (Below w2.heap.size w2 wr)) (fun _ iv _ => E.length - (intOf iv).toNat)
    case atStart => exact ⟨0, none, 0, by omega, rfl, rfl, World.ownsRow_nil _ _ _ _, Below.refl _ _⟩
    case round =>
      obtain ⟨i, lo, lc, hi, rfl, rfl, hown, hbel⟩ := hrel
      by_cases hlt : i < E.length
      · have k1 : (i : Int) < (E.length : Int) := by omega
        obtain ⟨bb, of, hao, hb, h1⟩ := HRD.out i hlt
        obtain ⟨x0, x1⟩ := h1.below hbel.out hb
        have hkt := hide1 (keysL_take hlt)
        have CN := hide1 (fun w => newT_any E[i].key w)
        generalize E[i] = s at *
        obtain ⟨ky, hh⟩ := s
        simp only at x0 x1 hkt CN
        have BX : Hid (Below w2.heap.size w2 (wr.alloc (.cells #[.string ky, .int .i64 hh] 102))) := hbel.out.alloc hbel.out.size _
        have OX := hide1 (hown.out.alloc (.cells #[.string ky, .int .i64 hh] 102))
        have NN : Hid ((wr.alloc (.cells #[.string ky, .int .i64 hh] 102)).cell? ⟨wr.heap.size, 0, none⟩ = some (.string ky)) := World.cell?_alloc_at _ _ _ _ rfl
        rw [hao]
        clear h1 hao hown hbel
        go_upto_region 8 with fail
        generalize (wr.alloc (.cells #[.string ky, .int .i64 hh] 102)) = wv at NN BX OX ⊢
        have n0 := NN.out
        clear NN x0 x1
        go_wp2_with fail
        refine (CN.out _).mono ?_
        rintro e w5 ⟨rfl, hb5⟩
        have OY := hide1 (own_below OX.out hb5)
        have BY := hide1 (BX.out.trans (hb5.mono BX.out.size))
        have hbs := BY.out.size
        clear hb5 OX BX n0
        go_wp2_with (at_builtin; (refine wpList_push1 rfl _ _ 31 rfl w2.heap.size 9 i0 (.string ⟨#[]⟩) 16 Tryz.underlying31 hi0 hz0 hz1 hz2 rfl (by decide) _ i (sc (keysL (E.take i))) rfl OY.out (.string ky) rfl rfl (by omega) hbs ?_; intro v' w6 hown6 hb6))
        have O6 : Hid (w6.ownsRow w2.heap.size 9 1 v' (i + 1) (sc (keysL (E.take (i + 1))))) := by
          show World.ownsRow _ _ _ _ _ _ _
          rw [hkt.out, sc_append]
          exact hown6
        obtain ⟨lo2, lc2, rfl⟩ := own_slice O6.out
        have B6 := hide1 (BY.out.trans hb6)
        clear hown6 hb6 hkt
        go_wp2
        go_roundw
        case rel => exact ⟨i + 1, lo2, lc2, by omega, by go_num, by first | rfl | (congr 1; omega), O6, B6⟩
        case measure => simp [intOf]; omega
      · obtain rfl : i = E.length := by omega
        have HE := hide1 (show keysL (E.take E.length) = keysL E by rw [List.take_length])
        have O9 := hide1 hown.out
        rw [HE.out] at O9
        have HKL := hide1 (keysL_length E)
        have HKA := hide1 (show KeysA l o mv (keysL E) from .inl ⟨HOK.out, by rw [HE0.out]⟩)
        have B9 := hide1 (B2.out.trans (hbel.out.mono B2.out.size))
        have S9 := hide1 B2.out.size
        clear hown hbel HE
        go_wp2
        go_ret
        exact ⟨lo, keysL E, lc, by rw [HKL.out]; rfl, HKA.out, by rw [HKL.out]; exact own_base O9.out S9.out, B9.out⟩
  · have HN := hide1 (show KeysA l o mv [] from .inr ⟨hn, rfl⟩)
    have B1 := hide1 (BB.out _ _ hb1)
    clear hn hb1
    go_wp2
    go_ret
    exact ⟨none, [], 0, rfl, HN.out, World.ownsRow_nil _ _ _ _, B1.out⟩
end Go.Proofs.YtenmpciimocggaaGreat
namespace Go.Proofs.YtenmpciimocggaaGreat
open Go.RowKit

/-- A row of texts that reads as ks. -/
def RdT (w : World) (lo : Option Addr) (ks : List ByteArray) : Prop := ∀ j (h : j < ks.length), ∃ g, lo = some ⟨g, 0, none⟩ ∧ g < w.heap.size ∧ w.cell? ⟨g, j, none⟩ = some (.string ks[j])
theorem RdT.later {w w' : World} {lo : Option Addr} {ks : List ByteArray} (h : RdT w lo ks) (hb : Below w.heap.size w w') : RdT w' lo ks := by
  intro j hj
  obtain ⟨g, h1, h2, h3⟩ := h j hj
  exact ⟨g, h1, Nat.lt_of_lt_of_le h2 hb.size, (hb.cell (p := ⟨g, j, none⟩) h2).trans h3⟩
theorem rdT_of_own {w : World} {base n ca : Nat} {lo : Option Addr} {ks : List ByteArray} (h : w.ownsRow base 9 1 (.slice lo n ca) n (sc ks)) : RdT w lo ks := by
  intro j hj
  have hn : ks.length = n := by have := h.1; rw [sc_length] at this; omega
  rcases h.2 with ⟨hv, h0⟩ | ⟨g, cap, cur, hv, hb, hh, r⟩
  · omega
  · injection hv with h1 h2 h3
    subst h1
    refine ⟨g, rfl, (Array.getElem?_eq_some_iff.1 hh).1, ?_⟩
    rw [h.cellAt j (by omega)]
    simp [sc, List.getElem?_eq_getElem hj]
/-- A key put into its place. -/
def insK (ks : List ByteArray) (x : ByteArray) : List ByteArray := ks.filter (fun y => kLt y x) ++ (x :: ks.filter (fun y => !kLt y x))
theorem insK_insE (L : List Ce) (x : Ce) : insK (keysL L) x.key = keysL (insE L x) := by
  unfold insK insE keysL
  rw [List.map_append, List.map_cons, List.filter_map, List.filter_map]
  rfl
theorem filter_take {p : ByteArray → Bool} {ks : List ByteArray} {i : Nat} (h : i < ks.length) : (ks.take (i + 1)).filter p = (ks.take i).filter p ++ (if p ks[i] then [ks[i]] else []) := by
  rw [List.take_succ_eq_append_getElem h, List.filter_append]
  congr 1
  cases e : p ks[i] <;> simp [e]

end Go.Proofs.YtenmpciimocggaaGreat
namespace Go.Proofs.YtenmpciimocggaaGreat
open Go.RowKit

end Go.Proofs.YtenmpciimocggaaGreat
