/- A drawn right table, and a key. -/
import Derived.Test.YtinjohpeanlalaaDrawV
import Derived.Test.YtinjohpeanlalaaXM
namespace Go.Proofs.Ytinjohpeanlalaa
open Go.RowKit

set_option maxRecDepth 100000 in
set_option maxHeartbeats 2000000 in
theorem drawRT_any (w : World) (a : Option Addr) (len cap : Nat) (hc : Code w.heap.size w a len) :
    Calls Try.prog 12 #[.slice a len cap] w fun e w' => ∃ (l o : List Ce) (m : Nat) (ao : Option Addr) (ca : Nat) (a' : Option Addr) (ca' : Nat) (ky : ByteArray), e = .returned (.tuple #[tbV ao l.length ca a' o.length ca' (m : Int), .string ky]) ∧ OkN l o (m : Int) ∧ (KIn l ∧ KIn o) ∧ InK ky ∧ w'.ownsRow w.heap.size 47 2 (.slice ao l.length ca) l.length (ces l) ∧ w'.ownsRow w.heap.size 47 2 (.slice a' o.length ca') o.length (ces o) ∧ Below w.heap.size w w' := by
  have F0 : Hid (Blk (w.alloc (.cells #[.slice none 0 0, .slice none 0 0, .int .i64 0] 29)) w.heap.size 29 [.slice none 0 0, .slice none 0 0, .int .i64 0] ∧ Below w.heap.size w (w.alloc (.cells #[.slice none 0 0, .slice none 0 0, .int .i64 0] 29)) ∧ Code (w.alloc (.cells #[.slice none 0 0, .slice none 0 0, .int .i64 0] 29)).heap.size (w.alloc (.cells #[.slice none 0 0, .slice none 0 0, .int .i64 0] 29)) a len) := by
    refine ⟨Blk.new w _ _, (Below.refl _ _).alloc (Nat.le_refl _) _, ?_⟩
    have h1 := hc.below ((Below.refl w.heap.size w).alloc (Nat.le_refl _) (.cells #[.slice none 0 0, .slice none 0 0, .int .i64 0] 29)) (Nat.le_refl _)
    exact ⟨h1.le, fun j hj => by obtain ⟨b, o, v, e1, e2, e3, e4⟩ := h1.cells j hj; exact ⟨b, o, v, e1, by rw [World.size_alloc]; omega, e3, e4⟩⟩
  unfold tbV
  go_enter Try.func12, Try.ntmps12
  go_wp2_with fail
  generalize (w.alloc (.cells #[.slice none 0 0, .slice none 0 0, .int .i64 0] 29)) = w0 at F0 ⊢
  obtain ⟨R0, B0, C0⟩ := F0.out
  refine (new_any w0 a len cap C0).mono ?_
  rintro e w1 ⟨g, rfl, h1, hb1⟩
  have hBg := h1.cur.1
  have R1 := hide1 (R0.below hb1 R0.lt)
  have B1 := hide1 (B0.trans (hb1.mono B0.size))
  have hr0 := R0.lt
  have C2 := hide1 (tableD_any h1)
  unfold tbV at C2
  have s1 := hb1.size
  clear F0 R0 B0 C0 hb1
  go_wp2_with fail
  refine C2.out.mono ?_
  rintro e w2 ⟨l, o, m, ao, ca, a', ca', rfl, hok, hkin, ho1, ho2, h2, hg2⟩
  have R2 := hide1 (R1.out.grw hg2 (by omega))
  have HK := hide1 (And.intro hok hkin)
  have O2 := hide1 (And.intro ho1 ho2)
  have s2 := hg2.size
  have G2 := hide1 hg2
  clear hok hkin ho1 ho2 C2 hg2
  go_wp2_with fail
  refine (key2_any h2).mono ?_
  rintro e w3 ⟨ky, rfl, hik, h3, hg3⟩
  have R3 := hide1 (R2.out.grw hg3 (by omega))
  have O3 := hide1 (show w3.ownsRow w1.heap.size 47 2 (.slice ao l.length ca) l.length (ces l) ∧ w3.ownsRow w1.heap.size 47 2 (.slice a' o.length ca') o.length (ces o) from ⟨own_grown O2.out.1 hg3 (fun k hk => by have := (O2.out.1.lt k hk).1; have := h1.lt; omega), own_grown O2.out.2 hg3 (fun k hk => by have := (O2.out.2.lt k hk).1; have := h1.lt; omega)⟩)
  have B3 := hide1 (B1.out.trans (gbelow (G2.out.trans hg3) (fun g' e => by injection e with e; omega) B1.out.size))
  have y0 : w3.cell? ⟨w.heap.size, 0, none⟩ = some (.slice none 0 0) := R3.out.cell 0
  have y1 : w3.cell? ⟨w.heap.size, 1, none⟩ = some (.slice none 0 0) := R3.out.cell 1
  have y2 : w3.cell? ⟨w.heap.size, 2, none⟩ = some (.int .i64 0) := R3.out.cell 2
  have yf : ∀ j, w3.frozen? ⟨w.heap.size, j, none⟩ = false := fun j => R3.out.froz j
  have HH := hide1 (put3_blk R3.out (.slice ao l.length ca) (.slice a' o.length ca') (.int .i64 (m : Int)))
  have HN : Hid ((put3 w3 w.heap.size (.slice ao l.length ca) (.slice a' o.length ca') (.int .i64 (m : Int))).ownsRow w.heap.size 47 2 (.slice ao l.length ca) l.length (ces l) ∧ (put3 w3 w.heap.size (.slice ao l.length ca) (.slice a' o.length ca') (.int .i64 (m : Int))).ownsRow w.heap.size 47 2 (.slice a' o.length ca') o.length (ces o) ∧ Below w.heap.size w (put3 w3 w.heap.size (.slice ao l.length ca) (.slice a' o.length ca') (.int .i64 (m : Int)))) :=
    ⟨own_put3 (own_base O3.out.1 (by omega)) (fun k hk => by have := (O3.out.1.lt k hk).1; omega) _ _ _, own_put3 (own_base O3.out.2 (by omega)) (fun k hk => by have := (O3.out.2.lt k hk).1; omega) _ _ _, put3_below B3.out (Nat.le_refl _) _ _ _⟩
  have HIK := hide1 hik
  unfold put3 at HH HN
  clear hik hg3
  go_wp2
  refine bodyPost_ret (res2 Try.results12 _ _ w.heap.size 29 #[.slice ao l.length ca, .slice a' o.length ca', .int .i64 (m : Int)] (0, 0) _ rfl HH.out Try.underlying29 rfl (by kernel_rfl)) rfl ?_
  exact ⟨l, o, m, ao, ca, a', ca', ky, rfl, HK.out.1, HK.out.2, HIK.out, HN.out⟩
end Go.Proofs.Ytinjohpeanlalaa
namespace Go.Proofs.Ytinjohpeanlalaa
open Go.RowKit

def nmL (j : Nat) : ByteArray := ⟨(keyL.getD j []).toArray⟩
set_option maxRecDepth 100000 in
theorem names_any (w : World) : Calls Try.prog 18 #[] w fun e w' => e = .returned (.slice (some ⟨w.heap.size, 0, none⟩) 12 12) ∧ (∀ j, j < 12 → w'.cell? ⟨w.heap.size, j, none⟩ = some (.string (nmL j))) ∧ w.heap.size < w'.heap.size ∧ Below w.heap.size w w' := by
  go_enter Try.func18, Try.ntmps18
  go_wp2
  go_ret
  refine ⟨rfl, fun j hj => ?_, by rw [World.size_alloc]; omega, (Below.refl _ _).alloc (Nat.le_refl _) _⟩
  rw [World.cell?_alloc_at _ _ _ _ rfl]
  match j, hj with
  | 0, _ => rfl
  | 1, _ => rfl
  | 2, _ => rfl
  | 3, _ => rfl
  | 4, _ => rfl
  | 5, _ => rfl
  | 6, _ => rfl
  | 7, _ => rfl
  | 8, _ => rfl
  | 9, _ => rfl
  | 10, _ => rfl
  | 11, _ => rfl

set_option maxRecDepth 100000 in
set_option maxHeartbeats 1000000 in
theorem has_any (lo : Option Addr) (ks : List ByteArray) (c : Nat) (x : ByteArray) (w : World) (hl : ks.length ≤ 1048576) (hA : ∀ j (h : j < ks.length), ∃ g, lo = some ⟨g, 0, none⟩ ∧ g < w.heap.size ∧ w.cell? ⟨g, j, none⟩ = some (.string ks[j])) :
    Calls Try.prog 28 #[.slice lo ks.length c, .string x] w fun e w' => ∃ t : Bool, e = .returned (.bool t) ∧ (t = true ↔ x ∈ ks) ∧ w' = w := by
  have HA := hide1 hA
  clear hA
  go_enter Try.func28, Try.ntmps28
  go_wp2
  go_loopw [5] (fun iv wr => ∃ i : Nat, i ≤ ks.length ∧ iv = .int .i64 (i : Int) ∧ Hid (∀ j (h : j < ks.length), j < i → ks[j] ≠ x) ∧ wr = w) (fun iv _ => ks.length - (intOf iv).toNat)
  case atStart => exact ⟨0, by omega, rfl, (fun j _ h => by omega), rfl⟩
  case round =>
    obtain ⟨i, hi, rfl, hno, rfl⟩ := hrel
    by_cases hlt : i < ks.length
    · have k1 : (i : Int) < (ks.length : Int) := by omega
      obtain ⟨g, rfl, _, hc⟩ := HA.out i hlt
      have HN := hide1 (fun (h : ks[i] ≠ x) j (hj : j < ks.length) (hji : j < i + 1) => show ks[j] ≠ x by
        by_cases e : j = i
        · subst e; exact h
        · exact hno.out j hj (by omega))
      have HM := hide1 (List.getElem_mem hlt)
      generalize ks[i] = s at *
      by_cases d : s.toList = x.toList
      · have b1 : (s.toList == x.toList) = true := by rw [d]; simp
        have hsx : s = x := bytes_eq d
        have HY := hide1 (show x ∈ ks by rw [← hsx]; exact HM.out)
        clear d hsx HN HM hno
        go_wp2
        go_ret
        exact ⟨true, rfl, ⟨fun _ => HY.out, fun _ => rfl⟩, rfl⟩
      · have b1 : (s.toList == x.toList) = false := by simpa using d
        have HX := hide1 (HN.out (fun e => d (by rw [e])))
        clear d HN HM hno
        go_wp2
        go_roundw
        case rel => exact ⟨i + 1, by omega, by go_num, HX, by first | rfl | trivial⟩
        case measure => simp [intOf]; omega
    · have k1 : decide ((i : Int) < (ks.length : Int)) = false := decide_eq_false (by omega)
      have HX := hide1 (show x ∉ ks from fun hx => by
        obtain ⟨j, hj, e⟩ := List.mem_iff_getElem.1 hx
        exact hno.out j hj (by omega) e)
      clear hno
      go_wp2
      go_ret
      exact ⟨false, rfl, ⟨(fun h => by cases h), fun h => absurd h HX.out⟩, rfl⟩
end Go.Proofs.Ytinjohpeanlalaa
namespace Go.Proofs.Ytinjohpeanlalaa
open Go.RowKit

theorem keyL_inj : ∀ i j : Fin 12, keyL.getD i.1 [] = keyL.getD j.1 [] → i = j := by decide
theorem nmL_inj {i j : Nat} (hi : i < 12) (hj : j < 12) (e : nmL i = nmL j) : i = j := by
  unfold nmL at e
  injection e with e
  have := keyL_inj ⟨i, hi⟩ ⟨j, hj⟩ (by simpa using congrArg Array.toList e)
  exact Fin.mk.inj this
open Classical in
/-- How many of the first names are among keys. -/
noncomputable def cntK (ks : List ByteArray) : Nat → Nat
  | 0 => 0
  | i + 1 => cntK ks i + (if nmL i ∈ ks then 1 else 0)
theorem cntK_nil : ∀ i, cntK [] i = 0
  | 0 => rfl
  | i + 1 => by rw [cntK, cntK_nil i, if_neg (by simp)]
theorem cntK_cons {ks : List ByteArray} {j : Nat} (hj : j < 12) (hn : nmL j ∉ ks) : ∀ i, i ≤ 12 → cntK (nmL j :: ks) i = cntK ks i + (if j < i then 1 else 0)
  | 0, _ => rfl
  | i + 1, hi => by
    rw [cntK, cntK, cntK_cons hj hn i (by omega)]
    by_cases e : i = j
    · subst e
      rw [if_pos (List.mem_cons_self ..), if_neg hn, if_neg (by omega), if_pos (by omega)]
    · have h1 : (nmL i ∈ nmL j :: ks) ↔ nmL i ∈ ks := by
        rw [List.mem_cons]
        exact ⟨fun h => h.resolve_left (fun e2 => e (nmL_inj (by omega) hj e2)), .inr⟩
      by_cases h2 : nmL i ∈ ks
      · rw [if_pos (h1.2 h2), if_pos h2]
        split <;> split <;> omega
      · rw [if_neg (fun h => h2 (h1.1 h)), if_neg h2]
        split <;> split <;> omega
theorem cntK_all : ∀ (ks : List ByteArray), ks.Nodup → (∀ k ∈ ks, InK k) → cntK ks 12 = ks.length
  | [], _, _ => cntK_nil 12
  | k :: ks, hd, hk => by
    obtain ⟨j, hj, e⟩ := hk k (List.mem_cons_self ..)
    rw [List.nodup_cons] at hd
    have ek : k = nmL j := e
    subst ek
    rw [cntK_cons hj hd.1 12 (Nat.le_refl _), if_pos hj, cntK_all ks hd.2 (fun x hx => hk x (List.mem_cons_of_mem _ hx)), List.length_cons]
/-- The keys of a right table: those that are sought with success. -/
theorem keys_seek {l o : List Ce} {mv : Int} (h : OkT l o mv) {key : ByteArray} (hk : key.toList ≠ []) : (∃ x, seekT l o key = some x) ↔ key ∈ keysL (sortE (entT l o)) := by
  have hp := (sortE_asc (dis_ent h)).2
  constructor
  · rintro ⟨x, hx⟩
    have key2 : ∃ c, c ∈ entT l o ∧ c.key = key := by
      unfold seekT at hx
      split at hx
      · rename_i k hs
        obtain ⟨c, hc, e⟩ := seek_yes hs
        exact ⟨c, List.mem_append_left _ (List.mem_filter.2 ⟨List.mem_of_getElem? hc, by rw [e]; cases hh : key.toList with | nil => exact absurd hh hk | cons a b => rfl⟩), e⟩
      · split at hx
        · rename_i k hs
          obtain ⟨c, hc, e⟩ := seek_yes hs
          exact ⟨c, List.mem_append_right _ (List.mem_filter.2 ⟨List.mem_of_getElem? hc, by rw [e]; cases hh : key.toList with | nil => exact absurd hh hk | cons a b => rfl⟩), e⟩
        · cases hx
    obtain ⟨c, hc, e⟩ := key2
    exact List.mem_map.2 ⟨c, hp.mem_iff.2 hc, e⟩
  · intro hm
    obtain ⟨c, hc, e⟩ := List.mem_map.1 hm
    have := ent_seek h (hp.mem_iff.1 hc)
    rw [e] at this
    exact ⟨_, this.1⟩
theorem keys_in {l o : List Ce} {mv : Int} (h : OkT l o mv) (hk : KIn l ∧ KIn o) : ∀ k ∈ keysL (sortE (entT l o)), InK k := by
  intro k hm
  obtain ⟨c, hc, e⟩ := List.mem_map.1 hm
  have hc := (sortE_asc (dis_ent h)).2.mem_iff.1 hc
  rw [← e]
  rcases List.mem_append.1 hc with hc | hc
  · obtain ⟨i, hi, e2, hn⟩ := keyed_mem hc
    exact hk.1 i c (by rw [List.getElem?_eq_getElem hi, e2]) hn
  · obtain ⟨i, hi, e2, hn⟩ := keyed_mem hc
    exact hk.2 i c (by rw [List.getElem?_eq_getElem hi, e2]) hn
theorem keys_nodup {l o : List Ce} {mv : Int} (h : OkT l o mv) : (keysL (sortE (entT l o))).Nodup := by
  unfold keysL List.Nodup
  rw [List.pairwise_map]
  exact (sortE_asc (dis_ent h)).1.imp (fun h e => by rw [e, kLt_irr] at h; cases h)
end Go.Proofs.Ytinjohpeanlalaa
