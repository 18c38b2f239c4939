/- The closures of a script's words. -/
import Derived.Test.YtelmchifpgaibaaDoorSAT
import Derived.Test.YtelmchifpgaibaaDoorSAM
import Derived.Test.YtelmchifpgaibaaDoorScE
namespace Go.Proofs.YtelmchifpgaibaaDoor
open Go.RowKit
set_option linter.unusedVariables false

theorem gDq (p : List ByteArray) {i : Nat} (h : i < p.length) : p.getD i ⟨#[]⟩ = p[i] := by simp [List.getD, h]
/-- The captured pointer to the script, in a block of its own. -/
def PtS (G : Nat) (w : World) (c : Nat) : Prop := Blk w c 44 [.pointer (some ⟨G, 0, none⟩)]
/-- A captured kind of event. -/
def KiS (w : World) (c : Nat) (k : Int) : Prop := Blk w c 3 [.int .i64 k]
def doNode (k : Int) (st : Sc) (p : List ByteArray) : Option Sc := if p.length = 1 then ofNode st (p.getD 0 ⟨#[]⟩) ⟨k, 0, 0, 0, ⟨#[]⟩, ⟨#[]⟩⟩ else none
def doMsg (k : Int) (st : Sc) (p : List ByteArray) : Option Sc := if p.length = 1 then ofMsg st (p.getD 0 ⟨#[]⟩) k else none
def doView (st : Sc) (p : List ByteArray) : Option Sc := if p.length = 1 then viewSc st (p.getD 0 ⟨#[]⟩) else none
def doPut (st : Sc) (p : List ByteArray) : Option Sc := if p.length = 3 then ofNode st (p.getD 0 ⟨#[]⟩) ⟨1, 0, 0, 1, p.getD 1 ⟨#[]⟩, p.getD 2 ⟨#[]⟩⟩ else none
def doGet (st : Sc) (p : List ByteArray) : Option Sc := if p.length = 2 then ofNode st (p.getD 0 ⟨#[]⟩) ⟨1, 0, 0, 2, p.getD 1 ⟨#[]⟩, ⟨#[]⟩⟩ else none
/-- What a word's contract says. -/
def DoesE (X : Nat → Prop) (S G : Nat) (w : World) (R : Option Sc) (e : Ending) (w' : World) : Prop := e = .returned (.bool R.isSome) ∧ (∀ st', R = some st' → ∃ a', ScA S G w' a' st') ∧ ScF X w w'

set_option maxRecDepth 100000 in
set_option maxHeartbeats 4000000 in
theorem wordView_any (X : Nat → Prop) (S G : Nat) (a : Sca) (st : Sc) (p : List ByteArray) (ap : Option Addr) (cp c : Nat) (w : World) (h : ScA S G w a st) (hk : st.Ok) (hO : OffA X G w a st) (hc : PtS G w c) (hcX : X c) (hp : RdQ w ap p) (hpX : p ≠ [] → ∀ q o, ap = some ⟨q, o, none⟩ → X q) (hpl : p.length ≤ 10) (hs : ∀ x ∈ p, x.size ≤ 4000) (ht : Tens w) (hm : MaxL w) :
    Calls Tryd.prog 38 #[.slice ap p.length cp, .pointer (some ⟨c, 0, none⟩)] w fun e w' => DoesE X S G w (doView st p) e w' := by
  have HO := hide1 hO.lt
  by_cases c1 : p.length = 1
  · have RES := hide1 (show doView st p = viewSc st (p.getD 0 ⟨#[]⟩) by unfold doView; rw [if_pos c1])
    obtain ⟨g, o, rfl, hg, hx0⟩ := hp 0 (by omega)
    have nn := c1
    have s0 : (p.getD 0 ⟨#[]⟩).size ≤ 4000 := by rw [gDq p (by omega)]; exact hs _ (List.getElem_mem _)
    have y0 : w.cell? ⟨g, o, none⟩ = some (.string (p.getD 0 ⟨#[]⟩)) := by rw [gDq p (by omega)]; exact rd0 hp 0 (by omega)
    generalize p.getD 0 ⟨#[]⟩ = t0 at *
    have C := hide1 (fun w' (hb : Below w.heap.size w w') => addView_any X S G a st t0 w' (h.later hb) hk (hO.later hb) s0 (Tens.later ht hb) (hm.later hb))
    have z0 : w.cell? ⟨c, 0, none⟩ = some (.pointer (some ⟨G, 0, none⟩)) := hc.cell 0
    have hgX : X g := hpX (by intro e; rw [e] at c1; exact absurd c1 (by decide)) g o rfl
    have KP := hide1 (fun (w' : World) (f : ScF X w w') => (show w'.cell? ⟨c, 0, none⟩ = some (.pointer (some ⟨G, 0, none⟩)) ∧ w'.cell? ⟨g, o, none⟩ = some (.string t0) from ⟨(f.cell hcX).trans z0, (f.cell hgX).trans y0⟩))
    clear h hk hc hp hs ht hm hpl hO hcX hgX hpX
    rw [c1]
    clear hx0 nn c1
    go_enter Tryd.func38, Tryd.ntmps38
    go_upto_region 1 with fail
    go_region_held3 (fun w' => w'.cell? ⟨c, 0, none⟩ = some (.pointer (some ⟨G, 0, none⟩)) ∧ w'.cell? ⟨g, o, none⟩ = some (.string t0)) (first | go_keep | exact K5.out) ((go_at_call 39; refine (C.out _ (by go_grown)).mono ?_; rintro e w5 ⟨rfl, h5, f5⟩; have H5 := hide1 h5; have F5 := hide1 ((ScF.of (show Below w.heap.size w _ by go_grown) HO.out).trans f5); have K5 := hide1 (KP.out _ F5.out); clear h5 f5))
    all_goals
      go_wp2
      go_ret
      rw [RES.out]
      exact ⟨rfl, H5.out, F5.out⟩
  · have RES := hide1 (show doView st p = none by unfold doView; rw [if_neg c1])
    obtain ⟨n, hn⟩ : ∃ n, n = p.length := ⟨_, rfl⟩
    rw [← hn]
    have q1 : ((n : Int) == 1) = false := by simp; omega
    clear h hk hc hp hs ht hm hpl hn c1 hO hcX hpX
    go_enter Tryd.func38, Tryd.ntmps38
    go_upto_region 1 with fail
    refine wp_region_grown (by kernel_rfl) (by kernel_rfl) ?_
    (repeat (first | go_big_quiet_skip | (go_big_quiet_want; go_big_quiet_op; go_big_quiet_on)))
    refine wpQuiet_nil ?_
    rintro w2 ⟨m2, rfl⟩
    go_wp2
    go_ret
    rw [RES.out]
    exact ⟨rfl, (fun _ h => by cases h), ScF.of m2.b HO.out⟩

set_option maxRecDepth 100000 in
set_option maxHeartbeats 4000000 in
theorem wordPut_any (X : Nat → Prop) (S G : Nat) (a : Sca) (st : Sc) (p : List ByteArray) (ap : Option Addr) (cp c : Nat) (w : World) (h : ScA S G w a st) (hk : st.Ok) (hO : OffA X G w a st) (hc : PtS G w c) (hcX : X c) (hp : RdQ w ap p) (hpX : p ≠ [] → ∀ q o, ap = some ⟨q, o, none⟩ → X q) (hpl : p.length ≤ 10) (hs : ∀ x ∈ p, x.size ≤ 4000) (ht : Tens w) (hm : MaxL w) :
    Calls Tryd.prog 40 #[.slice ap p.length cp, .pointer (some ⟨c, 0, none⟩)] w fun e w' => DoesE X S G w (doPut st p) e w' := by
  have HO := hide1 hO.lt
  by_cases c1 : p.length = 3
  · have RES := hide1 (show doPut st p = ofNode st (p.getD 0 ⟨#[]⟩) ⟨1, 0, 0, 1, p.getD 1 ⟨#[]⟩, p.getD 2 ⟨#[]⟩⟩ by unfold doPut; rw [if_pos c1])
    obtain ⟨g, o, rfl, hg, hx0⟩ := hp 0 (by omega)
    have nn := c1
    have s0 : (p.getD 0 ⟨#[]⟩).size ≤ 4000 := by rw [gDq p (by omega)]; exact hs _ (List.getElem_mem _)
    have y0 : w.cell? ⟨g, o, none⟩ = some (.string (p.getD 0 ⟨#[]⟩)) := by rw [gDq p (by omega)]; exact rd0 hp 0 (by omega)
    have y1 : w.cell? ⟨g, o + 1, none⟩ = some (.string (p.getD 1 ⟨#[]⟩)) := by rw [gDq p (by omega)]; exact rd0 hp 1 (by omega)
    have y2 : w.cell? ⟨g, o + 2, none⟩ = some (.string (p.getD 2 ⟨#[]⟩)) := by rw [gDq p (by omega)]; exact rd0 hp 2 (by omega)
    generalize p.getD 0 ⟨#[]⟩ = t0 at *
    generalize p.getD 1 ⟨#[]⟩ = t1 at *
    generalize p.getD 2 ⟨#[]⟩ = t2 at *
    have C := hide1 (fun w' (hb : Below w.heap.size w w') => addOfNode_any X S G a st t0 ⟨1, 0, 0, 1, t1, t2⟩ w' (h.later hb) hk (hO.later hb) s0 (Tens.later ht hb))
    have z0 : w.cell? ⟨c, 0, none⟩ = some (.pointer (some ⟨G, 0, none⟩)) := hc.cell 0
    have hgX : X g := hpX (by intro e; rw [e] at c1; exact absurd c1 (by decide)) g o rfl
    have KP := hide1 (fun (w' : World) (f : ScF X w w') => (show w'.cell? ⟨c, 0, none⟩ = some (.pointer (some ⟨G, 0, none⟩)) ∧ w'.cell? ⟨g, o, none⟩ = some (.string t0) ∧ w'.cell? ⟨g, o + 1, none⟩ = some (.string t1) ∧ w'.cell? ⟨g, o + 2, none⟩ = some (.string t2) from ⟨(f.cell hcX).trans z0, (f.cell hgX).trans y0, (f.cell hgX).trans y1, (f.cell hgX).trans y2⟩))
    clear h hk hc hp hs ht hm hpl hO hcX hgX hpX
    rw [c1]
    clear hx0 nn c1
    go_enter Tryd.func40, Tryd.ntmps40
    go_upto_region 1 with fail
    go_region_held3 (fun w' => w'.cell? ⟨c, 0, none⟩ = some (.pointer (some ⟨G, 0, none⟩)) ∧ w'.cell? ⟨g, o, none⟩ = some (.string t0) ∧ w'.cell? ⟨g, o + 1, none⟩ = some (.string t1) ∧ w'.cell? ⟨g, o + 2, none⟩ = some (.string t2)) (first | go_keep | exact K5.out) ((go_at_call 34; refine (C.out _ (by go_grown)).mono ?_; rintro e w5 ⟨rfl, h5, f5⟩; have H5 := hide1 h5; have F5 := hide1 ((ScF.of (show Below w.heap.size w _ by go_grown) HO.out).trans f5); have K5 := hide1 (KP.out _ F5.out); clear h5 f5))
    all_goals
      go_wp2
      go_ret
      rw [RES.out]
      exact ⟨rfl, H5.out, F5.out⟩
  · have RES := hide1 (show doPut st p = none by unfold doPut; rw [if_neg c1])
    obtain ⟨n, hn⟩ : ∃ n, n = p.length := ⟨_, rfl⟩
    rw [← hn]
    have q1 : ((n : Int) == 3) = false := by simp; omega
    clear h hk hc hp hs ht hm hpl hn c1 hO hcX hpX
    go_enter Tryd.func40, Tryd.ntmps40
    go_upto_region 1 with fail
    refine wp_region_grown (by kernel_rfl) (by kernel_rfl) ?_
    (repeat (first | go_big_quiet_skip | (go_big_quiet_want; go_big_quiet_op; go_big_quiet_on)))
    refine wpQuiet_nil ?_
    rintro w2 ⟨m2, rfl⟩
    go_wp2
    go_ret
    rw [RES.out]
    exact ⟨rfl, (fun _ h => by cases h), ScF.of m2.b HO.out⟩

set_option maxRecDepth 100000 in
set_option maxHeartbeats 4000000 in
theorem wordGet_any (X : Nat → Prop) (S G : Nat) (a : Sca) (st : Sc) (p : List ByteArray) (ap : Option Addr) (cp c : Nat) (w : World) (h : ScA S G w a st) (hk : st.Ok) (hO : OffA X G w a st) (hc : PtS G w c) (hcX : X c) (hp : RdQ w ap p) (hpX : p ≠ [] → ∀ q o, ap = some ⟨q, o, none⟩ → X q) (hpl : p.length ≤ 10) (hs : ∀ x ∈ p, x.size ≤ 4000) (ht : Tens w) (hm : MaxL w) :
    Calls Tryd.prog 41 #[.slice ap p.length cp, .pointer (some ⟨c, 0, none⟩)] w fun e w' => DoesE X S G w (doGet st p) e w' := by
  have HO := hide1 hO.lt
  by_cases c1 : p.length = 2
  · have RES := hide1 (show doGet st p = ofNode st (p.getD 0 ⟨#[]⟩) ⟨1, 0, 0, 2, p.getD 1 ⟨#[]⟩, ⟨#[]⟩⟩ by unfold doGet; rw [if_pos c1])
    obtain ⟨g, o, rfl, hg, hx0⟩ := hp 0 (by omega)
    have nn := c1
    have s0 : (p.getD 0 ⟨#[]⟩).size ≤ 4000 := by rw [gDq p (by omega)]; exact hs _ (List.getElem_mem _)
    have y0 : w.cell? ⟨g, o, none⟩ = some (.string (p.getD 0 ⟨#[]⟩)) := by rw [gDq p (by omega)]; exact rd0 hp 0 (by omega)
    have y1 : w.cell? ⟨g, o + 1, none⟩ = some (.string (p.getD 1 ⟨#[]⟩)) := by rw [gDq p (by omega)]; exact rd0 hp 1 (by omega)
    generalize p.getD 0 ⟨#[]⟩ = t0 at *
    generalize p.getD 1 ⟨#[]⟩ = t1 at *
    have C := hide1 (fun w' (hb : Below w.heap.size w w') => addOfNode_any X S G a st t0 ⟨1, 0, 0, 2, t1, ⟨#[]⟩⟩ w' (h.later hb) hk (hO.later hb) s0 (Tens.later ht hb))
    have z0 : w.cell? ⟨c, 0, none⟩ = some (.pointer (some ⟨G, 0, none⟩)) := hc.cell 0
    have hgX : X g := hpX (by intro e; rw [e] at c1; exact absurd c1 (by decide)) g o rfl
    have KP := hide1 (fun (w' : World) (f : ScF X w w') => (show w'.cell? ⟨c, 0, none⟩ = some (.pointer (some ⟨G, 0, none⟩)) ∧ w'.cell? ⟨g, o, none⟩ = some (.string t0) ∧ w'.cell? ⟨g, o + 1, none⟩ = some (.string t1) from ⟨(f.cell hcX).trans z0, (f.cell hgX).trans y0, (f.cell hgX).trans y1⟩))
    clear h hk hc hp hs ht hm hpl hO hcX hgX hpX
    rw [c1]
    clear hx0 nn c1
    go_enter Tryd.func41, Tryd.ntmps41
    go_upto_region 1 with fail
    go_region_held3 (fun w' => w'.cell? ⟨c, 0, none⟩ = some (.pointer (some ⟨G, 0, none⟩)) ∧ w'.cell? ⟨g, o, none⟩ = some (.string t0) ∧ w'.cell? ⟨g, o + 1, none⟩ = some (.string t1)) (first | go_keep | exact K5.out) ((go_at_call 34; refine (C.out _ (by go_grown)).mono ?_; rintro e w5 ⟨rfl, h5, f5⟩; have H5 := hide1 h5; have F5 := hide1 ((ScF.of (show Below w.heap.size w _ by go_grown) HO.out).trans f5); have K5 := hide1 (KP.out _ F5.out); clear h5 f5))
    all_goals
      go_wp2
      go_ret
      rw [RES.out]
      exact ⟨rfl, H5.out, F5.out⟩
  · have RES := hide1 (show doGet st p = none by unfold doGet; rw [if_neg c1])
    obtain ⟨n, hn⟩ : ∃ n, n = p.length := ⟨_, rfl⟩
    rw [← hn]
    have q1 : ((n : Int) == 2) = false := by simp; omega
    clear h hk hc hp hs ht hm hpl hn c1 hO hcX hpX
    go_enter Tryd.func41, Tryd.ntmps41
    go_upto_region 1 with fail
    refine wp_region_grown (by kernel_rfl) (by kernel_rfl) ?_
    (repeat (first | go_big_quiet_skip | (go_big_quiet_want; go_big_quiet_op; go_big_quiet_on)))
    refine wpQuiet_nil ?_
    rintro w2 ⟨m2, rfl⟩
    go_wp2
    go_ret
    rw [RES.out]
    exact ⟨rfl, (fun _ h => by cases h), ScF.of m2.b HO.out⟩

set_option maxRecDepth 100000 in
set_option maxHeartbeats 4000000 in
theorem wordNode_any (X : Nat → Prop) (S G : Nat) (a : Sca) (st : Sc) (p : List ByteArray) (ap : Option Addr) (cp c : Nat) (d : Nat) (k : Int) (w : World) (hd : KiS w d k) (hdX : X d) (h : ScA S G w a st) (hk : st.Ok) (hO : OffA X G w a st) (hc : PtS G w c) (hcX : X c) (hp : RdQ w ap p) (hpX : p ≠ [] → ∀ q o, ap = some ⟨q, o, none⟩ → X q) (hpl : p.length ≤ 10) (hs : ∀ x ∈ p, x.size ≤ 4000) (ht : Tens w) (hm : MaxL w) :
    Calls Tryd.prog 33 #[.slice ap p.length cp, .pointer (some ⟨c, 0, none⟩), .pointer (some ⟨d, 0, none⟩)] w fun e w' => DoesE X S G w (doNode k st p) e w' := by
  have HO := hide1 hO.lt
  by_cases c1 : p.length = 1
  · have RES := hide1 (show doNode k st p = ofNode st (p.getD 0 ⟨#[]⟩) ⟨k, 0, 0, 0, ⟨#[]⟩, ⟨#[]⟩⟩ by unfold doNode; rw [if_pos c1])
    obtain ⟨g, o, rfl, hg, hx0⟩ := hp 0 (by omega)
    have nn := c1
    have s0 : (p.getD 0 ⟨#[]⟩).size ≤ 4000 := by rw [gDq p (by omega)]; exact hs _ (List.getElem_mem _)
    have y0 : w.cell? ⟨g, o, none⟩ = some (.string (p.getD 0 ⟨#[]⟩)) := by rw [gDq p (by omega)]; exact rd0 hp 0 (by omega)
    generalize p.getD 0 ⟨#[]⟩ = t0 at *
    have C := hide1 (fun w' (hb : Below w.heap.size w w') => addOfNode_any X S G a st t0 ⟨k, 0, 0, 0, ⟨#[]⟩, ⟨#[]⟩⟩ w' (h.later hb) hk (hO.later hb) s0 (Tens.later ht hb))
    have z0 : w.cell? ⟨c, 0, none⟩ = some (.pointer (some ⟨G, 0, none⟩)) := hc.cell 0
    have z1 : w.cell? ⟨d, 0, none⟩ = some (.int .i64 k) := hd.cell 0
    have hgX : X g := hpX (by intro e; rw [e] at c1; exact absurd c1 (by decide)) g o rfl
    have KP := hide1 (fun (w' : World) (f : ScF X w w') => (show w'.cell? ⟨c, 0, none⟩ = some (.pointer (some ⟨G, 0, none⟩)) ∧ w'.cell? ⟨g, o, none⟩ = some (.string t0) ∧ w'.cell? ⟨d, 0, none⟩ = some (.int .i64 k) from ⟨(f.cell hcX).trans z0, (f.cell hgX).trans y0, (f.cell hdX).trans z1⟩))
    clear h hk hc hp hs ht hm hpl hO hcX hgX hpX hd hdX
    rw [c1]
    clear hx0 nn c1
    go_enter Tryd.func33, Tryd.ntmps33
    go_upto_region 1 with fail
    go_region_held3 (fun w' => w'.cell? ⟨c, 0, none⟩ = some (.pointer (some ⟨G, 0, none⟩)) ∧ w'.cell? ⟨g, o, none⟩ = some (.string t0) ∧ w'.cell? ⟨d, 0, none⟩ = some (.int .i64 k)) (first | go_keep | exact K5.out) ((go_at_call 34; refine (C.out _ (by go_grown)).mono ?_; rintro e w5 ⟨rfl, h5, f5⟩; have H5 := hide1 h5; have F5 := hide1 ((ScF.of (show Below w.heap.size w _ by go_grown) HO.out).trans f5); have K5 := hide1 (KP.out _ F5.out); clear h5 f5))
    all_goals
      go_wp2
      go_ret
      rw [RES.out]
      exact ⟨rfl, H5.out, F5.out⟩
  · have RES := hide1 (show doNode k st p = none by unfold doNode; rw [if_neg c1])
    obtain ⟨n, hn⟩ : ∃ n, n = p.length := ⟨_, rfl⟩
    rw [← hn]
    have q1 : ((n : Int) == 1) = false := by simp; omega
    clear h hk hc hp hs ht hm hpl hn c1 hO hcX hpX hd hdX
    go_enter Tryd.func33, Tryd.ntmps33
    go_upto_region 1 with fail
    refine wp_region_grown (by kernel_rfl) (by kernel_rfl) ?_
    (repeat (first | go_big_quiet_skip | (go_big_quiet_want; go_big_quiet_op; go_big_quiet_on)))
    refine wpQuiet_nil ?_
    rintro w2 ⟨m2, rfl⟩
    go_wp2
    go_ret
    rw [RES.out]
    exact ⟨rfl, (fun _ h => by cases h), ScF.of m2.b HO.out⟩

set_option maxRecDepth 100000 in
set_option maxHeartbeats 4000000 in
theorem wordMsg_any (X : Nat → Prop) (S G : Nat) (a : Sca) (st : Sc) (p : List ByteArray) (ap : Option Addr) (cp c : Nat) (d : Nat) (k : Int) (w : World) (hd : KiS w d k) (hdX : X d) (h : ScA S G w a st) (hk : st.Ok) (hO : OffA X G w a st) (hc : PtS G w c) (hcX : X c) (hp : RdQ w ap p) (hpX : p ≠ [] → ∀ q o, ap = some ⟨q, o, none⟩ → X q) (hpl : p.length ≤ 10) (hs : ∀ x ∈ p, x.size ≤ 4000) (ht : Tens w) (hm : MaxL w) :
    Calls Tryd.prog 36 #[.slice ap p.length cp, .pointer (some ⟨c, 0, none⟩), .pointer (some ⟨d, 0, none⟩)] w fun e w' => DoesE X S G w (doMsg k st p) e w' := by
  have HO := hide1 hO.lt
  by_cases c1 : p.length = 1
  · have RES := hide1 (show doMsg k st p = ofMsg st (p.getD 0 ⟨#[]⟩) k by unfold doMsg; rw [if_pos c1])
    obtain ⟨g, o, rfl, hg, hx0⟩ := hp 0 (by omega)
    have nn := c1
    have s0 : (p.getD 0 ⟨#[]⟩).size ≤ 4000 := by rw [gDq p (by omega)]; exact hs _ (List.getElem_mem _)
    have y0 : w.cell? ⟨g, o, none⟩ = some (.string (p.getD 0 ⟨#[]⟩)) := by rw [gDq p (by omega)]; exact rd0 hp 0 (by omega)
    generalize p.getD 0 ⟨#[]⟩ = t0 at *
    have C := hide1 (fun w' (hb : Below w.heap.size w w') => addOfMsg_any X S G a st t0 k w' (h.later hb) hk (hO.later hb) s0 (Tens.later ht hb))
    have z0 : w.cell? ⟨c, 0, none⟩ = some (.pointer (some ⟨G, 0, none⟩)) := hc.cell 0
    have z1 : w.cell? ⟨d, 0, none⟩ = some (.int .i64 k) := hd.cell 0
    have hgX : X g := hpX (by intro e; rw [e] at c1; exact absurd c1 (by decide)) g o rfl
    have KP := hide1 (fun (w' : World) (f : ScF X w w') => (show w'.cell? ⟨c, 0, none⟩ = some (.pointer (some ⟨G, 0, none⟩)) ∧ w'.cell? ⟨g, o, none⟩ = some (.string t0) ∧ w'.cell? ⟨d, 0, none⟩ = some (.int .i64 k) from ⟨(f.cell hcX).trans z0, (f.cell hgX).trans y0, (f.cell hdX).trans z1⟩))
    clear h hk hc hp hs ht hm hpl hO hcX hgX hpX hd hdX
    rw [c1]
    clear hx0 nn c1
    go_enter Tryd.func36, Tryd.ntmps36
    go_upto_region 1 with fail
    go_region_held3 (fun w' => w'.cell? ⟨c, 0, none⟩ = some (.pointer (some ⟨G, 0, none⟩)) ∧ w'.cell? ⟨g, o, none⟩ = some (.string t0) ∧ w'.cell? ⟨d, 0, none⟩ = some (.int .i64 k)) (first | go_keep | exact K5.out) ((go_at_call 37; refine (C.out _ (by go_grown)).mono ?_; rintro e w5 ⟨rfl, h5, f5⟩; have H5 := hide1 h5; have F5 := hide1 ((ScF.of (show Below w.heap.size w _ by go_grown) HO.out).trans f5); have K5 := hide1 (KP.out _ F5.out); clear h5 f5))
    all_goals
      go_wp2
      go_ret
      rw [RES.out]
      exact ⟨rfl, H5.out, F5.out⟩
  · have RES := hide1 (show doMsg k st p = none by unfold doMsg; rw [if_neg c1])
    obtain ⟨n, hn⟩ : ∃ n, n = p.length := ⟨_, rfl⟩
    rw [← hn]
    have q1 : ((n : Int) == 1) = false := by simp; omega
    clear h hk hc hp hs ht hm hpl hn c1 hO hcX hpX hd hdX
    go_enter Tryd.func36, Tryd.ntmps36
    go_upto_region 1 with fail
    refine wp_region_grown (by kernel_rfl) (by kernel_rfl) ?_
    (repeat (first | go_big_quiet_skip | (go_big_quiet_want; go_big_quiet_op; go_big_quiet_on)))
    refine wpQuiet_nil ?_
    rintro w2 ⟨m2, rfl⟩
    go_wp2
    go_ret
    rw [RES.out]
    exact ⟨rfl, (fun _ h => by cases h), ScF.of m2.b HO.out⟩

end Go.Proofs.YtelmchifpgaibaaDoor