/-
  slices.Backward: over changes, over groups.
-/
import Derived.Test.YtalhiedbhcklgaaVFresh
import Derived.Test.YtalhiedbhcklgaaVRange
import Derived.Shelf.Abstract
import Derived.Shelf.RegionOpen
import Derived.OwnWalkIn
import Derived.TacticsInMore
import Derived.LoopNIn
import Derived.LoopIn
namespace Go.Proofs.Ytalhiedbhcklgaa.U
open Go.RowKit Go.Shelf
set_option linter.unusedVariables false
set_option linter.unusedSimpArgs false
set_option maxRecDepth 100000
attribute [local go_sem] Oper.semAt_some

theorem backwardC_any (a : Option Addr) (n c : Nat) (w : World) :
    Calls Try.prog 53 #[.slice a n c] w fun e w' =>
      e = .returned (.func (.func 55) #[] #[.pointer (some ⟨w.heap.size, 0, none⟩)]) ∧ w' = w.alloc (.cells #[.slice a n c] 41) := by
  go_enter Try.func53, Try.ntmps53
  go_wp2
  go_ret
  exact ⟨rfl, rfl⟩
theorem backwardG_any (a : Option Addr) (n c : Nat) (w : World) :
    Calls Try.prog 54 #[.slice a n c] w fun e w' =>
      e = .returned (.func (.func 56) #[] #[.pointer (some ⟨w.heap.size, 0, none⟩)]) ∧ w' = w.alloc (.cells #[.slice a n c] 86) := by
  go_enter Try.func54, Try.ntmps54
  go_wp2
  go_ret
  exact ⟨rfl, rfl⟩

def dn (n : Nat) : List Nat := (List.range n).reverse
theorem dn_zero : dn 0 = [] := rfl
theorem dn_succ (k : Nat) : dn (k + 1) = k :: dn k := by simp [dn, List.range_succ]
theorem dn_mem {n i : Nat} (h : i ∈ dn n) : i < n := by simpa [dn] using h
theorem dn_split {pre : List Nat} {x n : Nat} (h : pre ++ [x] <+: dn n) : x < n ∧ pre.length = n - 1 - x ∧ pre = (dn n).take (n - 1 - x) := by
  induction n generalizing pre with
  | zero => obtain ⟨t, ht⟩ := h; simp [dn] at ht
  | succ n ih =>
    rw [dn_succ] at h
    cases pre with
    | nil =>
      obtain ⟨t, ht⟩ := h
      simp at ht
      obtain ⟨rfl, _⟩ := ht
      exact ⟨by omega, by simp, by simp⟩
    | cons y pre =>
      obtain ⟨t, ht⟩ := h
      simp at ht
      obtain ⟨rfl, ht⟩ := ht
      obtain ⟨h1, h2, h3⟩ := ih (pre := pre) ⟨t, by simpa using ht⟩
      refine ⟨by omega, by simp; omega, ?_⟩
      rw [dn_succ, show y + 1 - 1 - x = (y - 1 - x) + 1 by omega, List.take_succ_cons, ← h3]

/-- what the iterator hands over: the number, the change -/
def encC (us : List Tri) (i : Nat) : Array Value := #[.int .i64 (i : Nat), .agg #[(us.getD i (.bool false, .bool false, .bool false)).1, (us.getD i (.bool false, .bool false, .bool false)).2.1, (us.getD i (.bool false, .bool false, .bool false)).2.2]]
theorem encC_eq {us : List Tri} {i : Nat} {u : Tri} (h : us[i]? = some u) : encC us i = #[.int .i64 (i : Nat), .agg #[u.1, u.2.1, u.2.2]] := by
  unfold encC
  rw [List.getD_eq_getElem?_getD, h, Option.getD_some]

set_option maxHeartbeats 2000000 in
theorem backC_iter (nn : Nat) (a : Option Addr) (n c : Nat) (us : List Tri) (Bl : Nat) (w : World) (hr : Rc w a n c 3 (trip us)) (E : Nat → Prop) (hE : ∀ b off, a = some ⟨b, off, none⟩ → ¬ E b) (hBl : w.cell? ⟨Bl, 0, none⟩ = some (.slice a n c)) (hEl : ¬ E Bl) :
    Iter Fence.wide nn Try.prog 55 #[.pointer (some ⟨Bl, 0, none⟩)] (encC us) (dn n) E w := by
  intro l J Jx hY h0
  have hlen : us.length = n := by have := hr.1; rw [trip_len] at this; omega
  have hBl2 := block_lt_of_cell hBl
  have hsm : (n : Int) ≤ 9223372036854775807 := by have := hr.small; omega
  have HY := Lib.hid hY; clear hY
  have HE := Lib.hid hE; clear hE
  have HR := Lib.hid hr; clear hr
  have HL := Lib.hid hlen; clear hlen
  have hm1 : (n : Int) - 1 + 1 ≤ n := by omega
  refine callsIn_of_wp Try.func55 rfl trivial ?_ rfl
  simp only [Try.ntmps55, List.size_toArray, List.length_cons, List.length_nil, Nat.reduceAdd, Nat.reduceSub, Array.replicate_succ, Array.replicate_zero, List.push_toArray, List.append_toArray, List.nil_append, List.cons_append]
  gi_wp2
  gi_loopw [3] (fun v3 wr => ∃ (k : Nat) (z : Int) (pre : List Nat), v3 = .int .i64 z ∧ z + 1 ≤ k ∧ (k : Int) ≤ z + 1 ∧ k ≤ n ∧ Hid (pre ++ dn k = dn n) ∧ Hid (J pre wr) ∧ Hid (But w.heap.size E w wr)) (fun v3 _ => (intOf v3 + 1).toNat)
  case atStart => exact ⟨n, _, [], rfl, by omega, by omega, Nat.le_refl _, rfl, h0, But.refl _ _ _⟩
  case round =>
    obtain ⟨k, z, pre, rfl, hz1, hz2, hkn, hpre, hj, hbw⟩ := hrel
    have l1 := (hbw.out.cell (p := ⟨Bl, 0, none⟩) hBl2 hEl).trans hBl
    have hBw : Bl < wr.heap.size := by have := hbw.out.size; omega
    by_cases hlt : 0 ≤ z
    · obtain ⟨j, rfl⟩ : ∃ j : Nat, z = j := ⟨z.toNat, by omega⟩
      have hjk : j + 1 = k := by omega
      subst hjk
      obtain ⟨u, hu⟩ : ∃ u, us[j]? = some u := ⟨_, List.getElem?_eq_getElem (by have := HL.out; omega)⟩
      obtain ⟨b, off, hab, hb, hc⟩ := HR.out.at_ (by omega)
      have q0 := hc _ _ (trip_at0 hu)
      have q1 := hc _ _ (trip_at1 hu)
      have q2 := hc _ _ (trip_at2 hu)
      rw [← Nat.add_assoc] at q1 q2
      have hEb := HE.out b off hab
      have c0 := (hbw.out.cell (p := ⟨b, off + j * 3, none⟩) hb hEb).trans q0
      have c1 := (hbw.out.cell (p := ⟨b, off + j * 3 + 1, none⟩) hb hEb).trans q1
      have c2 := (hbw.out.cell (p := ⟨b, off + j * 3 + 2, none⟩) hb hEb).trans q2
      have hbwr : b < wr.heap.size := by have := hbw.out.size; omega
      have hp1 : pre ++ [j] <+: dn n := ⟨dn j, by have := hpre.out; rw [dn_succ] at this; simpa using this⟩
      have hp2 : pre ++ [j] ++ dn j = dn n := by have := hpre.out; rw [dn_succ] at this; simpa using this
      obtain ⟨fn, tmps, assign, body, hy, hR⟩ := HY.out pre j wr hbw.out.size hj.out hp1
      rw [encC_eq hu] at hy
      obtain ⟨u0, u1, u2⟩ := u
      simp only at c0 c1 c2 hy
      have HP1 := Lib.hid hp1
      have HP2 := Lib.hid hp2
      have HRR := Lib.hid hR
      subst hab
      clear hu hc q0 q1 q2 hp1 hp2 hR hpre hj
      gi_wp2_with fail
      refine ⟨(fun h => by simp [Fence.wide] at h), ?_⟩
      refine HRR.out.mono ?_
      rintro e W3 (⟨rfl, hj3, hb3⟩ | ⟨rfl, hjx3⟩)
      · have HJ3 := Lib.hid hj3
        have HB3 : Hid (But w.heap.size E w W3) := hbw.out.trans hb3
        clear hj3 hb3
        gi_wp2_with fail
        go_roundw
        case rel => exact ⟨j, _, pre ++ [j], rfl, by omega, by omega, by omega, HP2, HJ3, HB3⟩
        case measure => first | (simp [intOf]; done) | (simp [intOf]; omega)
      · gi_wp2_with fail
        refine bodyPost_ret (results_none rfl _ _ _) rfl ?_
        exact ⟨⟨_, rfl⟩, .inr ⟨_, HP1.out, hjx3⟩⟩
    · obtain rfl : k = 0 := by omega
      have HJ0 : Hid (J (dn n) wr) := by
        have e := hpre.out
        rw [dn_zero, List.append_nil] at e
        rw [← e]
        exact hj.out
      clear hpre hj
      gi_wp2
      go_end0
      exact ⟨⟨_, rfl⟩, .inl HJ0.out⟩

/-- what the iterator hands over: the number, the group -/
abbrev Hdr := Option Addr × Nat × Nat
def hdrV (h : Hdr) : Value := .slice h.1 h.2.1 h.2.2
def encG (us : List Hdr) (i : Nat) : Array Value := #[.int .i64 (i : Nat), hdrV (us.getD i (none, 0, 0))]
theorem encG_eq {us : List Hdr} {i : Nat} {u : Hdr} (h : us[i]? = some u) : encG us i = #[.int .i64 (i : Nat), .slice u.1 u.2.1 u.2.2] := by
  unfold encG
  rw [List.getD_eq_getElem?_getD, h, Option.getD_some]
  rfl

set_option maxHeartbeats 2000000 in
theorem backG_iter (nn : Nat) (a : Option Addr) (n c : Nat) (us : List Hdr) (Bl : Nat) (w : World) (hr : Rc w a n c 1 (us.map hdrV)) (E : Nat → Prop) (hE : ∀ b off, a = some ⟨b, off, none⟩ → ¬ E b) (hBl : w.cell? ⟨Bl, 0, none⟩ = some (.slice a n c)) (hEl : ¬ E Bl) :
    Iter Fence.wide nn Try.prog 56 #[.pointer (some ⟨Bl, 0, none⟩)] (encG us) (dn n) E w := by
  intro l J Jx hY h0
  have hlen : us.length = n := by have := hr.1; rw [List.length_map] at this; omega
  have hBl2 := block_lt_of_cell hBl
  have hsm : (n : Int) ≤ 9223372036854775807 := by have := hr.small; omega
  have HY := Lib.hid hY; clear hY
  have HE := Lib.hid hE; clear hE
  have HR := Lib.hid hr; clear hr
  have HL := Lib.hid hlen; clear hlen
  have hm1 : (n : Int) - 1 + 1 ≤ n := by omega
  refine callsIn_of_wp Try.func56 rfl trivial ?_ rfl
  simp only [Try.ntmps56, List.size_toArray, List.length_cons, List.length_nil, Nat.reduceAdd, Nat.reduceSub, Array.replicate_succ, Array.replicate_zero, List.push_toArray, List.append_toArray, List.nil_append, List.cons_append]
  gi_wp2
  gi_loopw [3] (fun v3 wr => ∃ (k : Nat) (z : Int) (pre : List Nat), v3 = .int .i64 z ∧ z + 1 ≤ k ∧ (k : Int) ≤ z + 1 ∧ k ≤ n ∧ Hid (pre ++ dn k = dn n) ∧ Hid (J pre wr) ∧ Hid (But w.heap.size E w wr)) (fun v3 _ => (intOf v3 + 1).toNat)
  case atStart => exact ⟨n, _, [], rfl, by omega, by omega, Nat.le_refl _, rfl, h0, But.refl _ _ _⟩
  case round =>
    obtain ⟨k, z, pre, rfl, hz1, hz2, hkn, hpre, hj, hbw⟩ := hrel
    have l1 := (hbw.out.cell (p := ⟨Bl, 0, none⟩) hBl2 hEl).trans hBl
    have hBw : Bl < wr.heap.size := by have := hbw.out.size; omega
    by_cases hlt : 0 ≤ z
    · obtain ⟨j, rfl⟩ : ∃ j : Nat, z = j := ⟨z.toNat, by omega⟩
      have hjk : j + 1 = k := by omega
      subst hjk
      obtain ⟨u, hu⟩ : ∃ u, us[j]? = some u := ⟨_, List.getElem?_eq_getElem (by have := HL.out; omega)⟩
      obtain ⟨b, off, hab, hb, hc⟩ := HR.out.at_ (by omega)
      have q0 := hc j (hdrV u) (by rw [List.getElem?_map, hu]; rfl)
      have hEb := HE.out b off hab
      have c0 := (hbw.out.cell (p := ⟨b, off + j, none⟩) hb hEb).trans q0
      have hbwr : b < wr.heap.size := by have := hbw.out.size; omega
      have hp1 : pre ++ [j] <+: dn n := ⟨dn j, by have := hpre.out; rw [dn_succ] at this; simpa using this⟩
      have hp2 : pre ++ [j] ++ dn j = dn n := by have := hpre.out; rw [dn_succ] at this; simpa using this
      obtain ⟨fn, tmps, assign, body, hy, hR⟩ := HY.out pre j wr hbw.out.size hj.out hp1
      rw [encG_eq hu] at hy
      obtain ⟨u0, u1, u2⟩ := u
      unfold hdrV at c0
      simp only at c0 hy
      have HP1 := Lib.hid hp1
      have HP2 := Lib.hid hp2
      have HRR := Lib.hid hR
      subst hab
      clear hu hc q0 hp1 hp2 hR hpre hj
      gi_wp2_with fail
      refine ⟨(fun h => by simp [Fence.wide] at h), ?_⟩
      refine HRR.out.mono ?_
      rintro e W3 (⟨rfl, hj3, hb3⟩ | ⟨rfl, hjx3⟩)
      · have HJ3 := Lib.hid hj3
        have HB3 : Hid (But w.heap.size E w W3) := hbw.out.trans hb3
        clear hj3 hb3
        gi_wp2_with fail
        go_roundw
        case rel => exact ⟨j, _, pre ++ [j], rfl, by omega, by omega, by omega, HP2, HJ3, HB3⟩
        case measure => first | (simp [intOf]; done) | (simp [intOf]; omega)
      · gi_wp2_with fail
        refine bodyPost_ret (results_none rfl _ _ _) rfl ?_
        exact ⟨⟨_, rfl⟩, .inr ⟨_, HP1.out, hjx3⟩⟩
    · obtain rfl : k = 0 := by omega
      have HJ0 : Hid (J (dn n) wr) := by
        have e := hpre.out
        rw [dn_zero, List.append_nil] at e
        rw [← e]
        exact hj.out
      clear hpre hj
      gi_wp2
      go_end0
      exact ⟨⟨_, rfl⟩, .inl HJ0.out⟩
end Go.Proofs.Ytalhiedbhcklgaa.U
